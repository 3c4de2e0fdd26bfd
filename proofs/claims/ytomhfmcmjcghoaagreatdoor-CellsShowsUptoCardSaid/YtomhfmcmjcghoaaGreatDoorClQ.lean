/- The walk of the law on making. -/
import Derived.Test.YtomhfmcmjcghoaaGreatDoorClP
import Derived.Test.YtomhfmcmjcghoaaGreatDoorClL
import Derived.Deep.RegionLaw
import Derived.Deep.RegionWith
import Derived.Deep.RegionHeld3
namespace Go.Proofs.YtomhfmcmjcghoaaGreatDoor.Cl
open Go.ChangeShapes Go.WideShapes Go.ChangeAt Go.RowKit Own

theorem below_first {W w1 : World} {E : TypeId} (hg : (W.alloc (.cells #[] E)).grownBy w1 (Value.slice (some ⟨W.heap.size, 0, none⟩) 0 0).ownBlock) : Below W.heap.size W w1 :=
  ((Below.refl W.heap.size W).alloc (Nat.le_refl _) _).grown hg (by simp) (by intro k hk; injection hk with hk; exact Nat.le_of_eq hk)
theorem src_front {w : World} {base : Nat} {E : TypeId} {g N cap : Nat} {zs : List Value} (h : w.ownsRow base E 1 (.slice (some ⟨g, 0, none⟩) N cap) N zs) (k : Nat) (hk : k ≤ N) (c : Nat) : Src w (some ⟨g, 0, none⟩) k c (zs.take k) :=
  .inr ⟨_, rfl, by have := h.1; simp; omega, fun j u hu => h.cells (g := g) rfl j u (by
    rw [List.getElem?_take] at hu
    split at hu
    · exact hu
    · cases hu)⟩
theorem own_cap {w : World} {base : Nat} {E : TypeId} {g n cap : Nat} {zs : List Value} (h : w.ownsRow base E 1 (.slice (some ⟨g, 0, none⟩) n cap) n zs) : n ≤ cap := by
  rcases h.2 with ⟨h0, _⟩ | ⟨g', cap', cur, hv, _, _, hc, _⟩
  · simp at h0
  · injection hv with _ _ h3
    omega
theorem nats_front (k : IntKind) (xs : List Nat) (x : Nat) : (nats k (xs ++ [x])).take xs.length = nats k xs := by
  simp [nats]
theorem strs_front (xs : List ByteArray) (x : ByteArray) : (strs (xs ++ [x])).take xs.length = strs xs := by
  simp [strs]
theorem nats_77 (k : IntKind) (xs : List Nat) : nats k xs ++ [.int k 77] = nats k (xs ++ [77]) := by simp [nats]
theorem nats_take (k : IntKind) (xs : List Nat) (n : Nat) : (nats k xs).take n = nats k (xs.take n) := by simp [nats, List.map_take]
theorem strs_take (xs : List ByteArray) (n : Nat) : (strs xs).take n = strs (xs.take n) := by simp [strs, List.map_take]
theorem bt {y W w9 : World} (h : Below y.heap.size y W) (h9 : Below W.heap.size W w9) : Below y.heap.size y w9 := h.trans (h9.mono h.size)
theorem ba {y W : World} (h : Below y.heap.size y W) (o : Obj) : Below y.heap.size y (W.alloc o) := h.alloc h.size o
theorem bg {y W wt : World} {g0 : Nat} (h : Below y.heap.size y W) (hg : W.grownBy wt (Value.slice (some ⟨g0, 0, none⟩) 0 0).ownBlock) (hle : y.heap.size ≤ g0) : Below y.heap.size y wt :=
  h.trans (below_of_grown hg h.size (fun k hk => by
    simp [Value.ownBlock] at hk
    omega))
theorem step_app {P : Program} {w : World} {ops : Array Oper} {o : Oper} {a : Act} {K : Act → World → Prop} {Q : Exit → Act → World → Prop} {E' : Prop} (hw : Region.wanted o (yielded ops a.tmps) = true) (s x : Operand) (t : TypeId)
    (ho : o.op = .call { callee := .builtin .append, args := #[s, x], argTypes := #[t, t] })
    (base : Nat) (e : TypeId) (z : Value) (bytes : Nat) (ht : P.underlying t = some (.slice e)) (hinfo : (P.info? e).map (fun i => (i.zero, i.size, i.bytes)) = some (some z, 1, bytes)) (hzs : z.cells.size = 1)
    (v : Value) (n : Nat) (xs : List Value) (hs : a.eval s = v) (hown : w.ownsRow base e 1 v n xs)
    (ad : Addr) (m c : Nat) (news : List Value) (hx : a.eval x = .slice (some ad) m c) (hsrc : Src w (some ad) m c news) (h1 : ∀ u ∈ news, u.oneCell' = true)
    (h63 : n + m ≤ 140737488355328) (hbytes : (n + m) * bytes ≤ 140737488355328) (hbase : base ≤ w.heap.size)
    (h : ∀ v' w', w'.ownsRow base e 1 v' (n + m) (xs ++ news) → w.grownBy w' v.ownBlock → K (a.put o.dst v') w') :
    if Region.wanted o (yielded ops a.tmps) = true then Oper.wp P o a w K Q else E' := by
  rw [if_pos hw]
  obtain ⟨i, hi, hz, hz1, hz2⟩ := info_parts hinfo
  rcases hsrc with ⟨h0, _⟩ | ⟨a', ha, hl, hc⟩
  · cases h0
  · injection ha with ha
    subst ha
    exact wp_append_own w s x t ho base e i z 1 bytes ht hi hz hz1 hz2 hzs (by omega) v n xs hs hown ad m c news hx (by omega) hc h1 (by unfold maxLen; omega) hbytes hbase (fun v' w' h2 h3 _ => h v' w' h2 h3)
def tS : ByteArray := ⟨#[116]⟩
def mark : ByteArray := ⟨#[109, 97, 114, 107]⟩
/-- The first k texts spoilt. -/
def spoil (xs : List ByteArray) (k : Nat) : List ByteArray := List.replicate k tS ++ xs.drop k
theorem spoil_len (xs : List ByteArray) (k : Nat) (h : k ≤ xs.length) : (spoil xs k).length = xs.length := by simp [spoil]; omega
theorem spoil_set (xs : List ByteArray) (k : Nat) (h : k < xs.length) : (spoil xs k).set k tS = spoil xs (k + 1) := by
  unfold spoil
  rw [List.set_append_right _ _ (by simp), List.length_replicate, Nat.sub_self, List.drop_eq_getElem_cons h, List.set_cons_zero, List.replicate_succ', List.append_assoc]
  rfl
theorem spoil_front (xs : List ByteArray) (x : ByteArray) : (spoil (xs ++ [x]) xs.length).take xs.length = List.replicate xs.length tS := by
  unfold spoil
  rw [List.take_append_of_le_length (by simp), List.take_of_length_le (by simp)]
theorem vT_rep : ∀ n : Nat, (vT (List.replicate n tS)).length = 2 * n
  | 0 => rfl
  | n + 1 => by
    have := vT_rep n
    simp only [vT, List.replicate_succ, List.flatMap_cons, List.length_append] at this ⊢
    have h : tS.data.toList.length = 1 := rfl
    simp only [List.length_cons, List.length_nil, h]
    omega
theorem lim_set {b : Nat} {xs : List Nat} (h : Lim b xs) (k x : Nat) (hx : x < b) : Lim b (xs.set k x) := by
  intro i hi
  rw [List.length_set] at hi
  rw [List.getD_eq_getElem?_getD]
  by_cases e : k = i
  · subst e
    rw [List.getElem?_set_self hi]
    exact hx
  · rw [List.getElem?_set_ne e, ← List.getD_eq_getElem?_getD]
    exact h i hi
theorem lim_take {b : Nat} {xs : List Nat} (h : Lim b xs) (n : Nat) : Lim b (xs.take n) := by
  intro i hi
  rw [List.length_take] at hi
  rw [List.getD_eq_getElem?_getD, List.getElem?_take, if_pos (by omega), ← List.getD_eq_getElem?_getD]
  exact h i (by omega)
theorem lim_snoc {b : Nat} {xs : List Nat} (h : Lim b xs) (x : Nat) (hx : x < b) : Lim b (xs ++ [x]) := by
  intro i hi
  rw [List.getD_eq_getElem?_getD]
  by_cases e : i < xs.length
  · rw [List.getElem?_append_left e, ← List.getD_eq_getElem?_getD]
    exact h i e
  · have : i = xs.length := by simp at hi; omega
    subst this
    simp [hx]
theorem nats_set (k : IntKind) (xs : List Nat) (i x : Nat) : (nats k xs).set i (.int k (x : Int)) = nats k (xs.set i x) := by simp [nats]

end Go.Proofs.YtomhfmcmjcghoaaGreatDoor.Cl
