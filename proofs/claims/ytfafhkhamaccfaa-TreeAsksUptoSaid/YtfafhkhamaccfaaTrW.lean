/- Nodes in memory of the call's own; the document's Twin. -/
import Derived.Test.YtfafhkhamaccfaaTrV
import Derived.Test.YtfafhkhamaccfaaTrT
import Derived.Laws.OwnMore
namespace Go.Proofs.Ytfafhkhamaccfaa.Tr
open Go.ChangeShapes Go.WideShapes Go.ChangeAt Go.RowKit Own wordsNames

theorem add_plain (b o j : Nat) : (⟨b, o, none⟩ : Addr).add j = ⟨b, o + j, none⟩ := by
  unfold Addr.add
  split
  · next h => have : j = 0 := by simpa using h
              subst this; rfl
  · rfl
section flat
variable {α : Type} (f : α → List Value) (k : Nat) (hk : ∀ x, (f x).length = k)
include hk
theorem flat_len (l : List α) : (l.flatMap f).length = l.length * k := by
  induction l with
  | nil => simp
  | cons x l ih => rw [List.flatMap_cons, List.length_append, hk, ih, List.length_cons, Nat.succ_mul, Nat.add_comm]
theorem flat_at (l : List α) (i j : Nat) (hj : j < k) : (l.flatMap f)[i * k + j]? = (l[i]?).bind fun x => (f x)[j]? := by
  induction l generalizing i with
  | nil => simp
  | cons x l ih =>
    rw [List.flatMap_cons]
    cases i with
    | zero => rw [List.getElem?_append_left (by rw [hk]; omega)]; simp
    | succ i =>
      rw [List.getElem?_append_right (by rw [hk, Nat.succ_mul]; omega), hk, show (i + 1) * k + j - k = i * k + j by rw [Nat.succ_mul]; omega, ih]
      rfl
theorem flat_set (l : List α) (i j : Nat) (hj : j < k) (v : Value) (x y : α) (hx : l[i]? = some x) (hy : (f x).set j v = f y) : (l.flatMap f).set (i * k + j) v = (l.set i y).flatMap f := by
  induction l generalizing i with
  | nil => simp at hx
  | cons z l ih =>
    cases i with
    | zero =>
      simp at hx
      subst hx
      rw [List.flatMap_cons, List.set_append_left _ _ (by rw [hk]; omega), List.set_cons_zero, List.flatMap_cons]
      simp only [Nat.zero_mul, Nat.zero_add, hy]
    | succ i =>
      rw [List.flatMap_cons, List.set_append_right _ _ (by rw [hk, Nat.succ_mul]; omega), hk, show (i + 1) * k + j - k = i * k + j by rw [Nat.succ_mul]; omega, ih i (by simpa using hx), List.set_cons_succ, List.flatMap_cons]
end flat

def propF (p : Pr) : List Value := [.string (str p.1), .string (str p.2)]
def nodeF (d : Nd × Sl) : List Value := [.int .i64 d.1.parent, .string (str d.1.name), .slice d.2.1 d.2.2.1 d.2.2.2]
def propsV (ps : List Pr) : List Value := ps.flatMap propF
def ndsV (L : List Nd) (R : List Sl) : List Value := (L.zip R).flatMap nodeF
theorem propF_len (p : Pr) : (propF p).length = 2 := rfl
theorem nodeF_len (d : Nd × Sl) : (nodeF d).length = 3 := rfl
theorem propsV_len (ps : List Pr) : (propsV ps).length = ps.length * 2 := flat_len propF 2 propF_len ps
theorem ndsV_snoc (L : List Nd) (R : List Sl) (d : Nd) (r : Sl) (h : L.length = R.length) : ndsV L R ++ nodeF (d, r) = ndsV (L ++ [d]) (R ++ [r]) := by
  unfold ndsV
  rw [List.zip_append h, List.flatMap_append]
  simp
theorem one_props (ps : List Pr) : ∀ u ∈ propsV ps, u.oneCell' = true := by
  intro u hu
  obtain ⟨p, _, hu⟩ := List.mem_flatMap.1 hu
  simp [propF] at hu
  rcases hu with rfl | rfl <;> rfl
theorem one_node (d : Nd × Sl) : ∀ u ∈ nodeF d, u.oneCell' = true := by
  intro u hu
  simp [nodeF] at hu
  rcases hu with rfl | rfl | rfl <;> rfl
/-- What can be appended. -/
def SrcK (k : Nat) (w : World) (A : Option Addr) (m c : Nat) (news : List Value) : Prop :=
  (A = none ∧ m = 0 ∧ c = 0 ∧ news = []) ∨ ∃ ad, A = some ad ∧ news.length = m * k ∧ ∀ j u, news[j]? = some u → w.cell? (ad.add j) = some u
def Neat (r : Sl) : Prop := r.1 = none → r = (none, 0, 0)
theorem PropsIn.src {w : World} {A : Option Addr} {n c : Nat} {ps : List Pr} (h : PropsIn w A n ps) (hn : Neat (A, n, c)) : SrcK 2 w A n c (propsV ps) := by
  by_cases h0 : n = 0
  · subst h0
    have e : ps = [] := List.eq_nil_of_length_eq_zero h.1.symm
    subst e
    cases A with
    | none =>
      have := hn rfl
      injection this with _ h2
      injection h2 with _ h3
      exact .inl ⟨rfl, rfl, h3, rfl⟩
    | some ad => exact .inr ⟨ad, rfl, rfl, fun j u hu => by simp [propsV] at hu⟩
  · obtain ⟨b, o, rfl, hlt, hc⟩ := h.at (by omega)
    refine .inr ⟨_, rfl, by rw [propsV_len, h.1], fun j u hu => ?_⟩
    have hj : j < n * 2 := by rw [h.1, ← propsV_len]; exact (List.getElem?_eq_some_iff.1 hu).1
    rw [add_plain]
    rcases Nat.mod_two_eq_zero_or_one j with e | e
    · obtain ⟨i, rfl⟩ : ∃ i, j = i * 2 + 0 := ⟨j / 2, by omega⟩
      have hi : i < n := by omega
      have hp : ps[i]? = some (ps.getD i ([], [])) := by rw [List.getD_eq_getElem?_getD, List.getElem?_eq_getElem (by rw [← h.1]; exact hi)]; rfl
      unfold propsV at hu
      rw [flat_at propF 2 propF_len ps _ 0 (by omega), hp] at hu
      injection hu with hu
      rw [← hu]
      exact (hc i hi).1
    · obtain ⟨i, rfl⟩ : ∃ i, j = i * 2 + 1 := ⟨j / 2, by omega⟩
      have hi : i < n := by omega
      have hp : ps[i]? = some (ps.getD i ([], [])) := by rw [List.getD_eq_getElem?_getD, List.getElem?_eq_getElem (by rw [← h.1]; exact hi)]; rfl
      unfold propsV at hu
      rw [flat_at propF 2 propF_len ps _ 1 (by omega), hp] at hu
      injection hu with hu
      rw [← hu]
      exact (hc i hi).2
theorem own_emptyK (w : World) (e : TypeId) (k : Nat) : (w.alloc (.cells #[] e)).ownsRow w.heap.size e k (.slice (some ⟨w.heap.size, 0, none⟩) 0 0) 0 [] :=
  ⟨by simp, .inr ⟨w.heap.size, 0, #[], rfl, Nat.le_refl _, heap_alloc_new w _, Nat.le_refl _, Nat.zero_le _, by simp, by simp⟩⟩
theorem own_nilK (w : World) (b : Nat) (e : TypeId) (k : Nat) : w.ownsRow b e k (.slice none 0 0) 0 [] := ⟨by simp, .inl ⟨rfl, rfl⟩⟩
theorem own_belowK {w : World} {base : Nat} {e : TypeId} {k : Nat} {v : Value} {n : Nat} {xs : List Value} {w' : World} (h : w.ownsRow base e k v n xs) (hb : Below w.heap.size w w') : w'.ownsRow base e k v n xs := by
  rcases h.2 with ⟨rfl, rfl⟩ | ⟨g, cap, cur, rfl, hg, hh, hr⟩
  · exact ⟨h.1, .inl ⟨rfl, rfl⟩⟩
  · refine ⟨h.1, .inr ⟨g, cap, cur, rfl, hg, ?_, hr⟩⟩
    rw [hb.block g (Array.getElem?_eq_some_iff.1 hh).1]
    exact hh
theorem own_monoK {w : World} {base b' : Nat} {e : TypeId} {k : Nat} {v : Value} {n : Nat} {xs : List Value} (h : w.ownsRow b' e k v n xs) (hb : base ≤ b') : w.ownsRow base e k v n xs := by
  refine ⟨h.1, ?_⟩
  rcases h.2 with h0 | ⟨g, cap, cur, hv, hg, hr⟩
  · exact .inl h0
  · exact .inr ⟨g, cap, cur, hv, Nat.le_trans hb hg, hr⟩
theorem own_apartK {w : World} {b1 b2 : Nat} {E1 E2 : TypeId} {k1 k2 : Nat} {v1 v2 : Value} {n1 n2 : Nat} {x1 x2 : List Value} (h1 : w.ownsRow b1 E1 k1 v1 n1 x1) (h2 : w.ownsRow b2 E2 k2 v2 n2 x2) (hne : E1 ≠ E2) : v1.ownBlock = none ∨ v1.ownBlock ≠ v2.ownBlock := by
  rcases h1.2 with ⟨rfl, _⟩ | ⟨g1, c1, cur1, rfl, _, hh1, _⟩
  · exact .inl rfl
  · refine .inr ?_
    rcases h2.2 with ⟨rfl, _⟩ | ⟨g2, c2, cur2, rfl, _, hh2, _⟩
    · simp [Value.ownBlock]
    · intro e
      simp [Value.ownBlock] at e
      subst e
      rw [hh1] at hh2
      injection hh2 with hh2
      injection hh2 with _ ht
      exact hne ht
theorem wpList_append_srcK {P : Program} {w : World} {ops : Array Oper} {rest : List Oper} {o : Oper} {a : Act} {Q : Exit → Act → World → Prop} (hgd : o.guard = none) (s x : Operand) (t : TypeId)
    (ho : o.op = .call { callee := .builtin .append, args := #[s, x], argTypes := #[t, t] })
    (base : Nat) (e : TypeId) (z : Value) (k bytes : Nat) (hk : 0 < k) (ht : P.underlying t = some (.slice e)) (hinfo : (P.info? e).map (fun i => (i.zero, i.size, i.bytes)) = some (some z, k, bytes)) (hzs : z.cells.size = k)
    (v : Value) (n : Nat) (xs : List Value) (hs : a.eval s = v) (hown : w.ownsRow base e k v n xs)
    (A : Option Addr) (m c : Nat) (news : List Value) (hx : a.eval x = .slice A m c) (hsrc : SrcK k w A m c news) (h1 : ∀ u ∈ news, u.oneCell' = true)
    (h63 : n + m ≤ 140737488355328) (hbytes : (n + m) * bytes ≤ 140737488355328) (hbase : base ≤ w.heap.size)
    (h : ∀ v' w', w'.ownsRow base e k v' (n + m) (xs ++ news) → w.grownBy w' v.ownBlock → wpList P ops Q rest (a.put o.dst v') w') : wpList P ops Q (o :: rest) a w := by
  have hi0 : ∃ i, P.info? e = some i ∧ i.zero = some z ∧ i.size = k ∧ i.bytes = bytes := by
    cases hI : P.info? e with
    | none => rw [hI] at hinfo; simp at hinfo
    | some i =>
      rw [hI] at hinfo
      simp at hinfo
      exact ⟨i, rfl, hinfo.1, hinfo.2.1, hinfo.2.2⟩
  obtain ⟨i, hi, hz, hz1, hz2⟩ := hi0
  rcases hsrc with ⟨rfl, rfl, rfl, rfl⟩ | ⟨ad, rfl, hl, hc⟩
  · exact wpList_append_own_none hgd s x t ho base e i k ht hi v n xs hs hown hx (h v w (by simpa using hown) (World.grownBy.refl w _))
  · exact wpList_append_own w hgd s x t ho base e i z k bytes ht hi hz hz1 hz2 hzs hk v n xs hs hown ad m c news hx hl hc h1 (by unfold maxLen; omega) hbytes hbase (fun v' w' h2 h3 _ => h v' w' h2 h3)
theorem own_srcK {w : World} {base : Nat} {e : TypeId} {k : Nat} {v : Value} {n : Nat} {xs : List Value} (h : w.ownsRow base e k v n xs) : ∃ A c, v = .slice A n c ∧ Neat (A, n, c) ∧ n ≤ c := by
  rcases h.2 with ⟨rfl, rfl⟩ | ⟨g, cap, cur, rfl, _, _, hc, _⟩
  · exact ⟨none, 0, rfl, fun _ => rfl, Nat.le_refl _⟩
  · exact ⟨_, cap, rfl, fun e => (by cases e), hc⟩
theorem own_props {w : World} {base : Nat} {A : Option Addr} {n c : Nat} {ps : List Pr} (h : w.ownsRow base 54 2 (.slice A n c) n (propsV ps)) : PropsIn w A n ps := by
  have hn : n = ps.length := by have := h.1; rw [propsV_len] at this; omega
  refine ⟨hn, ?_⟩
  rcases h.2 with ⟨_, h0⟩ | ⟨g, cap, cur, hv, hb, hh, _⟩
  · exact .inl h0
  · injection hv with hA _ hc
    subst hA
    refine .inr ⟨g, 0, rfl, (Array.getElem?_eq_some_iff.1 hh).1, fun i hi => ?_⟩
    have hp : ps[i]? = some (ps.getD i ([], [])) := by rw [List.getD_eq_getElem?_getD, List.getElem?_eq_getElem (by rw [← hn]; exact hi)]; rfl
    constructor
    · have := h.cells (g := g) rfl (i * 2 + 0) (.string (str (ps.getD i ([], [])).1)) (by unfold propsV; rw [flat_at propF 2 propF_len ps i 0 (by omega), hp]; rfl)
      rw [add_plain] at this; exact this
    · have := h.cells (g := g) rfl (i * 2 + 1) (.string (str (ps.getD i ([], [])).2)) (by unfold propsV; rw [flat_at propF 2 propF_len ps i 1 (by omega), hp]; rfl)
      rw [add_plain] at this; exact this
def rowV (R : List Sl) (i : Nat) : Value := .slice (R.getD i sl0).1 (R.getD i sl0).2.1 (R.getD i sl0).2.2
/-- The props of nodes, each in a block of its own. -/
def PropsOwn (w : World) (base : Nat) (R : List Sl) (L : List Nd) : Prop :=
  R.length = L.length ∧ (∀ i, i < R.length → w.ownsRow base 54 2 (rowV R i) (R.getD i sl0).2.1 (propsV (L.getD i nd0).props)) ∧
    ∀ i j, i < R.length → j < R.length → i ≠ j → (rowV R i).ownBlock = none ∨ (rowV R i).ownBlock ≠ (rowV R j).ownBlock
section
variable {w w' : World} {base : Nat} {R : List Sl} {L : List Nd}
theorem PropsOwn.nil (w : World) (base : Nat) : PropsOwn w base [] [] := ⟨rfl, fun i hi => absurd hi (by simp), fun i j hi => absurd hi (by simp)⟩
theorem PropsOwn.below (h : PropsOwn w base R L) (hb : Below w.heap.size w w') : PropsOwn w' base R L := ⟨h.1, fun i hi => own_belowK (h.2.1 i hi) hb, h.2.2⟩
theorem PropsOwn.kept {row : Option Nat} (h : PropsOwn w base R L) (hg : w.grownBy w' row) (hne : ∀ i, i < R.length → (rowV R i).ownBlock = none ∨ (rowV R i).ownBlock ≠ row) : PropsOwn w' base R L :=
  ⟨h.1, fun i hi => (h.2.1 i hi).kept hg (hne i hi), h.2.2⟩
theorem getD_sn {α : Type} (R : List α) (r z : α) (i : Nat) (hi : i < R.length) : (R ++ [r]).getD i z = R.getD i z := by
  rw [List.getD_eq_getElem?_getD, List.getD_eq_getElem?_getD, List.getElem?_append_left hi]
theorem getD_la {α : Type} (R : List α) (r z : α) : (R ++ [r]).getD R.length z = r := by
  rw [List.getD_eq_getElem?_getD, List.getElem?_append_right (Nat.le_refl _), Nat.sub_self]
  rfl
theorem PropsOwn.snoc (h : PropsOwn w base R L) {b' : Nat} {A : Option Addr} {n c : Nat} {d : Nd} (ho : w.ownsRow b' 54 2 (.slice A n c) n (propsV d.props)) (hb : base ≤ b') (hlt : ∀ i, i < R.length → ∀ g, (rowV R i).ownBlock = some g → g < b') : PropsOwn w base (R ++ [(A, n, c)]) (L ++ [d]) := by
  have e1 : ∀ i, i < R.length → rowV (R ++ [(A, n, c)]) i = rowV R i := fun i hi => by unfold rowV; rw [getD_sn _ _ _ _ hi]
  have e2 : rowV (R ++ [(A, n, c)]) R.length = .slice A n c := by unfold rowV; rw [getD_la]
  refine ⟨by simp [h.1], fun i hi => ?_, fun i j hi hj hij => ?_⟩
  · by_cases hil : i < R.length
    · rw [e1 i hil, getD_sn _ _ _ _ hil, getD_sn L d nd0 i (by rw [← h.1]; exact hil)]
      exact h.2.1 i hil
    · obtain rfl : i = R.length := by simp at hi; omega
      rw [e2, getD_la, h.1, getD_la]
      exact own_monoK ho hb
  · by_cases hil : i < R.length
    · rw [e1 i hil]
      by_cases hjl : j < R.length
      · rw [e1 j hjl]
        exact h.2.2 i j hil hjl hij
      · obtain rfl : j = R.length := by simp at hj; omega
        rw [e2]
        cases hv : (rowV R i).ownBlock with
        | none => exact .inl rfl
        | some g =>
          refine .inr fun e => ?_
          have h1 := hlt i hil g hv
          have h2 := (ho.lt g e.symm).1
          omega
    · obtain rfl : i = R.length := by simp at hi; omega
      have hjl : j < R.length := by simp at hj; omega
      rw [e2, e1 j hjl]
      cases hv : (Value.slice A n c).ownBlock with
      | none => exact .inl rfl
      | some g =>
        refine .inr fun e => ?_
        have h1 := hlt j hjl g e.symm
        have h2 := (ho.lt g hv).1
        omega
end
/-- Nodes in memory of the call's own. -/
def NodesOwn (w : World) (base : Nat) (A : Option Addr) (n c : Nat) (L : List Nd) (R : List Sl) : Prop :=
  n = L.length ∧ w.ownsRow base 38 3 (.slice A n c) n (ndsV L R) ∧ PropsOwn w base R L
theorem NodesOwn.below {w w' : World} {base : Nat} {A : Option Addr} {n c : Nat} {L : List Nd} {R : List Sl} (h : NodesOwn w base A n c L R) (hb : Below w.heap.size w w') : NodesOwn w' base A n c L R := ⟨h.1, own_belowK h.2.1 hb, h.2.2.below hb⟩
theorem nds_at (L : List Nd) (R : List Sl) (h : L.length = R.length) (i j : Nat) (hi : i < L.length) (hj : j < 3) : (ndsV L R)[i * 3 + j]? = (nodeF (L.getD i nd0, R.getD i sl0))[j]? := by
  unfold ndsV
  have e : (L.zip R)[i]? = some (L.getD i nd0, R.getD i sl0) := List.getElem?_zip_eq_some.2 ⟨by rw [List.getElem?_eq_getElem hi, List.getD_eq_getElem?_getD, List.getElem?_eq_getElem hi]; rfl, by show R[i]? = some (R.getD i sl0); rw [List.getD_eq_getElem?_getD, List.getElem?_eq_getElem (by omega : i < R.length)]; rfl⟩
  rw [flat_at nodeF 3 nodeF_len _ i j hj, e]
  rfl
theorem NodesOwn.nodes {w : World} {base : Nat} {A : Option Addr} {n c : Nat} {L : List Nd} {R : List Sl} (h : NodesOwn w base A n c L R) : NodesIn w A n L R := by
  have hR := h.2.2.1
  refine ⟨h.1, by rw [h.1, hR], ?_⟩
  rcases h.2.1.2 with ⟨_, h0⟩ | ⟨g, cap, cur, hv, hb, hh, _⟩
  · exact .inl h0
  · injection hv with hA _ hc
    subst hA
    refine .inr ⟨g, 0, rfl, (Array.getElem?_eq_some_iff.1 hh).1, fun i hi => ⟨?_, own_props (h.2.2.2.1 i (by rw [hR, ← h.1]; exact hi))⟩⟩
    have hc := fun j hj => h.2.1.cells (g := g) rfl (i * 3 + j) _ ((nds_at L R hR.symm i j (by rw [← h.1]; exact hi) hj).trans (List.getElem?_eq_getElem (by rw [nodeF_len]; exact hj)))
    refine ⟨?_, ?_, ?_⟩
    · have := hc 0 (by omega); rw [add_plain] at this; exact this
    · have := hc 1 (by omega); rw [add_plain] at this; exact this
    · have := hc 2 (by omega); rw [add_plain] at this; exact this
theorem NodesOwn.neat {w : World} {base : Nat} {A : Option Addr} {n c : Nat} {L : List Nd} {R : List Sl} (h : NodesOwn w base A n c L R) (i : Nat) : Neat (R.getD i sl0) ∧ (R.getD i sl0).2.1 ≤ (R.getD i sl0).2.2 := by
  by_cases hi : i < R.length
  · obtain ⟨A', c', hv, h1, h2⟩ := own_srcK (h.2.2.2.1 i hi)
    unfold rowV at hv
    injection hv with e1 e2 e3
    rw [← e1, ← e3] at h1
    rw [← e3] at h2
    exact ⟨h1, h2⟩
  · rw [List.getD_eq_getElem?_getD, List.getElem?_eq_none (by omega)]
    exact ⟨fun _ => rfl, Nat.le_refl _⟩
end Go.Proofs.Ytfafhkhamaccfaa.Tr
