/- Lists of structs with one list inside, in memory: read, of the call's own, written into. For any program. -/
import Derived.Test.YtnnaoneegeenkaaOwn
import Derived.Lib.OthersKept
import Derived.WalkKit
import Derived.ProofKit
import Derived.WalkLawsBesides
import Derived.WalkSpells
import Derived.Outline
import Derived.Lib.Hide
import Derived.Lib.Strings
import Derived.Laws.OwnMore
import Derived.Deep.QuietTactic
import Derived.Deep.RegionHeld3
import Derived.RegionTactic
import Derived.BigQuiet
import Derived.BigCall
import Derived.BigGuard
namespace Go.Proofs.Ytnnaoneegeenkaa.Ro
open Go.ChangeShapes Go.WideShapes Go.ChangeAt Go.RowKit Own

def str (l : List UInt8) : ByteArray := ⟨l.toArray⟩
theorem str_list (l : List UInt8) : (str l).data.toList = l := rfl
theorem str_size (l : List UInt8) : (str l).size = l.length := rfl
theorem bytes_ext {a b : ByteArray} (h : a.data.toList = b.data.toList) : a = b := by
  obtain ⟨⟨l⟩⟩ := a
  obtain ⟨⟨m⟩⟩ := b
  simp at h
  rw [h]
theorem str_of (s : ByteArray) : str s.data.toList = s := bytes_ext rfl
theorem eq_lists (a b : List UInt8) : ((str a).toList == (str b).toList) = decide (a = b) := by
  rw [Lib.toList_data, Lib.toList_data, str_list, str_list]
  by_cases h : a = b
  · rw [decide_eq_true h, beq_iff_eq]; exact h
  · rw [decide_eq_false h, beq_eq_false_iff_ne]; exact h
theorem str_ne {a b : List UInt8} (h : a ≠ b) : ((str a).toList == (str b).toList) = false := by rw [eq_lists]; exact decide_eq_false h
theorem bool_ex (P : Prop) : ∃ g : Bool, g = true ↔ P := by
  by_cases h : P
  · exact ⟨true, fun _ => h, fun _ => rfl⟩
  · exact ⟨false, (fun e => by cases e), fun e => absurd e h⟩
theorem list_ext {α : Type} (z : α) {l l' : List α} (hl : l.length = l'.length) (h : ∀ i, i < l.length → l.getD i z = l'.getD i z) : l = l' := by
  refine List.ext_getElem hl fun i h1 h2 => ?_
  have := h i h1
  rw [List.getD_eq_getElem?_getD, List.getD_eq_getElem?_getD, List.getElem?_eq_getElem h1, List.getElem?_eq_getElem h2] at this
  exact this
theorem getD_set {α : Type} (L : List α) (i j : Nat) (d z : α) (hi : i < L.length) : (L.set i d).getD j z = if j = i then d else L.getD j z := by
  by_cases h : j = i
  · subst h
    rw [if_pos rfl, List.getD_eq_getElem?_getD, List.getElem?_set_self hi]
    rfl
  · rw [if_neg h, List.getD_eq_getElem?_getD, List.getElem?_set_ne (by omega), ← List.getD_eq_getElem?_getD]
theorem getD_sn {α : Type} (R : List α) (r z : α) (i : Nat) (hi : i < R.length) : (R ++ [r]).getD i z = R.getD i z := by
  rw [List.getD_eq_getElem?_getD, List.getD_eq_getElem?_getD, List.getElem?_append_left hi]
theorem getD_la {α : Type} (R : List α) (r z : α) : (R ++ [r]).getD R.length z = r := by
  rw [List.getD_eq_getElem?_getD, List.getElem?_append_right (Nat.le_refl _), Nat.sub_self]
  rfl
theorem some_at {α : Type} (L : List α) (z : α) (i : Nat) (hi : i < L.length) : L[i]? = some (L.getD i z) := by
  rw [List.getD_eq_getElem?_getD, List.getElem?_eq_getElem hi]
  rfl
theorem takeS {α : Type} (L : List α) (z : α) (k : Nat) (h : k < L.length) : L.take (k + 1) = L.take k ++ [L.getD k z] := by
  rw [List.take_succ_eq_append_getElem h, List.getD_eq_getElem?_getD, List.getElem?_eq_getElem h]
  rfl
theorem add_plain (b o j : Nat) : (⟨b, o, none⟩ : Addr).add j = ⟨b, o + j, none⟩ := by
  unfold Addr.add
  split
  · next h => have : j = 0 := by simpa using h
              subst this; rfl
  · rfl
theorem below_dr {B : Nat} {a w : World} (h : Below B a w) (q : Nat) : Below B a (w.drewN q) := ⟨h.os, h.tape, h.output, h.size, h.block⟩
theorem bt {y W w9 : World} (h : Below y.heap.size y W) (h9 : Below W.heap.size W w9) : Below y.heap.size y w9 := h.trans (h9.mono h.size)
theorem grows' (w : World) (o : Obj) : Below w.heap.size w (w.alloc o) := (Below.refl _ _).alloc (Nat.le_refl _) _
theorem bal {B : Nat} {y W : World} (hb : Below B y W) (hB : B = y.heap.size) (o : Obj) : Below B y (W.alloc o) := hb.alloc (by rw [hB]; exact hb.size) o
theorem below_firstD {W w1 : World} {E : TypeId} (hg : (W.alloc (.cells #[] E)).drew.grownBy w1 (Value.slice (some ⟨W.heap.size, 0, none⟩) 0 0).ownBlock) : Below W.heap.size W w1 :=
  (below_dr ((Below.refl W.heap.size W).alloc (Nat.le_refl _) _) 1).grown hg (by show W.heap.size ≤ (W.alloc _).heap.size; simp) (by intro k hk; injection hk with hk; exact Nat.le_of_eq hk)
theorem below_first {W w1 : World} {E : TypeId} (hg : (W.alloc (.cells #[] E)).grownBy w1 (Value.slice (some ⟨W.heap.size, 0, none⟩) 0 0).ownBlock) : Below W.heap.size W w1 :=
  ((Below.refl W.heap.size W).alloc (Nat.le_refl _) _).grown hg (by simp) (by intro k hk; injection hk with hk; exact Nat.le_of_eq hk)
theorem src_new (w : World) (v : Value) (t : TypeId) : Src (w.alloc (.cells #[v] t)) (some ⟨w.heap.size, 0, none⟩) 1 1 [v] :=
  .inr ⟨_, rfl, rfl, fun j u hu => by
    match j, hu with
    | 0, hu => simp at hu; subst hu; simp [Addr.add]⟩
theorem below_grown' {B : Nat} {a w w' : World} {v : Value} {base : Nat} {E : TypeId} {n k : Nat} {xs : List Value} {o : Obj} (hb : Below B a w) (hB : B ≤ w.heap.size) (ho : w.ownsRow base E k v n xs) (hbase : B ≤ base) (hg : (w.alloc o).grownBy w' v.ownBlock) : Below B a w' := by
  refine (hb.alloc hB o).grown hg (by simp; omega) fun k hk => ?_
  rcases ho.2 with ⟨rfl, _⟩ | ⟨g, cap, cur, rfl, hgb, _⟩
  · simp [Value.ownBlock] at hk
  · simp [Value.ownBlock] at hk
    omega
theorem set_grown (w : World) (p : Addr) (u : Value) : w.grownBy (w.setCell p u) (some p.block) := ⟨rfl, rfl, rfl, by simp, fun k _ hk => heap_setCell_other w p k u (fun e => hk (by simp [e]))⟩
theorem set_self {α : Type} (xs : List α) (i : Nat) (v : α) (h : xs[i]? = some v) : xs.set i v = xs := by
  induction xs generalizing i with
  | nil => rfl
  | cons x xs ih =>
    cases i with
    | zero => simp at h; rw [h]; rfl
    | succ i => rw [List.set_cons_succ, ih i (by simpa using h)]
section flat
variable {α : Type} (f : α → List Value) (k : Nat) (hk : ∀ x, (f x).length = k)
include hk
theorem flat_len (l : List α) : (l.flatMap f).length = l.length * k := by
  induction l with
  | nil => simp
  | cons x l ih => rw [List.flatMap_cons, List.length_append, hk, ih, List.length_cons, Nat.succ_mul, Nat.add_comm]
theorem flat_at (l : List α) (i j : Nat) (hj : j < k) : (l.flatMap f)[i * k + j]? = (l[i]?).bind fun x => (f x)[j]? := by
  induction l generalizing i with
  | nil => simp
  | cons x l ih =>
    rw [List.flatMap_cons]
    cases i with
    | zero => rw [List.getElem?_append_left (by rw [hk]; omega)]; simp
    | succ i =>
      rw [List.getElem?_append_right (by rw [hk, Nat.succ_mul]; omega), hk, show (i + 1) * k + j - k = i * k + j by rw [Nat.succ_mul]; omega, ih]
      rfl
theorem flat_set (l : List α) (i j : Nat) (hj : j < k) (v : Value) (x y : α) (hx : l[i]? = some x) (hy : (f x).set j v = f y) : (l.flatMap f).set (i * k + j) v = (l.set i y).flatMap f := by
  induction l generalizing i with
  | nil => simp at hx
  | cons z l ih =>
    cases i with
    | zero =>
      simp at hx
      subst hx
      rw [List.flatMap_cons, List.set_append_left _ _ (by rw [hk]; omega), List.set_cons_zero, List.flatMap_cons]
      simp only [Nat.zero_mul, Nat.zero_add, hy]
    | succ i =>
      rw [List.flatMap_cons, List.set_append_right _ _ (by rw [hk, Nat.succ_mul]; omega), hk, show (i + 1) * k + j - k = i * k + j by rw [Nat.succ_mul]; omega, ih i (by simpa using hx), List.set_cons_succ, List.flatMap_cons]
end flat
/-- A slice value's parts. -/
abbrev Sl := Option Addr × Nat × Nat
def sl0 : Sl := (none, 0, 0)
def slV (r : Sl) : Value := .slice r.1 r.2.1 r.2.2
def Neat (r : Sl) : Prop := r.1 = none → r = (none, 0, 0)
/-- What can be appended. -/
def SrcK (k : Nat) (w : World) (A : Option Addr) (m c : Nat) (news : List Value) : Prop :=
  (A = none ∧ m = 0 ∧ c = 0 ∧ news = []) ∨ ∃ ad, A = some ad ∧ news.length = m * k ∧ ∀ j u, news[j]? = some u → w.cell? (ad.add j) = some u
theorem own_emptyK (w : World) (e : TypeId) (k : Nat) : (w.alloc (.cells #[] e)).ownsRow w.heap.size e k (.slice (some ⟨w.heap.size, 0, none⟩) 0 0) 0 [] :=
  ⟨by simp, .inr ⟨w.heap.size, 0, #[], rfl, Nat.le_refl _, heap_alloc_new w _, Nat.le_refl _, Nat.zero_le _, by simp, by simp⟩⟩
theorem own_nilK (w : World) (b : Nat) (e : TypeId) (k : Nat) : w.ownsRow b e k (.slice none 0 0) 0 [] := ⟨by simp, .inl ⟨rfl, rfl⟩⟩
theorem own_belowK {w : World} {base : Nat} {e : TypeId} {k : Nat} {v : Value} {n : Nat} {xs : List Value} {w' : World} (h : w.ownsRow base e k v n xs) (hb : Below w.heap.size w w') : w'.ownsRow base e k v n xs := by
  rcases h.2 with ⟨rfl, rfl⟩ | ⟨g, cap, cur, rfl, hg, hh, hr⟩
  · exact ⟨h.1, .inl ⟨rfl, rfl⟩⟩
  · refine ⟨h.1, .inr ⟨g, cap, cur, rfl, hg, ?_, hr⟩⟩
    rw [hb.block g (Array.getElem?_eq_some_iff.1 hh).1]
    exact hh
theorem own_monoK {w : World} {base b' : Nat} {e : TypeId} {k : Nat} {v : Value} {n : Nat} {xs : List Value} (h : w.ownsRow b' e k v n xs) (hb : base ≤ b') : w.ownsRow base e k v n xs := by
  refine ⟨h.1, ?_⟩
  rcases h.2 with h0 | ⟨g, cap, cur, hv, hg, hr⟩
  · exact .inl h0
  · exact .inr ⟨g, cap, cur, hv, Nat.le_trans hb hg, hr⟩
theorem own_apartK {w : World} {b1 b2 : Nat} {E1 E2 : TypeId} {k1 k2 : Nat} {v1 v2 : Value} {n1 n2 : Nat} {x1 x2 : List Value} (h1 : w.ownsRow b1 E1 k1 v1 n1 x1) (h2 : w.ownsRow b2 E2 k2 v2 n2 x2) (hne : E1 ≠ E2) : v1.ownBlock = none ∨ v1.ownBlock ≠ v2.ownBlock := by
  rcases h1.2 with ⟨rfl, _⟩ | ⟨g1, c1, cur1, rfl, _, hh1, _⟩
  · exact .inl rfl
  · refine .inr ?_
    rcases h2.2 with ⟨rfl, _⟩ | ⟨g2, c2, cur2, rfl, _, hh2, _⟩
    · simp [Value.ownBlock]
    · intro e
      simp [Value.ownBlock] at e
      subst e
      rw [hh1] at hh2
      injection hh2 with hh2
      injection hh2 with _ ht
      exact hne ht
/-- A row made later is none of an elder one. -/
theorem own_laterK {w : World} {b1 b2 : Nat} {E1 E2 : TypeId} {k1 k2 : Nat} {v1 v2 : Value} {n1 n2 : Nat} {x1 x2 : List Value} (_h1 : w.ownsRow b1 E1 k1 v1 n1 x1) (h2 : w.ownsRow b2 E2 k2 v2 n2 x2) (hlt : ∀ g, v1.ownBlock = some g → g < b2) : v1.ownBlock = none ∨ v1.ownBlock ≠ v2.ownBlock := by
  cases hv : v1.ownBlock with
  | none => exact .inl rfl
  | some g =>
    refine .inr fun e => ?_
    have := (h2.lt g e.symm).1
    have := hlt g hv
    omega
theorem own_shapeK {w : World} {base : Nat} {E : TypeId} {k : Nat} {A : Option Addr} {n c : Nat} {xs : List Value} (h : w.ownsRow base E k (.slice A n c) n xs) (hn : 0 < n) : ∃ g, A = some ⟨g, 0, none⟩ ∧ base ≤ g ∧ g < w.heap.size := by
  rcases h.2 with ⟨hv, hx⟩ | ⟨g, cap, cur, hv, hg, hh, _⟩
  · injection hv with _ h2 _
    omega
  · injection hv with h1 _ _
    exact ⟨g, h1, hg, (Array.getElem?_eq_some_iff.1 hh).1⟩
theorem own_srcK {w : World} {base : Nat} {e : TypeId} {k : Nat} {v : Value} {n : Nat} {xs : List Value} (h : w.ownsRow base e k v n xs) : ∃ A c, v = .slice A n c ∧ Neat (A, n, c) ∧ n ≤ c := by
  rcases h.2 with ⟨rfl, rfl⟩ | ⟨g, cap, cur, rfl, _, _, hc, _⟩
  · exact ⟨none, 0, rfl, fun _ => rfl, Nat.le_refl _⟩
  · exact ⟨_, cap, rfl, fun e => (by cases e), hc⟩
theorem wpList_append_srcK {P : Program} {w : World} {ops : Array Oper} {rest : List Oper} {o : Oper} {a : Act} {Q : Exit → Act → World → Prop} (hgd : o.guard = none) (s x : Operand) (t : TypeId)
    (ho : o.op = .call { callee := .builtin .append, args := #[s, x], argTypes := #[t, t] })
    (base : Nat) (e : TypeId) (z : Value) (k bytes : Nat) (hk : 0 < k) (ht : P.underlying t = some (.slice e)) (hinfo : (P.info? e).map (fun i => (i.zero, i.size, i.bytes)) = some (some z, k, bytes)) (hzs : z.cells.size = k)
    (v : Value) (n : Nat) (xs : List Value) (hs : a.eval s = v) (hown : w.ownsRow base e k v n xs)
    (A : Option Addr) (m c : Nat) (news : List Value) (hx : a.eval x = .slice A m c) (hsrc : SrcK k w A m c news) (h1 : ∀ u ∈ news, u.oneCell' = true)
    (h63 : n + m ≤ 140737488355328) (hbytes : (n + m) * bytes ≤ 140737488355328) (hbase : base ≤ w.heap.size)
    (h : ∀ v' w', w'.ownsRow base e k v' (n + m) (xs ++ news) → w.grownBy w' v.ownBlock → wpList P ops Q rest (a.put o.dst v') w') : wpList P ops Q (o :: rest) a w := by
  have hi0 : ∃ i, P.info? e = some i ∧ i.zero = some z ∧ i.size = k ∧ i.bytes = bytes := by
    cases hI : P.info? e with
    | none => rw [hI] at hinfo; simp at hinfo
    | some i =>
      rw [hI] at hinfo
      simp at hinfo
      exact ⟨i, rfl, hinfo.1, hinfo.2.1, hinfo.2.2⟩
  obtain ⟨i, hi, hz, hz1, hz2⟩ := hi0
  rcases hsrc with ⟨rfl, rfl, rfl, rfl⟩ | ⟨ad, rfl, hl, hc⟩
  · exact wpList_append_own_none hgd s x t ho base e i k ht hi v n xs hs hown hx (h v w (by simpa using hown) (World.grownBy.refl w _))
  · exact wpList_append_own w hgd s x t ho base e i z k bytes ht hi hz hz1 hz2 hzs hk v n xs hs hown ad m c news hx hl hc h1 (by unfold maxLen; omega) hbytes hbase (fun v' w' h2 h3 _ => h v' w' h2 h3)
theorem step_appK {P : Program} {w : World} {ops : Array Oper} {o : Oper} {a : Act} {K : Act → World → Prop} {Q : Exit → Act → World → Prop} {E' : Prop} (hw : Region.wanted o (yielded ops a.tmps) = true) (s x : Operand) (t : TypeId)
    (ho : o.op = .call { callee := .builtin .append, args := #[s, x], argTypes := #[t, t] })
    (base : Nat) (e : TypeId) (z : Value) (k bytes : Nat) (hk : 0 < k) (ht : P.underlying t = some (.slice e)) (hinfo : (P.info? e).map (fun i => (i.zero, i.size, i.bytes)) = some (some z, k, bytes)) (hzs : z.cells.size = k)
    (v : Value) (n : Nat) (xs : List Value) (hs : a.eval s = v) (hown : w.ownsRow base e k v n xs)
    (A : Option Addr) (m c : Nat) (news : List Value) (hx : a.eval x = .slice A m c) (hsrc : SrcK k w A m c news) (h1 : ∀ u ∈ news, u.oneCell' = true)
    (h63 : n + m ≤ 140737488355328) (hbytes : (n + m) * bytes ≤ 140737488355328) (hbase : base ≤ w.heap.size)
    (h : ∀ v' w', w'.ownsRow base e k v' (n + m) (xs ++ news) → w.grownBy w' v.ownBlock → K (a.put o.dst v') w') :
    if Region.wanted o (yielded ops a.tmps) = true then Oper.wp P o a w K Q else E' := by
  rw [if_pos hw]
  have hi0 : ∃ i, P.info? e = some i ∧ i.zero = some z ∧ i.size = k ∧ i.bytes = bytes := by
    cases hI : P.info? e with
    | none => rw [hI] at hinfo; simp at hinfo
    | some i =>
      rw [hI] at hinfo
      simp at hinfo
      exact ⟨i, rfl, hinfo.1, hinfo.2.1, hinfo.2.2⟩
  obtain ⟨i, hi, hz, hz1, hz2⟩ := hi0
  rcases hsrc with ⟨rfl, rfl, rfl, rfl⟩ | ⟨ad, rfl, hl, hc⟩
  · have hrun := run_append_owned_none (P := P) (w := w) base t o.type e i k ht hi v n xs hown
    unfold Oper.wp
    simp [execOp, ho, resolve, invoke, builtin, hs, hx, hrun, Result.andThen]
    exact h v w (by simpa using hown) (World.grownBy.refl w _)
  · exact wp_append_own w s x t ho base e i z k bytes ht hi hz hz1 hz2 hzs hk v n xs hs hown ad m c news hx hl hc h1 (by unfold maxLen; omega) hbytes hbase (fun v' w' h2 h3 _ => h v' w' h2 h3)
theorem src_new2 (w : World) (x y : Value) (t : TypeId) {g : Nat} (hg : g = w.heap.size) : SrcK 2 (w.alloc (.cells #[x, y] t)) (some ⟨g, 0, none⟩) 1 1 [x, y] := by
  subst hg
  exact .inr ⟨_, rfl, rfl, fun j u hu => by
    rw [add_plain, Lib.cell_of_heap (heap_alloc_new w _), Nat.zero_add]
    match j, hu with
    | 0, hu => exact hu
    | 1, hu => exact hu⟩
/-- The same for an operation with a guard that is on. -/
theorem wpList_append_srcKg {P : Program} {w : World} {ops : Array Oper} {rest : List Oper} {o : Oper} {a : Act} {Q : Exit → Act → World → Prop} (hw : Region.wanted o (yielded ops a.tmps) = true) (s x : Operand) (t : TypeId)
    (ho : o.op = .call { callee := .builtin .append, args := #[s, x], argTypes := #[t, t] })
    (base : Nat) (e : TypeId) (z : Value) (k bytes : Nat) (hk : 0 < k) (ht : P.underlying t = some (.slice e)) (hinfo : (P.info? e).map (fun i => (i.zero, i.size, i.bytes)) = some (some z, k, bytes)) (hzs : z.cells.size = k)
    (v : Value) (n : Nat) (xs : List Value) (hs : a.eval s = v) (hown : w.ownsRow base e k v n xs)
    (A : Option Addr) (m c : Nat) (news : List Value) (hx : a.eval x = .slice A m c) (hsrc : SrcK k w A m c news) (h1 : ∀ u ∈ news, u.oneCell' = true)
    (h63 : n + m ≤ 140737488355328) (hbytes : (n + m) * bytes ≤ 140737488355328) (hbase : base ≤ w.heap.size)
    (h : ∀ v' w', w'.ownsRow base e k v' (n + m) (xs ++ news) → w.grownBy w' v.ownBlock → wpList P ops Q rest (a.put o.dst v') w') : wpList P ops Q (o :: rest) a w :=
  wpList_step fun _ hK => step_appK hw s x t ho base e z k bytes hk ht hinfo hzs v n xs hs hown A m c news hx hsrc h1 h63 hbytes hbase fun v' w' h2 h3 => hK _ _ (h v' w' h2 h3)
/-- Cells that can be read: n elements of q cells each. -/
def CellsIn (w : World) (q : Nat) (A : Option Addr) (n : Nat) (xs : List Value) : Prop :=
  xs.length = n * q ∧ (n = 0 ∨ ∃ b o, A = some ⟨b, o, none⟩ ∧ b < w.heap.size ∧ ∀ j u, xs[j]? = some u → w.cell? ⟨b, o + j, none⟩ = some u)
theorem CellsIn.below {w w' : World} {q : Nat} {A : Option Addr} {n : Nat} {xs : List Value} (h : CellsIn w q A n xs) (hb : Below w.heap.size w w') : CellsIn w' q A n xs := by
  refine ⟨h.1, ?_⟩
  rcases h.2 with h0 | ⟨b, o, rfl, hlt, hc⟩
  · exact .inl h0
  · refine .inr ⟨b, o, rfl, Nat.lt_of_lt_of_le hlt hb.size, fun j u hu => ?_⟩
    rw [hb.cell (p := ⟨b, o + j, none⟩) hlt]
    exact hc j u hu
theorem CellsIn.at {w : World} {q : Nat} {A : Option Addr} {n : Nat} {xs : List Value} (h : CellsIn w q A n xs) (hn : 0 < n) : ∃ b o, A = some ⟨b, o, none⟩ ∧ b < w.heap.size ∧ ∀ j u, xs[j]? = some u → w.cell? ⟨b, o + j, none⟩ = some u := by
  rcases h.2 with h0 | h0
  · omega
  · exact h0
theorem CellsIn.src {w : World} {q : Nat} {A : Option Addr} {n c : Nat} {xs : List Value} (h : CellsIn w q A n xs) (hn : Neat (A, n, c)) : SrcK q w A n c xs := by
  cases A with
  | none =>
    have e := hn rfl
    injection e with _ h2
    injection h2 with h2 h3
    subst h2
    exact .inl ⟨rfl, rfl, h3, List.eq_nil_of_length_eq_zero (by rw [h.1, Nat.zero_mul])⟩
  | some ad =>
    refine .inr ⟨ad, rfl, h.1, fun j u hu => ?_⟩
    by_cases h0 : n = 0
    · subst h0
      have e : xs = [] := List.eq_nil_of_length_eq_zero (by rw [h.1, Nat.zero_mul])
      rw [e] at hu
      simp at hu
    · obtain ⟨b, o, hA, _, hc⟩ := h.at (by omega)
      injection hA with hA
      subst hA
      rw [add_plain]
      exact hc j u hu
theorem CellsIn.kept {w w' : World} {q : Nat} {A : Option Addr} {n : Nat} {xs : List Value} {row : Option Nat} (h : CellsIn w q A n xs) (hg : w.grownBy w' row) (hne : ∀ a, A = some a → some a.block ≠ row) : CellsIn w' q A n xs := by
  refine ⟨h.1, ?_⟩
  rcases h.2 with h0 | ⟨b, o, rfl, hlt, hc⟩
  · exact .inl h0
  · exact .inr ⟨b, o, rfl, Nat.lt_of_lt_of_le hlt hg.size, fun j u hu => hg.cell (hc j u hu) (hne ⟨b, o, none⟩ rfl)⟩
theorem own_cells {w : World} {base : Nat} {E : TypeId} {q : Nat} {A : Option Addr} {n c : Nat} {xs : List Value} (h : w.ownsRow base E q (.slice A n c) n xs) : CellsIn w q A n xs := by
  refine ⟨h.1, ?_⟩
  rcases h.2 with ⟨hv, hx⟩ | ⟨g, cap, cur, hv, _, hh, _⟩
  · injection hv with _ h2 _
    exact .inl h2
  · injection hv with hA _ hc
    subst hA
    refine .inr ⟨g, 0, rfl, (Array.getElem?_eq_some_iff.1 hh).1, fun j u hu => ?_⟩
    have := h.cells (g := g) rfl j u hu
    rw [add_plain] at this
    exact this
/-- Kinds of structs with a list in them: k cells, the list at p, q cells an element of it. -/
structure Kd (α : Type) where
  k : Nat
  p : Nat
  q : Nat
  E : TypeId
  F : TypeId
  hd : α → List Value
  inn : α → List Value
  len : α → Nat
  z : α
  hk : ∀ a, (hd a).length = k
  hq : ∀ a, (inn a).length = len a * q
  hp : p < k
  ne : E ≠ F
  one : ∀ a, ∀ u ∈ hd a, u.oneCell' = true
  oneI : ∀ a, ∀ u ∈ inn a, u.oneCell' = true
section
variable {α : Type} (K : Kd α)
def Kd.row (d : α × Sl) : List Value := (K.hd d.1).set K.p (slV d.2)
def Kd.rows (L : List α) (R : List Sl) : List Value := (L.zip R).flatMap K.row
theorem row_len (d : α × Sl) : (K.row d).length = K.k := by unfold Kd.row; rw [List.length_set, K.hk]
theorem one_row (d : α × Sl) : ∀ u ∈ K.row d, u.oneCell' = true := by
  intro u hu
  rcases List.mem_or_eq_of_mem_set hu with h | rfl
  · exact K.one _ u h
  · rfl
theorem rows_len (L : List α) (R : List Sl) (h : L.length = R.length) : (K.rows L R).length = L.length * K.k := by
  unfold Kd.rows
  rw [flat_len K.row K.k (row_len K), List.length_zip, h, Nat.min_self]
theorem zip_at (L : List α) (R : List Sl) (h : L.length = R.length) (i : Nat) (hi : i < L.length) : (L.zip R)[i]? = some (L.getD i K.z, R.getD i sl0) :=
  List.getElem?_zip_eq_some.2 ⟨some_at L K.z i hi, some_at R sl0 i (by omega)⟩
theorem rows_at (L : List α) (R : List Sl) (h : L.length = R.length) (i j : Nat) (hi : i < L.length) (hj : j < K.k) : (K.rows L R)[i * K.k + j]? = (K.row (L.getD i K.z, R.getD i sl0))[j]? := by
  unfold Kd.rows
  rw [flat_at K.row K.k (row_len K) _ i j hj, zip_at K L R h i hi]
  rfl
theorem rows_snoc (L : List α) (R : List Sl) (d : α) (r : Sl) (h : L.length = R.length) : K.rows L R ++ K.row (d, r) = K.rows (L ++ [d]) (R ++ [r]) := by
  unfold Kd.rows
  rw [List.zip_append h, List.flatMap_append]
  simp
theorem zip_set (L : List α) (R : List Sl) (i : Nat) (d : α) (hi : i < R.length) : (L.zip R).set i (d, R.getD i sl0) = (L.set i d).zip R := by
  induction L generalizing R i with
  | nil => simp
  | cons x L ih =>
    cases R with
    | nil => simp at hi
    | cons r R =>
      cases i with
      | zero => rfl
      | succ i =>
        rw [List.zip_cons_cons, List.set_cons_succ, List.set_cons_succ, List.zip_cons_cons, ← ih R i (by simpa using hi)]
        rfl
theorem rows_set (L : List α) (R : List Sl) (i j : Nat) (d : α) (v : Value) (h : L.length = R.length) (hi : i < L.length) (hj : j < K.k) (hy : (K.row (L.getD i K.z, R.getD i sl0)).set j v = K.row (d, R.getD i sl0)) : (K.rows L R).set (i * K.k + j) v = K.rows (L.set i d) R := by
  unfold Kd.rows
  rw [flat_set K.row K.k (row_len K) _ i j hj v _ _ (zip_at K L R h i hi) hy, zip_set L R i d (by omega)]
theorem rows_same (L : List α) (R : List Sl) (i : Nat) (d : α) (h : L.length = R.length) (hi : i < L.length) (hy : K.row (L.getD i K.z, R.getD i sl0) = K.row (d, R.getD i sl0)) : K.rows (L.set i d) R = K.rows L R := by
  have hp := K.hp
  have h0 : (K.row (d, R.getD i sl0))[0]? = some ((K.row (d, R.getD i sl0)).getD 0 (.int .i64 0)) := some_at _ _ _ (by rw [row_len]; omega)
  rw [← rows_set K L R i 0 d _ h hi (by omega) (by rw [hy]; exact set_self _ _ _ h0)]
  exact set_self _ _ _ ((rows_at K L R h i 0 hi (by omega)).trans (by rw [hy]; exact h0))
/-- Such a list that can be read. R: the slices of the lists in it. -/
def RowsIn (w : World) (A : Option Addr) (n : Nat) (L : List α) (R : List Sl) : Prop :=
  n = L.length ∧ R.length = L.length ∧ CellsIn w K.k A n (K.rows L R) ∧ ∀ i, i < n → (R.getD i sl0).2.1 = K.len (L.getD i K.z) ∧ CellsIn w K.q (R.getD i sl0).1 (R.getD i sl0).2.1 (K.inn (L.getD i K.z))
variable {K}
theorem RowsIn.below {w w' : World} {A : Option Addr} {n : Nat} {L : List α} {R : List Sl} (h : RowsIn K w A n L R) (hb : Below w.heap.size w w') : RowsIn K w' A n L R := ⟨h.1, h.2.1, h.2.2.1.below hb, fun i hi => ⟨(h.2.2.2 i hi).1, (h.2.2.2 i hi).2.below hb⟩⟩
theorem RowsIn.at {w : World} {A : Option Addr} {n : Nat} {L : List α} {R : List Sl} (h : RowsIn K w A n L R) {i : Nat} (hi : i < n) : ∃ b o, A = some ⟨b, o, none⟩ ∧ b < w.heap.size ∧
    (∀ j u, (K.row (L.getD i K.z, R.getD i sl0))[j]? = some u → w.cell? ⟨b, o + i * K.k + j, none⟩ = some u) ∧ (R.getD i sl0).2.1 = K.len (L.getD i K.z) ∧ CellsIn w K.q (R.getD i sl0).1 (R.getD i sl0).2.1 (K.inn (L.getD i K.z)) := by
  obtain ⟨b, o, hA, hb, hc⟩ := h.2.2.1.at (by omega)
  refine ⟨b, o, hA, hb, fun j u hu => ?_, h.2.2.2 i hi⟩
  have hj : j < K.k := by rw [← row_len K (L.getD i K.z, R.getD i sl0)]; exact (List.getElem?_eq_some_iff.1 hu).1
  rw [Nat.add_assoc]
  exact hc _ u ((rows_at K L R h.2.1.symm i j (by rw [← h.1]; exact hi) hj).trans hu)
def rowV (R : List Sl) (i : Nat) : Value := slV (R.getD i sl0)
/-- The inner lists, each in a block of its own. -/
def InnOwn (K : Kd α) (w : World) (base : Nat) (R : List Sl) (L : List α) : Prop :=
  R.length = L.length ∧ (∀ i, i < R.length → (R.getD i sl0).2.1 = K.len (L.getD i K.z) ∧ w.ownsRow base K.F K.q (rowV R i) (R.getD i sl0).2.1 (K.inn (L.getD i K.z))) ∧
    ∀ i j, i < R.length → j < R.length → i ≠ j → (rowV R i).ownBlock = none ∨ (rowV R i).ownBlock ≠ (rowV R j).ownBlock
section
variable {w w' : World} {base : Nat} {R : List Sl} {L : List α}
theorem InnOwn.nil (w : World) (base : Nat) : InnOwn K w base [] [] := ⟨rfl, fun i hi => absurd hi (by simp), fun i j hi => absurd hi (by simp)⟩
theorem InnOwn.below (h : InnOwn K w base R L) (hb : Below w.heap.size w w') : InnOwn K w' base R L := ⟨h.1, fun i hi => ⟨(h.2.1 i hi).1, own_belowK (h.2.1 i hi).2 hb⟩, h.2.2⟩
theorem InnOwn.kept {row : Option Nat} (h : InnOwn K w base R L) (hg : w.grownBy w' row) (hne : ∀ i, i < R.length → (rowV R i).ownBlock = none ∨ (rowV R i).ownBlock ≠ row) : InnOwn K w' base R L :=
  ⟨h.1, fun i hi => ⟨(h.2.1 i hi).1, (h.2.1 i hi).2.kept hg (hne i hi)⟩, h.2.2⟩
theorem InnOwn.mono {b' : Nat} (h : InnOwn K w b' R L) (hb : base ≤ b') : InnOwn K w base R L := ⟨h.1, fun i hi => ⟨(h.2.1 i hi).1, own_monoK (h.2.1 i hi).2 hb⟩, h.2.2⟩
theorem InnOwn.lt (h : InnOwn K w base R L) : ∀ i, i < R.length → ∀ g, (rowV R i).ownBlock = some g → g < w.heap.size := fun i hi g hg => ((h.2.1 i hi).2.lt g hg).2
theorem InnOwn.snoc (h : InnOwn K w base R L) {b' : Nat} {r : Sl} {d : α} (hl : r.2.1 = K.len d) (ho : w.ownsRow b' K.F K.q (slV r) r.2.1 (K.inn d)) (hb : base ≤ b') (hlt : ∀ i, i < R.length → ∀ g, (rowV R i).ownBlock = some g → g < b') : InnOwn K w base (R ++ [r]) (L ++ [d]) := by
  have e1 : ∀ i, i < R.length → rowV (R ++ [r]) i = rowV R i := fun i hi => by unfold rowV; rw [getD_sn _ _ _ _ hi]
  have e2 : rowV (R ++ [r]) R.length = slV r := by unfold rowV; rw [getD_la]
  refine ⟨by simp [h.1], fun i hi => ?_, fun i j hi hj hij => ?_⟩
  · by_cases hil : i < R.length
    · rw [e1 i hil, getD_sn _ _ _ _ hil, getD_sn L d K.z i (by rw [← h.1]; exact hil)]
      exact h.2.1 i hil
    · obtain rfl : i = R.length := by simp at hi; omega
      rw [e2, getD_la, h.1, getD_la]
      exact ⟨hl, own_monoK ho hb⟩
  · by_cases hil : i < R.length
    · rw [e1 i hil]
      by_cases hjl : j < R.length
      · rw [e1 j hjl]
        exact h.2.2 i j hil hjl hij
      · obtain rfl : j = R.length := by simp at hj; omega
        rw [e2]
        exact own_laterK (h.2.1 i hil).2 ho (hlt i hil)
    · obtain rfl : i = R.length := by simp at hi; omega
      have hjl : j < R.length := by simp at hj; omega
      rw [e2, e1 j hjl]
      cases hv : (slV r).ownBlock with
      | none => exact .inl rfl
      | some g =>
        refine .inr fun e => ?_
        have h1 := hlt j hjl g e.symm
        have h2 := (ho.lt g hv).1
        omega
end
/-- Such a list in memory of the call's own. -/
def RowsOwn (K : Kd α) (w : World) (base : Nat) (A : Option Addr) (n c : Nat) (L : List α) (R : List Sl) : Prop :=
  n = L.length ∧ w.ownsRow base K.E K.k (.slice A n c) n (K.rows L R) ∧ InnOwn K w base R L
section
variable {w w' : World} {base : Nat} {A : Option Addr} {n c : Nat} {L : List α} {R : List Sl}
theorem RowsOwn.below (h : RowsOwn K w base A n c L R) (hb : Below w.heap.size w w') : RowsOwn K w' base A n c L R := ⟨h.1, own_belowK h.2.1 hb, h.2.2.below hb⟩
theorem RowsOwn.mono {b' : Nat} (h : RowsOwn K w b' A n c L R) (hb : base ≤ b') : RowsOwn K w base A n c L R := ⟨h.1, own_monoK h.2.1 hb, h.2.2.mono hb⟩
theorem RowsOwn.kept {row : Option Nat} (h : RowsOwn K w base A n c L R) (hg : w.grownBy w' row) (h0 : (Value.slice A n c).ownBlock = none ∨ (Value.slice A n c).ownBlock ≠ row) (hne : ∀ i, i < R.length → (rowV R i).ownBlock = none ∨ (rowV R i).ownBlock ≠ row) : RowsOwn K w' base A n c L R :=
  ⟨h.1, h.2.1.kept hg h0, h.2.2.kept hg hne⟩
theorem RowsOwn.apart (h : RowsOwn K w base A n c L R) : ∀ i, i < R.length → (rowV R i).ownBlock = none ∨ (rowV R i).ownBlock ≠ (Value.slice A n c).ownBlock := fun i hi => own_apartK (h.2.2.2.1 i hi).2 h.2.1 (fun e => K.ne e.symm)
theorem RowsOwn.rows (h : RowsOwn K w base A n c L R) : RowsIn K w A n L R := by
  have hR := h.2.2.1
  exact ⟨h.1, hR, own_cells h.2.1, fun i hi => ⟨(h.2.2.2.1 i (by rw [hR, ← h.1]; exact hi)).1, own_cells (h.2.2.2.1 i (by rw [hR, ← h.1]; exact hi)).2⟩⟩
theorem RowsOwn.neat (h : RowsOwn K w base A n c L R) (i : Nat) : Neat (R.getD i sl0) ∧ (R.getD i sl0).2.1 ≤ (R.getD i sl0).2.2 := by
  by_cases hi : i < R.length
  · obtain ⟨A', c', hv, h1, h2⟩ := own_srcK (h.2.2.2.1 i hi).2
    unfold rowV slV at hv
    injection hv with e1 e2 e3
    rw [← e1, ← e3] at h1
    rw [← e3] at h2
    exact ⟨h1, h2⟩
  · rw [List.getD_eq_getElem?_getD, List.getElem?_eq_none (by omega)]
    exact ⟨fun _ => rfl, Nat.le_refl _⟩
theorem RowsOwn.neatA (h : RowsOwn K w base A n c L R) : Neat (A, n, c) ∧ n ≤ c := by
  obtain ⟨A', c', hv, h1, h2⟩ := own_srcK h.2.1
  injection hv with e1 e2 e3
  rw [← e1, ← e3] at h1
  rw [← e3] at h2
  exact ⟨h1, h2⟩
/-- All blocks lie below N. -/
def Low (N : Nat) (A : Option Addr) (n c : Nat) (R : List Sl) : Prop := (∀ g, (Value.slice A n c).ownBlock = some g → g < N) ∧ ∀ i, i < R.length → ∀ g, (rowV R i).ownBlock = some g → g < N
theorem RowsOwn.low (h : RowsOwn K w base A n c L R) : Low w.heap.size A n c R := ⟨fun g hg => (h.2.1.lt g hg).2, fun i hi g hg => h.2.2.lt i hi g hg⟩
theorem Low.mono {N N' : Nat} (h : Low N A n c R) (hN : N ≤ N') : Low N' A n c R := ⟨fun g hg => Nat.lt_of_lt_of_le (h.1 g hg) hN, fun i hi g hg => Nat.lt_of_lt_of_le (h.2 i hi g hg) hN⟩
theorem RowsOwn.keptLow {g : Nat} (h : RowsOwn K w base A n c L R) (hg : w.grownBy w' (some g)) (hlt : g < base) : RowsOwn K w' base A n c L R := by
  refine h.kept hg ?_ fun i hi => ?_
  · cases hv : (Value.slice A n c).ownBlock with
    | none => exact .inl rfl
    | some g' => exact .inr fun e => by injection e with e; have := (h.2.1.lt g' hv).1; omega
  · cases hv : (rowV R i).ownBlock with
    | none => exact .inl rfl
    | some g' => exact .inr fun e => by injection e with e; have := ((h.2.2.2.1 i hi).2.lt g' hv).1; omega
theorem RowsOwn.keptHigh {N : Nat} {row : Option Nat} (h : RowsOwn K w base A n c L R) (hl : Low N A n c R) (hg : w.grownBy w' row) (hlt : ∀ g, row = some g → N ≤ g) : RowsOwn K w' base A n c L R := by
  refine h.kept hg ?_ fun i hi => ?_
  · cases hv : (Value.slice A n c).ownBlock with
    | none => exact .inl rfl
    | some g' => exact .inr fun e => by have := hl.1 g' hv; have := hlt g' e.symm; omega
  · cases hv : (rowV R i).ownBlock with
    | none => exact .inl rfl
    | some g' => exact .inr fun e => by have := hl.2 i hi g' hv; have := hlt g' e.symm; omega
theorem own_keptHigh {E : TypeId} {k b' m N : Nat} {row : Option Nat} {v : Value} {xs : List Value} (h : w.ownsRow b' E k v m xs) (hl : ∀ g, v.ownBlock = some g → g < N) (hg : w.grownBy w' row) (hlt : ∀ g, row = some g → N ≤ g) : w'.ownsRow b' E k v m xs := by
  refine h.kept hg ?_
  cases hv : v.ownBlock with
  | none => exact .inl rfl
  | some g' => exact .inr fun e => by have := hl g' hv; have := hlt g' e.symm; omega
theorem own_keptLow {E : TypeId} {k b' m g : Nat} {v : Value} {xs : List Value} (h : w.ownsRow b' E k v m xs) (hg : w.grownBy w' (some g)) (hlt : g < b') : w'.ownsRow b' E k v m xs := by
  refine h.kept hg ?_
  cases hv : v.ownBlock with
  | none => exact .inl rfl
  | some g' => exact .inr fun e => by injection e with e; have := (h.lt g' hv).1; omega
theorem own_keptNe {E : TypeId} {k b' g m : Nat} {v : Value} {xs : List Value} (h : w.ownsRow b' E k v m xs) (hg : w.grownBy w' (some g)) (hne : v.ownBlock ≠ some g) : w'.ownsRow b' E k v m xs := h.kept hg (.inr hne)
theorem below_set {B : Nat} {w0 : World} {p : Addr} (hb : Below B w0 w) (hp : B ≤ p.block) (u : Value) : Below B w0 (w.setCell p u) := hb.setCell hp u
/-- A struct with its list is appended. -/
theorem RowsOwn.snoc (h : RowsOwn K w base A n c L R) {b' : Nat} {r : Sl} {d : α} {v3 : Value} (hl : r.2.1 = K.len d) (ho : w.ownsRow b' K.F K.q (slV r) r.2.1 (K.inn d)) (hb : base ≤ b') (hlt : ∀ i, i < R.length → ∀ g, (rowV R i).ownBlock = some g → g < b')
    (hg : w.grownBy w' (Value.slice A n c).ownBlock) (ho3 : w'.ownsRow base K.E K.k v3 (n + 1) (K.rows L R ++ K.row (d, r))) : ∃ A3 c3, v3 = .slice A3 (n + 1) c3 ∧ RowsOwn K w' base A3 (n + 1) c3 (L ++ [d]) (R ++ [r]) := by
  have hR := h.2.2.1
  obtain ⟨A3, c3, rfl, _⟩ := own_srcK ho3
  refine ⟨A3, c3, rfl, by simp [h.1], ?_, ?_⟩
  · rw [rows_snoc K L R d r hR.symm] at ho3
    exact ho3
  · exact (h.2.2.kept hg h.apart).snoc hl (ho.kept hg (own_apartK ho h.2.1 (fun e => K.ne e.symm))) hb hlt
theorem RowsOwn.grown (h : RowsOwn K w base A n c L R) {w0 : World} {B : Nat} (hb : Below B w0 w) (hB : B ≤ base) (hBw : B ≤ w.heap.size) (hg : w.grownBy w' (Value.slice A n c).ownBlock) : Below B w0 w' :=
  hb.grown hg hBw fun k hk => Nat.le_trans hB (h.2.1.lt k hk).1
/-- A cell of a struct is written. -/
theorem RowsOwn.head (h : RowsOwn K w base A n c L R) {i : Nat} (hi : i < n) : ∃ g, A = some ⟨g, 0, none⟩ ∧ base ≤ g ∧ g < w.heap.size ∧ (∀ j, w.frozen? ⟨g, j, none⟩ = false) ∧
    (∀ j u, (K.row (L.getD i K.z, R.getD i sl0))[j]? = some u → w.cell? ⟨g, i * K.k + j, none⟩ = some u) ∧
    ∀ j v d, j < K.k → (K.row (L.getD i K.z, R.getD i sl0)).set j v = K.row (d, R.getD i sl0) → K.inn d = K.inn (L.getD i K.z) → K.len d = K.len (L.getD i K.z) → RowsOwn K (w.setCell ⟨g, i * K.k + j, none⟩ v) base A n c (L.set i d) R := by
  obtain ⟨g, rfl, hb, hg⟩ := own_shapeK h.2.1 (by omega)
  have hR := h.2.2.1
  have hiL : i < L.length := by rw [← h.1]; exact hi
  refine ⟨g, rfl, hb, hg, fun j => h.2.1.frozenAt j, fun j u hu => ?_, fun j v d hj hy hi1 hi2 => ?_⟩
  · have hj : j < K.k := by rw [← row_len K (L.getD i K.z, R.getD i sl0)]; exact (List.getElem?_eq_some_iff.1 hu).1
    have := (rows_at K L R hR.symm i j hiL hj).trans hu
    have hc := h.2.1.cells (g := g) rfl _ _ this
    rw [add_plain, Nat.zero_add] at hc
    exact hc
  · have hst := h.2.1.stored (i * K.k + j) v
    rw [rows_set K L R i j d v hR.symm hiL hj hy] at hst
    refine ⟨by rw [List.length_set]; exact h.1, hst.1, by rw [List.length_set]; exact hR, fun m hm => ?_, h.2.2.2.2⟩
    have h1 := (h.2.2.2.1 m hm).2.kept hst.2 (h.apart m hm)
    rw [getD_set _ _ _ _ _ hiL]
    by_cases hmi : m = i
    · rw [if_pos hmi, hi1, hi2]
      rw [hmi] at h1
      rw [hmi]
      exact ⟨(h.2.2.2.1 i (by rw [hR]; exact hiL)).1, h1⟩
    · rw [if_neg hmi]
      exact ⟨(h.2.2.2.1 m hm).1, h1⟩
/-- A cell of an inner list is written. -/
theorem RowsOwn.inner (h : RowsOwn K w base A n c L R) {i : Nat} (hi : i < n) (h0 : 0 < (R.getD i sl0).2.1) : ∃ g, (R.getD i sl0).1 = some ⟨g, 0, none⟩ ∧ base ≤ g ∧ g < w.heap.size ∧ (∀ j, w.frozen? ⟨g, j, none⟩ = false) ∧
    (∀ j u, (K.inn (L.getD i K.z))[j]? = some u → w.cell? ⟨g, j, none⟩ = some u) ∧
    ∀ j v d, (K.inn (L.getD i K.z)).set j v = K.inn d → K.len d = K.len (L.getD i K.z) → (∀ r, K.row (d, r) = K.row (L.getD i K.z, r)) → RowsOwn K (w.setCell ⟨g, j, none⟩ v) base A n c (L.set i d) R := by
  have hR := h.2.2.1
  have hiL : i < L.length := by rw [← h.1]; exact hi
  have hiR : i < R.length := by rw [hR]; exact hiL
  obtain ⟨hl, ho⟩ := h.2.2.2.1 i hiR
  have eV : rowV R i = .slice (R.getD i sl0).1 (R.getD i sl0).2.1 (R.getD i sl0).2.2 := rfl
  rw [eV] at ho
  obtain ⟨g, hA, hb, hg⟩ := own_shapeK ho h0
  rw [hA] at ho
  have eR : rowV R i = .slice (some ⟨g, 0, none⟩) (R.getD i sl0).2.1 (R.getD i sl0).2.2 := by rw [eV, hA]
  refine ⟨g, hA, hb, hg, fun j => ho.frozenAt j, fun j u hu => ?_, fun j v d hy hlen hrow => ?_⟩
  · have hc := ho.cells (g := g) rfl _ _ hu
    rw [add_plain, Nat.zero_add] at hc
    exact hc
  · have hst := ho.stored j v
    rw [hy] at hst
    refine ⟨by rw [List.length_set]; exact h.1, ?_, by rw [List.length_set]; exact hR, fun m hm => ?_, h.2.2.2.2⟩
    · have h1 := h.2.1.kept hst.2 (by
        have := own_apartK h.2.1 (h.2.2.2.1 i hiR).2 K.ne
        rw [eR] at this
        exact this)
      rw [rows_same K L R i d hR.symm hiL (hrow _).symm]
      exact h1
    · rw [getD_set _ _ _ _ _ hiL]
      by_cases hmi : m = i
      · subst hmi
        rw [if_pos rfl, eR, hlen]
        exact ⟨hl, hst.1⟩
      · rw [if_neg hmi]
        refine ⟨(h.2.2.2.1 m hm).1, (h.2.2.2.1 m hm).2.kept hst.2 ?_⟩
        have := h.2.2.2.2 m i hm hiR hmi
        rw [eR] at this
        exact this
end
end
end Go.Proofs.Ytnnaoneegeenkaa.Ro
