/- Which card fits a text: plain facts; the program's isCloser. -/
import Derived.Test.YtnnaoneegeenkaaKcC
import Derived.Test.YtnnaoneegeenkaaKcW
import Derived.Deep.CutBlock
namespace Go.Proofs.Ytnnaoneegeenkaa.Mt
open Go.ChangeShapes Go.WideShapes Go.ChangeAt Go.RowKit Own Ro Kc wordsNames Go.Maps Go.WideMaps

abbrev Tx := List UInt8
/-- Of two cards that name a text: is the first the one that fits? -/
def closer (a b : Cd) : Bool := if a.score = b.score then Go.Op.bytesLess a.name b.name else decide (b.score < a.score)
theorem str_back (a : Tx) : (str a).toList = a := by rw [Lib.toList_data, str_list]
theorem less_irr (l : Tx) : Go.Op.bytesLess l l = false := by
  induction l with
  | nil => rfl
  | cons x l ih => simp [Go.Op.bytesLess, ih]
theorem closer_irr (a : Cd) : closer a a = false := by unfold closer; rw [if_pos rfl]; exact less_irr a.name
def upB (L : List Cd) (o : Option Nat) (i : Nat) : Option Nat := match o with
  | none => some i
  | some k => if closer (L.getD i cd0) (L.getD k cd0) then some i else some k
/-- The card that fits a text, among the first ones. -/
def best (L : List Cd) : Nat → Tx → Option Nat
  | 0, _ => none
  | n + 1, x => if x ∈ (L.getD n cd0).compat then upB L (best L n x) n else best L n x
theorem upB_idem (L : List Cd) (o : Option Nat) (i : Nat) : upB L (upB L o i) i = upB L o i := by
  cases o with
  | none => show (if closer (L.getD i cd0) (L.getD i cd0) then some i else some i) = some i; simp
  | some k =>
    by_cases h : closer (L.getD i cd0) (L.getD k cd0) = true
    · simp only [upB, h, if_true]
      split <;> rfl
    · simp only [upB, h, if_false, Bool.false_eq_true]
theorem best_lt (L : List Cd) (x : Tx) : ∀ (n : Nat) (k : Nat), best L n x = some k → k < n := by
  intro n
  induction n with
  | zero => intro k h; cases h
  | succ n ih =>
    intro k h
    unfold best at h
    split at h
    · cases hb : best L n x with
      | none => rw [hb] at h; cases h; omega
      | some j =>
        rw [hb] at h
        have := ih j hb
        unfold upB at h
        dsimp only at h
        split at h <;> cases h <;> omega
    · have := ih k h; omega
theorem upB_lt {L : List Cd} {o : Option Nat} {i k : Nat} (ho : ∀ j, o = some j → j < i) (h : upB L o i = some k) : k ≤ i := by
  cases o with
  | none => cases h; omega
  | some j =>
    have := ho j rfl
    unfold upB at h
    dsimp only at h
    split at h <;> cases h <;> omega
/-- What a map knows: the places of cards by texts. -/
def View (D : DataW Value) (f : Tx → Option Nat) : Prop := IsMap D ∧ ∀ x : Tx, Maps.has D (.string x) = (f x).isSome ∧ (∀ k, f x = some k → D.atKey (.string x) (.held (.int .i64 0)) = .held (.int .i64 (k : Nat))) ∧ (f x = Option.none → D.atKey (.string x) (.held (.int .i64 0)) = .held (.int .i64 0))
theorem View.none : View (.map []) (fun _ => none) := ⟨⟨[], rfl⟩, fun _ => ⟨rfl, (fun _ h => by cases h), fun _ => rfl⟩⟩
theorem View.put {D : DataW Value} {f : Tx → Option Nat} (h : View D f) (y : Tx) (i : Nat) : View (D.put (.string y) (.held (.int .i64 (i : Nat)))) (fun x => if x = y then some i else f x) := by
  refine ⟨IsMap.put h.1 _ _, fun x => ?_⟩
  by_cases he : x = y
  · subst he
    dsimp only
    rw [if_pos rfl]
    exact ⟨has_put_same h.1 (keyC _) _, (fun k hk => by cases hk; exact atKey_put_same h.1 (keyC _) _ _), fun h => by cases h⟩
  · have hne : (Lit.string x) ≠ Lit.string y := fun e => he (by injection e)
    dsimp only
    rw [if_neg he, has_put_other hne, atKey_put_other hne]
    exact h.2 x
/-- The texts of card i up to j are looked at. -/
def stepF (L : List Cd) (i j : Nat) (x : Tx) : Option Nat := if x ∈ (L.getD i cd0).compat.take j then upB L (best L i x) i else best L i x
theorem stepF_zero (L : List Cd) (i : Nat) : stepF L i 0 = best L i := by funext x; simp [stepF]
theorem stepF_end (L : List Cd) (i j : Nat) (h : (L.getD i cd0).compat.length ≤ j) : stepF L i j = best L (i + 1) := by
  funext x
  unfold stepF
  rw [List.take_of_length_le h]
  rfl
theorem take_mem {l : List Tx} {j : Nat} (hj : j < l.length) (x : Tx) : x ∈ l.take (j + 1) ↔ x ∈ l.take j ∨ x = l.getD j [] := by
  have e : l.take (j + 1) = l.take j ++ [l.getD j []] := by
    rw [List.take_add_one, some_at l [] j hj]
    rfl
  rw [e]
  simp
theorem stepF_next (L : List Cd) (i j : Nat) (hj : j < (L.getD i cd0).compat.length) : stepF L i (j + 1) = fun x => if x = (L.getD i cd0).compat.getD j [] then upB L (stepF L i j x) i else stepF L i j x := by
  funext x
  unfold stepF
  by_cases h1 : x ∈ (L.getD i cd0).compat.take j
  · rw [if_pos ((take_mem hj x).2 (.inl h1)), if_pos h1, upB_idem]
    split <;> rfl
  · by_cases h2 : x = (L.getD i cd0).compat.getD j []
    · rw [if_pos ((take_mem hj x).2 (.inr h2)), if_pos h2, if_neg h1]
    · rw [if_neg (fun h => ((take_mem hj x).1 h).elim h1 h2), if_neg h2, if_neg h1]
theorem stepF_lt (L : List Cd) (i j : Nat) (x : Tx) (k : Nat) (h : stepF L i j x = some k) : k ≤ i := by
  unfold stepF at h
  split at h
  · exact upB_lt (best_lt L x i) h
  · exact Nat.le_of_lt (best_lt L x i k h)
/-- A card in a box, and what stands behind it. -/
theorem box_ex (w : World) (a : Cd) (r : Sl) : ∃ w1, w.alloc (.cells (cells7 a r) 37) = w1 ∧ w1.heap.size = w.heap.size + 1 ∧ Below w.heap.size w w1 ∧ ∀ W, Below w1.heap.size w1 W → ∀ j u, (cells7 a r)[j]? = some u → W.cell? ⟨w.heap.size, j, none⟩ = some u :=
  ⟨_, rfl, by simp, grows' w _, fun W hW j u hu => (hW.cell (p := ⟨w.heap.size, j, none⟩) (by simp)).trans (box7s w a r 37 j u hu)⟩
set_option maxRecDepth 100000 in
set_option maxHeartbeats 8000000 in
theorem isCloser_any (a b : Cd) (r s : Sl) (w : World) : Calls Try.prog 34 #[cardV a r, cardV b s] w fun e w' => e = .returned (.bool (closer a b)) ∧ Below w.heap.size w w' := by
  obtain ⟨w1, hw1, hs1, hb1, hx1⟩ := box_ex w a r
  obtain ⟨w2, hw2, hs2, hb2, hx2⟩ := box_ex w1 b s
  have a4 : w2.cell? ⟨w.heap.size, 4, none⟩ = some (.int .i8 a.score) := hx1 w2 hb2 4 _ rfl
  have a0 : w2.cell? ⟨w.heap.size, 0, none⟩ = some (.string (str a.name)) := hx1 w2 hb2 0 _ rfl
  have b4 : w2.cell? ⟨w1.heap.size, 4, none⟩ = some (.int .i8 b.score) := hx2 w2 (Below.refl _ _) 4 _ rfl
  have b0 : w2.cell? ⟨w1.heap.size, 0, none⟩ = some (.string (str b.name)) := hx2 w2 (Below.refl _ _) 0 _ rfl
  have HB := Lib.hid (bt hb1 hb2)
  have q0 : Go.Op.bytesLess (str a.name).toList (str b.name).toList = Go.Op.bytesLess a.name b.name := by rw [str_back, str_back]
  rw [hs1] at b4 b0
  have HCL : Hid (closer a b = if a.score = b.score then Go.Op.bytesLess a.name b.name else decide (b.score < a.score)) := Lib.hid rfl
  clear hx1 hx2 hb1 hb2 hs1 hs2
  unfold cardV
  unfold cells7 at hw1 hw2 ⊢
  obtain ⟨nm, fm, lv, cp, sc, qk, en⟩ := a
  obtain ⟨ra, rn, rc⟩ := r
  obtain ⟨nm2, fm2, lv2, cp2, sc2, qk2, en2⟩ := b
  obtain ⟨sa, sn, sc9⟩ := s
  simp only [slV] at hw1 hw2 ⊢
  dsimp only at a4 a0 b4 b0 q0 HCL
  have HW1 := Lib.hid hw1
  have HW2 := Lib.hid hw2
  clear hw1 hw2
  generalize Go.Op.bytesLess nm nm2 = x at q0 HCL
  generalize str nm = S1 at a0 q0 HW1 ⊢
  generalize str nm2 = S2 at b0 q0 HW2 ⊢
  go_enter Try.func34, Try.ntmps34
  go_upto_region 1 with (fail)
  rw [HW1.out, HW2.out]
  by_cases h : sc = sc2
  · have HR := Lib.hid (HCL.out.trans (if_pos h))
    clear HCL
    subst h
    go_wp2_with fail
    go_ret
    exact ⟨by rw [HR.out]; rfl, HB.out⟩
  · have HR := Lib.hid (HCL.out.trans (if_neg h))
    clear HCL
    go_wp2_with fail
    go_ret
    exact ⟨by rw [HR.out]; rfl, HB.out⟩
end Go.Proofs.Ytnnaoneegeenkaa.Mt
