/- Two cards compared: the program's Same and the document's. -/
import Derived.Test.YtnnaoneegeenkaaKcO
namespace Go.Proofs.Ytnnaoneegeenkaa.Kc
open Go.ChangeShapes Go.WideShapes Go.ChangeAt Go.RowKit Own Ro wordsNames

theorem map_str_at (l : List (List UInt8)) (j : Nat) (h : j < l.length) : (l.map str).getD j ByteArray.empty = str (l.getD j []) := by
  rw [List.getD_eq_getElem?_getD, List.getD_eq_getElem?_getD, List.getElem?_map, List.getElem?_eq_getElem h]
  rfl
theorem map_str_inj {l l' : List (List UInt8)} (h : l.map str = l'.map str) : l = l' := by
  induction l generalizing l' with
  | nil => cases l' with
    | nil => rfl
    | cons y l' => cases h
  | cons x l ih => cases l' with
    | nil => cases h
    | cons y l' =>
      injection h with h1 h2
      rw [str_inj h1, ih h2]
theorem cd_ext (a b : Cd) : a = b ↔ a.name = b.name ∧ a.fam = b.fam ∧ a.level = b.level ∧ a.compat = b.compat ∧ a.score = b.score ∧ a.quirk = b.quirk ∧ a.entry = b.entry := by
  obtain ⟨a1, a2, a3, a4, a5, a6, a7⟩ := a
  obtain ⟨b1, b2, b3, b4, b5, b6, b7⟩ := b
  simp
theorem or7 (a b c d e f g : Bool) : a = false ∨ (a = true ∧ b = false) ∨ (a = true ∧ b = true ∧ c = false) ∨ (a = true ∧ b = true ∧ c = true ∧ d = false) ∨ (a = true ∧ b = true ∧ c = true ∧ d = true ∧ e = false) ∨ (a = true ∧ b = true ∧ c = true ∧ d = true ∧ e = true ∧ f = false) ∨
    (a = true ∧ b = true ∧ c = true ∧ d = true ∧ e = true ∧ f = true ∧ g = false) ∨ (a = true ∧ b = true ∧ c = true ∧ d = true ∧ e = true ∧ f = true ∧ g = true) := by
  cases a <;> cases b <;> cases c <;> cases d <;> cases e <;> cases f <;> cases g <;> simp
theorem int_eqb (a b : Int) : (a == b) = decide (a = b) := by rw [Bool.eq_iff_iff]; simp
end Go.Proofs.Ytnnaoneegeenkaa.Kc
