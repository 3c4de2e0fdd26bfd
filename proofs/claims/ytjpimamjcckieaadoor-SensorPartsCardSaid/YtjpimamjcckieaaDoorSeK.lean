/- Thousandths of a degree as kelvins (P11.1): quotient and sum are there, whatever the number. No program in it. -/
import Derived.Laws.Cover2
namespace Go.Proofs.YtjpimamjcckieaaDoor.Se
open Go

def kelQ (n : Int) : Nat := (FloatKind.f64.format.div (floatOfInt FloatKind.f64 n) 4652007308841189376).getD 0
def kelN (n : Int) : Nat := (FloatKind.f64.format.add (kelQ n) 4643512921809643110).getD 0
/-- No NaN. -/
def Some (x : Nat) : Prop := (∃ (s : Bool) (m : Nat) (e : Int), Ieee.double.read x = .number s m e) ∨ (∃ s : Bool, Ieee.double.read x = .infinity s)
theorem read_word (s : Bool) (r : Nat) (h : r ≤ Ieee.double.infRung) : Some (Ieee.double.word s r) := by
  have hI : Ieee.double.infRung = 9218868437227405312 := by decide
  have hS : Ieee.double.signWeight = 9223372036854775808 := by decide
  have hr : Ieee.double.word s r % Ieee.double.signWeight = r := by
    unfold Ieee.Format.word
    rw [hS]
    cases s
    · simp only [Bool.false_eq_true, if_false]; omega
    · simp only [if_true]; omega
  have hR : ∀ x, x % Ieee.double.signWeight = r → Some x := by
    intro x hx
    unfold Some Ieee.Format.read
    rw [hx]
    by_cases h1 : r < Ieee.double.binade
    · exact .inl ⟨_, _, _, if_pos h1⟩
    · by_cases h2 : r < Ieee.double.infRung
      · exact .inl ⟨_, _, _, (if_neg h1).trans (if_pos h2)⟩
      · exact .inr ⟨_, (if_neg h1).trans ((if_neg h2).trans (if_pos (by omega)))⟩
  exact hR _ hr
theorem read_write (d : Ieee.Datum) (h : d.isNaN = false) : Some (Ieee.double.write d) := by
  cases d with
  | number s m p =>
    show Some (Ieee.double.nearest s m p)
    have hn : ∃ r, Ieee.double.nearest s m p = Ieee.double.word s r ∧ r ≤ Ieee.double.infRung := by
      by_cases hm : m = 0
      · exact ⟨0, by unfold Ieee.Format.nearest; exact if_pos hm, Nat.zero_le _⟩
      · exact ⟨_, by unfold Ieee.Format.nearest; exact if_neg hm, Nat.min_le_right _ _⟩
    obtain ⟨r, hr, hl⟩ := hn
    rw [hr]
    exact read_word _ _ hl
  | infinity s => exact read_word _ _ (Nat.le_refl _)
  | nan s t => simp [Ieee.Datum.isNaN] at h
theorem kelQ_eq (n : Int) : FloatKind.f64.format.div (floatOfInt FloatKind.f64 n) 4652007308841189376 = some (kelQ n) ∧ (Some (kelQ n)) := by
  have hc : Ieee.double.read 4652007308841189376 = .number false 8796093022208000 (-43) := by rfl
  have h : ∃ d : Ieee.Datum, d.isNaN = false ∧ FloatKind.f64.format.div (floatOfInt FloatKind.f64 n) 4652007308841189376 = some (Ieee.double.write d) := by
    show ∃ d : Ieee.Datum, d.isNaN = false ∧ ((Ieee.double.read (Ieee.double.write (.number (n < 0) n.natAbs 0))).quotient _ (Ieee.double.read 4652007308841189376)).map Ieee.double.write = _
    rw [hc]
    rcases read_write (.number (n < 0) n.natAbs 0) rfl with ⟨s, m, e, h⟩ | ⟨s, h⟩
    · rw [h]; exact ⟨_, rfl, rfl⟩
    · rw [h]; exact ⟨_, rfl, rfl⟩
  obtain ⟨d, hd, h⟩ := h
  have hk : kelQ n = Ieee.double.write d := by unfold kelQ; rw [h]; rfl
  rw [hk]
  exact ⟨h, read_write d hd⟩
theorem kelN_eq (n : Int) : FloatKind.f64.format.add (kelQ n) 4643512921809643110 = some (kelN n) := by
  have hc : Ieee.double.read 4643512921809643110 = .number false 4805305618032230 (-44) := by rfl
  have h : ∃ z, FloatKind.f64.format.add (kelQ n) 4643512921809643110 = some z := by
    show ∃ z, ((Ieee.double.read (kelQ n)).sum (Ieee.double.read 4643512921809643110)).map Ieee.double.write = some z
    rw [hc]
    rcases (kelQ_eq n).2 with ⟨s, m, e, h⟩ | ⟨s, h⟩
    · rw [h]; exact ⟨_, rfl⟩
    · rw [h]; exact ⟨_, rfl⟩
  obtain ⟨z, h⟩ := h
  unfold kelN
  rw [h]
  rfl
end Go.Proofs.YtjpimamjcckieaaDoor.Se
