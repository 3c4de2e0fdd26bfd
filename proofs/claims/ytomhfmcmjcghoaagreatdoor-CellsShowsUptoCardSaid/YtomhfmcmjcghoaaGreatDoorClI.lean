/- The contracts of One and Text, the document's and the program's: one and the same. -/
import Derived.Test.YtomhfmcmjcghoaaGreatDoorClH
namespace Go.Proofs.YtomhfmcmjcghoaaGreatDoor.Cl
open Go.ChangeShapes Go.WideShapes Go.ChangeAt Go.RowKit Own

def oneV (l : List UInt8) : Nat × Int := if l.length = 4 then (num l, 0) else (0, 4)
def tOne (l : List UInt8) : List UInt8 × Int := if zat l + 1 = l.length then (l.take (zat l), 0) else ([], 4)

theorem split_one (l : List UInt8) (h : zat l + 1 = l.length) : split [] l = ([l.take (zat l)], []) := by
  have := split_next [] l [] rfl (by omega)
  rw [h, List.take_of_length_le (Nat.le_refl _)] at this
  simpa using this
theorem split_cons (l : List UInt8) (h : zat l < l.length) : split [] l = (l.take (zat l) :: (split [] (l.drop (zat l + 1))).1, (split [] (l.drop (zat l + 1))).2) := by
  have h1 := split_append (l.take (zat l + 1)) (l.drop (zat l + 1)) []
  rw [List.take_append_drop] at h1
  have h2 := split_next [] l [] rfl h
  simp only [List.nil_append] at h2
  rw [h1, h2]
  simp
theorem tx_one (l : List UInt8) (h : zat l + 1 ≠ l.length) : ¬ (etx l = 0 ∧ (tx l).length = 1) := by
  rintro ⟨he, hl⟩
  have hz := zat_le l
  have hr : (split [] l).2 = [] := by
    unfold etx at he
    by_cases hc : (split [] l).2 = []
    · exact hc
    · rw [if_neg hc] at he; cases he
  unfold tx at hl
  rw [if_pos hr, List.length_map] at hl
  by_cases h1 : zat l < l.length
  · rw [split_cons l h1] at hl hr
    simp at hl
    simp only at hr
    have h3 : 0 < (l.drop (zat l + 1)).length := by simp; omega
    generalize l.drop (zat l + 1) = q at hl hr h3
    by_cases h4 : zat q < q.length
    · rw [split_cons q h4] at hl; simp at hl
    · have := split_end [] q [] rfl (by omega)
      simp only [List.nil_append] at this
      rw [this] at hr
      simp only at hr
      rw [hr] at h3
      simp at h3
  · have := split_end [] l [] rfl (by omega)
    simp only [List.nil_append] at this
    rw [this] at hl
    simp at hl

end Go.Proofs.YtomhfmcmjcghoaaGreatDoor.Cl
