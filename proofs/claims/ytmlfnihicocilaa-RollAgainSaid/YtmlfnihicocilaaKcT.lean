/- Two cards compared by the document. -/
import Derived.Test.YtmlfnihicocilaaKcS
namespace Go.Proofs.Ytmlfnihicocilaa.Kc
open Go.ChangeShapes Go.WideShapes Go.ChangeAt Go.RowKit Own Ro wordsNames

theorem int_neb (a b : Int) : (a != b) = !decide (a = b) := by rw [bne, int_eqb]
theorem str_neb (a b : List UInt8) : (!((str a).toList == (str b).toList)) = !decide (a = b) := by rw [eq_lists]
theorem lists_eq (l l' : List (List UInt8)) (n : Nat) (h1 : n = l.length) (h2 : n = l'.length) : l = l' ↔ ∀ i, i < n → l.getD i [] = l'.getD i [] := by
  constructor
  · rintro rfl i _
    rfl
  · intro h
    exact list_ext [] (by omega) fun i hi => h i (by omega)
end Go.Proofs.Ytmlfnihicocilaa.Kc
