/- The document's May, named and Check. -/
import Derived.Test.YtmlfnihicocilaaKcU
import Derived.Deep.RegionWith
namespace Go.Proofs.Ytmlfnihicocilaa.Kc
open Go.ChangeShapes Go.WideShapes Go.ChangeAt Go.RowKit Own Ro wordsNames

theorem or5 (a b c d e : Bool) : a = false ∨ (a = true ∧ b = false) ∨ (a = true ∧ b = true ∧ c = false) ∨ (a = true ∧ b = true ∧ c = true ∧ d = false) ∨ (a = true ∧ b = true ∧ c = true ∧ d = true ∧ e = false) ∨ (a = true ∧ b = true ∧ c = true ∧ d = true ∧ e = true) := by
  cases a <;> cases b <;> cases c <;> cases d <;> cases e <;> simp
theorem or4q (gq g3 g8 g9 _gt : Bool) : (gq = false ∧ g3 = false) ∨ (gq = true ∧ g8 = false) ∨ (gq = true ∧ g8 = true ∧ g9 = false) ∨ (gq = true ∧ g8 = true ∧ g9 = true) ∨ (gq = false ∧ g3 = true ∧ g8 = false) ∨ (gq = false ∧ g3 = true ∧ g8 = true ∧ g9 = false) ∨ (gq = false ∧ g3 = true ∧ g8 = true ∧ g9 = true) := by
  cases gq <;> cases g3 <;> cases g8 <;> cases g9 <;> simp
end Go.Proofs.Ytmlfnihicocilaa.Kc
