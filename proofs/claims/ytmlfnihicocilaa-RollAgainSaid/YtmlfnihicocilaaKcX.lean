/- Copies of cards: Twin, Twins; SameAll. -/
import Derived.Test.YtmlfnihicocilaaKcW
import Derived.Deep.DeepCutAuto
namespace Go.Proofs.Ytmlfnihicocilaa.Kc
open Go.ChangeShapes Go.WideShapes Go.ChangeAt Go.RowKit Own Ro wordsNames

theorem info_str : (Try.prog.info? 9).map (fun i => (i.zero, i.size, i.bytes)) = some (some (.string ⟨#[]⟩), 1, 16) := by kernel_rfl
/-- A card in memory of the call's own. -/
def MadeC (a : Cd) (w : World) (e : Ending) (w' : World) : Prop :=
  ∃ A c n, e = .returned (cardV a (A, n, c)) ∧ n = a.compat.length ∧ w'.ownsRow w.heap.size 9 1 (.slice A n c) n (strs a.compat) ∧ Below w.heap.size w w'
theorem own_set {w : World} {b' : Nat} {E : TypeId} {k m : Nat} {v : Value} {xs : List Value} {p : Addr} {u : Value} (h : w.ownsRow b' E k v m xs) (hp : p.block < b') : (w.setCell p u).ownsRow b' E k v m xs := own_keptLow h (set_grown w p u) hp
end Go.Proofs.Ytmlfnihicocilaa.Kc
