/- The middle one of some readings, of the document: the least number that half of them are at or below. -/
import Derived.Test.YtjpimamjcckieaaDoorChecked
import Derived.Test.YtjpimamjcckieaaDoorRo
import Derived.WalkKit
import Derived.ProofKit
import Derived.Below
import Derived.WalkLawsBesides
import Derived.WalkSpells
import Derived.Outline
import Derived.Lib.Hide
import Derived.Deep.QuietTactic
import Derived.Deep.LoopGhost
import Derived.Deep.Cut
import Derived.Deep.DeepCutAuto
import Derived.Deep.CutBlock
import Derived.RegionTactic
import Derived.BigQuiet
import Derived.BigRegion
namespace Go.Proofs.YtjpimamjcckieaaDoor.Sv
open Go.ChangeShapes Go.WideShapes Go.ChangeAt Go.RowKit Own Ro

def i8s (xs : List Int) : List Value := xs.map fun x => .int .i8 x
def cnt (L : List Int) (d : Int) (k : Nat) : Nat := (L.take k).countP fun x => decide (x ≤ d)
theorem cnt_all (L : List Int) (d : Int) : cnt L d L.length = L.countP fun x => decide (x ≤ d) := by unfold cnt; rw [List.take_length]
theorem cnt_step {L : List Int} {d : Int} {k : Nat} (h : k < L.length) : cnt L d (k + 1) = cnt L d k + (if L[k]! ≤ d then 1 else 0) := by
  unfold cnt
  rw [List.take_add_one, List.countP_append, List.getElem?_eq_getElem h, getElem!_pos L k h]
  simp [List.countP_cons]
theorem i8_at {w : World} {b o n : Nat} {xs : List Int} (hn : n = xs.length) (hc : ∀ j u, (i8s xs)[j]? = some u → w.cell? ⟨b, o + j, none⟩ = some u) {j : Nat} (hj : j < n) : w.cell? ⟨b, o + j, none⟩ = some (.int .i8 xs[j]!) :=
  hc j _ (by unfold i8s; rw [List.getElem?_map, List.getElem?_eq_getElem (by omega), getElem!_pos xs j (by omega)]; rfl)
end Go.Proofs.YtjpimamjcckieaaDoor.Sv
