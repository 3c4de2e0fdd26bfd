/- The program's Same. -/
import Derived.Test.YtfafhkhamaccfaaTrU
import Derived.Test.YtfafhkhamaccfaaTrR
namespace Go.Proofs.Ytfafhkhamaccfaa.Tr
open Go.ChangeShapes Go.WideShapes Go.ChangeAt Go.RowKit Own wordsNames

theorem nbox (w : World) (x y z : Value) (t : TypeId) (i : Nat) (v : Value) (h : #[x, y, z][i]? = some v) : (w.alloc (.cells #[x, y, z] t)).cell? ⟨w.heap.size, i, none⟩ = some v := by rw [Lib.cell_of_heap (heap_alloc_new w _)]; exact h
end Go.Proofs.Ytfafhkhamaccfaa.Tr
