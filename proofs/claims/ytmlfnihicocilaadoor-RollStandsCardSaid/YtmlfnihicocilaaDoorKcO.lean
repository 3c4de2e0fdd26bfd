/- The program's mayBe. -/
import Derived.Test.YtmlfnihicocilaaDoorKcN
namespace Go.Proofs.YtmlfnihicocilaaDoor.Kc
open Go.ChangeShapes Go.WideShapes Go.ChangeAt Go.RowKit Own Ro wordsNames

theorem box7 (w : World) (a : Cd) (r : Sl) (t : TypeId) (j : Nat) : (w.alloc (.cells (cells7 a r) t)).cell? ⟨w.heap.size, j, none⟩ = (cells7 a r)[j]? := by rw [Lib.cell_of_heap (heap_alloc_new w _)]
theorem box7s (w : World) (a : Cd) (r : Sl) (t : TypeId) (j : Nat) (v : Value) (h : (cells7 a r)[j]? = some v) : (w.alloc (.cells (cells7 a r) t)).cell? ⟨w.heap.size, j, none⟩ = some v := (box7 w a r t j).trans h
end Go.Proofs.YtmlfnihicocilaaDoor.Kc
