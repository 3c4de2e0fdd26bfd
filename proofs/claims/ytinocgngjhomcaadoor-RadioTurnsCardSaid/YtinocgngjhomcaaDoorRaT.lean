/- The fifth family's table as its text lays it. -/
import Derived.Test.YtinocgngjhomcaaDoorRows
import Derived.Test.YtinocgngjhomcaaDoorRaA
namespace Go.Proofs.YtinocgngjhomcaaDoor.Ra
open Go.ChangeShapes Go.WideShapes Go.ChangeAt Go.RowKit Own Ro

theorem gtab : Tryd.prog.globalNamed "reveille/radio.table" = some 0 := by kernel_rfl
theorem tab_eq : (Rows.laid_reveille_radio_table : DataW Unit) = Lib.tabData .i64 tab := by kernel_rfl
theorem tb_of {W : World} (h : laidMet Tryd.prog [("reveille/radio.table", Rows.laid_reveille_radio_table)] W) : Tb W := by
  rw [tab_eq] at h
  have t1 := Lib.tabIs_of_head gtab (by kernel_rfl) Tryd.underlying51 Tryd.underlying2 (by kernel_rfl) (by kernel_rfl) h
  intro j v hv
  have hj : j < tab.length := by
    have := (List.getElem?_eq_some_iff.1 hv).1
    simpa [tabV] using this
  have hc := t1.cell gtab j hj
  rw [Nat.zero_add, hc, ← hv]
  unfold tabV
  rw [List.getElem?_map, List.getElem?_eq_getElem hj, List.getD_eq_getElem?_getD, List.getElem?_eq_getElem hj]
  rfl
end Go.Proofs.YtinocgngjhomcaaDoor.Ra
