/- The law's look at the ends (where sensor's array alone is laid). -/
import Derived.Test.YtjpimamjcckieaaDoorSeC
namespace Go.Proofs.YtjpimamjcckieaaDoor.Se
open Go.ChangeShapes Go.WideShapes Go.ChangeAt Go.RowKit Own Ro

set_option maxRecDepth 100000 in
set_option maxHeartbeats 8000000 in
theorem awake_any (w : World) (h : Tb w) : Calls Tryd.prog 4 #[] w (fun e w' => e = .returned (.bool true) ∧ Below w.heap.size w w') := by
  have HT := Lib.hid h
  have R0 := micro_ok 0 w h (by omega) (by omega)
  have R1 := milli_any 1373750 w h
  rw [show ent 0 = 625000 from rfl] at R0
  rw [show milV 1373750 = (-35000, true) by rfl] at R1
  clear h
  go_enter Tryd.func4, Tryd.ntmps4
  go_wp2_with fail
  refine R0.mono ?_
  rintro e w1 ⟨rfl, hw⟩
  rw [hw]
  clear hw w1
  go_wp2_with fail
  refine R1.mono ?_
  rintro e w1 ⟨rfl, hb⟩
  have HB := Lib.hid hb
  clear hb
  go_wp2_with fail
  go_ret
  exact ⟨rfl, HB.out⟩
end Go.Proofs.YtjpimamjcckieaaDoor.Se
