/- The plan: the law RollPlan. -/
import Derived.Test.YtnnaoneegeenkaaDoorRpG
import Derived.Test.YtnnaoneegeenkaaDoorRvX
namespace Go.Proofs.YtnnaoneegeenkaaDoor.Rp
open Go.ChangeShapes Go.WideShapes Go.ChangeAt Go.RowKit Own Ro Kc
open Rm (T5)

set_option maxRecDepth 100000 in
theorem rollPlan_any (w : World) (ht5 : T5 w) : Calls Tryd.prog 3 #[] w (fun e w' => e = .returned (.bool true) ∧ Below w.heap.size w w') := by
  have HT := Lib.hid (fun W (hW : Below w.heap.size w W) => Kq.tells_any W (ht5.below hW))
  clear ht5
  go_enter Tryd.func3, Tryd.ntmps3
  go_wp2_with fail
  refine (planned_any w).mono ?_
  rintro e w1 ⟨rfl, hb1⟩
  have B1 := Lib.hid hb1
  clear hb1
  go_wp2_with fail
  refine (HT.out w1 B1.out).mono ?_
  rintro e w2 ⟨rfl, hb2⟩
  have B2 := Lib.hid (bt B1.out hb2)
  clear hb2
  go_wp2_with fail
  go_ret
  exact ⟨rfl, B2.out⟩
end Go.Proofs.YtnnaoneegeenkaaDoor.Rp
