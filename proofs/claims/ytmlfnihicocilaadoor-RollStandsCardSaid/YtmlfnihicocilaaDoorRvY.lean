/- What stands when main begins: the law RollStands. -/
import Derived.Test.YtmlfnihicocilaaDoorRvX
namespace Go.Proofs.YtmlfnihicocilaaDoor.Kq
open Go.ChangeShapes Go.WideShapes Go.ChangeAt Go.RowKit Own Ro wordsNames Kc
open Rm (T5)

set_option maxRecDepth 100000 in
theorem stands_any (w : World) (ht5 : T5 w) : Calls Tryd.prog 3 #[] w (fun e w' => e = .returned (.bool true) ∧ Below w.heap.size w w') := by
  have HT := Lib.hid (tells_any w ht5)
  clear ht5
  go_enter Tryd.func3, Tryd.ntmps3
  go_wp2_with fail
  refine HT.out.mono ?_
  rintro e w1 ⟨rfl, hb⟩
  have HB := Lib.hid hb
  clear hb HT
  go_wp2_with fail
  go_ret
  exact ⟨rfl, HB.out⟩
end Go.Proofs.YtmlfnihicocilaaDoor.Kq
