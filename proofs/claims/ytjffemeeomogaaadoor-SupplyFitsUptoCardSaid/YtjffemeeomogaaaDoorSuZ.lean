/- The law SupplyFits, of any windows. -/
import Derived.Test.YtjffemeeomogaaaDoorSuW
import Derived.Test.YtjffemeeomogaaaDoorSuY
namespace Go.Proofs.YtjffemeeomogaaaDoor.Su
open Go.ChangeShapes Go.WideShapes Go.ChangeAt Go.RowKit Own Ro

theorem lawFits_any (A : Option Addr) (c n : Nat) (l : List Pr) (cut v : Int) (w : World) (h : Tb w) (hn : n = l.length) (hb : n ≤ 2000000) (hs : CellsIn w 2 A n (prsV l)) :
    Calls Tryd.prog 5 #[.slice A n c, .int .i64 cut, .int .i64 v] w (fun e w' => e = .returned (.bool true) ∧ Below w.heap.size w w') := by
  by_cases hc : hiF (l.map ft) < loF (l.map ft)
  · exact lawFits_none A c n l cut v w h hn hb hs hc
  · exact lawFits_some A c n l cut v w h hn hb hs hc
end Go.Proofs.YtjffemeeomogaaaDoor.Su
