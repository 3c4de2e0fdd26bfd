/- The law RadioAsks at what came in. -/
import Derived.Test.YtinocgngjhomcaaDoorRqA
namespace Go.Proofs.YtinocgngjhomcaaDoor.Rq
open Go.ChangeShapes Go.WideShapes Go.ChangeAt Go.RowKit Own Ro Ra Rh Kc

theorem asks_int (i hz : Int) (sp : Nat) (sd n : Int) (hz1 : hz ≤ 9223372036854775807) (h0 : 0 ≤ sd) (h1 : sd ≤ 18446744073709551615) (w : World) (hE : Tb w) :
    Calls Tryd.prog 3 #[.agg #[.int .i64 i, .int .i64 hz, .float .f64 sp, .int .u64 sd, .int .i64 n]] w (fun e w' => e = .returned (.bool true) ∧ Below w.heap.size w w') := by
  have := asks_any i hz sp sd.toNat n hz1 (by omega) w hE
  rwa [show ((sd.toNat : Nat) : Int) = sd by omega] at this
end Go.Proofs.YtinocgngjhomcaaDoor.Rq
