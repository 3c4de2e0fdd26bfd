/- The law RadioHops at a seed as it came in. -/
import Derived.Test.YtinocgngjhomcaaDoorRhC
namespace Go.Proofs.YtinocgngjhomcaaDoor.Rh
open Go.ChangeShapes Go.WideShapes Go.ChangeAt Go.RowKit Own Ro Go.Sort

theorem lawHops_int (s n f : Int) (w : World) (hE : Ra.Tb w) (hs0 : 0 ≤ s) (hs : s ≤ 18446744073709551615) :
    Calls Tryd.prog 6 #[.int .u64 s, .int .i64 n, .int .i64 f] w (fun e w' => e = .returned (.bool true) ∧ Below w.heap.size w w') := by
  have := lawHops_any s.toNat n f (by omega) w hE
  rwa [show ((s.toNat : Nat) : Int) = s by omega] at this
end Go.Proofs.YtinocgngjhomcaaDoor.Rh
