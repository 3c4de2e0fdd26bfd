/- The contracts of isWidth, and of Fit at a clear text. -/
import Derived.Test.YtaoekpedjgnnjaaDoorWdL
namespace Go.Proofs.YtaoekpedjgnnjaaDoor.Wd
open Go.ChangeShapes Go.WideShapes Go.ChangeAt Go.RowKit Own Bld Go.Lib Nums

theorem isWidth_yes (n : Nat) (w : World) (h1 : 1 ≤ n) (hn : n ≤ 4096) :
    Calls Tryd.prog 30 #[.int .i64 (n : Int)] w fun e w' => e = .returned (.bool true) ∧ w = w' := by
  have t0 : decide ((1 : Int) ≤ (n : Int)) = true := decide_eq_true (by omega)
  have t1 : decide ((n : Int) ≤ 4096) = true := decide_eq_true (by omega)
  go_enter Tryd.func30, Tryd.ntmps30
  go_wp2_with fail
  go_ret
  exact ⟨rfl, rfl⟩

end Go.Proofs.YtaoekpedjgnnjaaDoor.Wd
