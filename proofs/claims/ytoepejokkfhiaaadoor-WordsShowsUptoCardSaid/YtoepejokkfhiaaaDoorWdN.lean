/- The contracts of isWidth, and of Fit at a clear text. -/
import Derived.Test.YtoepejokkfhiaaaDoorWdL
namespace Go.Proofs.YtoepejokkfhiaaaDoor.Wd
open Go.ChangeShapes Go.WideShapes Go.ChangeAt Go.RowKit Own Bld Go.Lib Nums

theorem isWidth_yes (n : Nat) (w : World) (h1 : 1 ≤ n) (hn : n ≤ 4096) :
    Calls Tryd.prog 22 #[.int .i64 (n : Int)] w fun e w' => e = .returned (.bool true) ∧ w = w' := by
  have t0 : decide ((1 : Int) ≤ (n : Int)) = true := decide_eq_true (by omega)
  have t1 : decide ((n : Int) ≤ 4096) = true := decide_eq_true (by omega)
  go_enter Tryd.func22, Tryd.ntmps22
  go_wp2_with fail
  go_ret
  exact ⟨rfl, rfl⟩

set_option maxRecDepth 100000 in
theorem fitF_clear (s : ByteArray) (n : Nat) (w : World) (hs : s.size ≤ 67108864) (h1 : 1 ≤ n) (hn : n ≤ 4096) (hc : Clear s) (hT : U8 w) :
    Calls Tryd.prog 6 #[.string s, .int .i64 (n : Int)] w fun e w' => e = .returned (.tuple #[.string (str (fitL s.data.toList n)), .int .i64 0]) ∧ Below w.heap.size w w' := by
  have HT := Lib.hid hT
  have HC := Lib.hid hc
  clear hT hc
  go_enter Tryd.func6, Tryd.ntmps6
  go_wp2_with fail
  refine (isWidth_yes n _ h1 hn).mono ?_
  rintro e w1 ⟨rfl, rfl⟩
  go_wp2_with fail
  refine (fit_any s n _ hs h1 hn HC.out HT.out).mono ?_
  rintro e w2 ⟨rfl, b2⟩
  go_wp2_with fail
  go_ret2
  exact ⟨rfl, b2⟩
end Go.Proofs.YtoepejokkfhiaaaDoor.Wd
