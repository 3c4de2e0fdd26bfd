/- The walk of the law on what is shown. -/
import Derived.Test.YtoepejokkfhiaaaDoorRfF
namespace Go.Proofs.YtoepejokkfhiaaaDoor.Wd
open Go.ChangeShapes Go.WideShapes Go.ChangeAt Go.RowKit Own Bld Go.Lib Nums

theorem below_on {y w w' : World} (h : Below y.heap.size y w) (h2 : Below w.heap.size w w') : Below y.heap.size y w' := h.trans (h2.mono h.size)
theorem fits_both (s : ByteArray) (x : Int) (hs : s.size ≤ 16777216) (hx0 : -9223372036854775808 ≤ x) (hx1 : x ≤ 9223372036854775807) : ∃ (q : ByteArray) (k : Int),
    (∀ W, Calls Tryd.prog 7 #[.string s, .int .i64 x] W fun e w' => e = .returned (.tuple #[.string q, .int .i64 k]) ∧ Below W.heap.size W w') ∧
    ∀ W, U8 W → Calls Tryd.prog 6 #[.string s, .int .i64 x] W fun e w' => e = .returned (.tuple #[.string q, .int .i64 k]) ∧ Below W.heap.size W w' := by
  by_cases hx : x < 1 ∨ 4096 < x
  · exact ⟨_, _, fun W => refFit_bad s x W hx0 hx1 hx, fun W _ => fitF_bad s x W hx0 hx1 hx⟩
  · obtain ⟨n, rfl⟩ : ∃ n : Nat, x = (n : Int) := ⟨x.toNat, by omega⟩
    refine ⟨_, _, fun W => ?_, fun W h => fitF_all s n W hs (by omega) (by omega) h⟩
    by_cases hw : widthW s.data.toList ≤ n
    · exact refFit_pad s n W hs (by omega) (by omega) hw
    · exact refFit_cut s n W hs (by omega) (by omega) (by omega)

set_option maxRecDepth 100000 in
set_option maxHeartbeats 4000000 in
theorem walkWShows (s : ByteArray) (x : Int) (w : World) (hs : s.size ≤ 1048576) (hx0 : -9223372036854775808 ≤ x) (hx1 : x ≤ 9223372036854775807) (hT : U8 w) :
    Calls Tryd.prog 3 #[.string s, .int .i64 x] w fun e w' => e = .returned (.bool true) ∧ Below w.heap.size w w' := by
  obtain ⟨q, k, f1, f2⟩ := fits_both s x (by omega) hx0 hx1
  have F1 := Lib.hid f1
  have F2 := Lib.hid f2
  have S1 := Lib.hid fun W (h : U8 W) => show_any s W (by omega) h
  have S2 := Lib.hid fun W => refShow_any s W (by omega)
  have W1 := Lib.hid fun W (h : U8 W) => width_any s W (by omega) h
  have W2 := Lib.hid fun W => refWidth_any s W (by omega)
  have HT := Lib.hid hT
  generalize str (showW s.data.toList) = p at S1 S2
  generalize widthW s.data.toList = d at W1 W2
  clear f1 f2 hT
  go_enter Tryd.func3, Tryd.ntmps3
  go_wp2_with fail
  refine (F2.out _ HT.out).mono ?_
  rintro e w1 ⟨rfl, b1⟩
  have B1 := Lib.hid b1
  clear b1
  go_wp2_with fail
  refine (F1.out _).mono ?_
  rintro e w2 ⟨rfl, b2⟩
  have B2 := Lib.hid (below_on B1.out b2)
  clear b2
  go_wp2_with fail
  refine (S1.out _ (HT.out.below B2.out)).mono ?_
  rintro e w3 ⟨rfl, b3⟩
  have B3 := Lib.hid (below_on B2.out b3)
  clear b3
  go_wp2_with fail
  refine (S2.out _).mono ?_
  rintro e w4 ⟨rfl, b4⟩
  have B4 := Lib.hid (below_on B3.out b4)
  clear b4
  go_wp2_with fail
  refine (W1.out _ (HT.out.below B4.out)).mono ?_
  rintro e w5 ⟨rfl, b5⟩
  have B5 := Lib.hid (below_on B4.out b5)
  clear b5
  go_wp2_with fail
  refine (W2.out _).mono ?_
  rintro e w6 ⟨rfl, b6⟩
  have B6 := Lib.hid (below_on B5.out b6)
  clear b6
  go_wp2_with fail
  go_ret
  exact ⟨rfl, B6.out⟩
end Go.Proofs.YtoepejokkfhiaaaDoor.Wd
