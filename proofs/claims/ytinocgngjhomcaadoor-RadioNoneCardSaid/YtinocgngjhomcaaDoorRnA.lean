/- The law RadioNone: the ends. -/
import Derived.Test.YtinocgngjhomcaaDoorRaC
import Derived.Test.YtinocgngjhomcaaDoorRhB
namespace Go.Proofs.YtinocgngjhomcaaDoor.Ra
open Go.ChangeShapes Go.WideShapes Go.ChangeAt Go.RowKit Own Ro

set_option maxRecDepth 100000 in
set_option maxHeartbeats 8000000 in
theorem strong_nil (w : World) : Calls Tryd.prog 33 #[.slice none 0 0] w (fun e w' => e = .returned (.tuple #[.int .i8 (-128), .int .i64 (-1)]) ∧ w' = w) := by
  go_enter Tryd.func33, Tryd.ntmps33
  go_wp2_with fail
  go_loopw [4, 5, 10] (fun v4 v5 v10 wr => v4 = .int .i8 (-128) ∧ v5 = .int .i64 (-1) ∧ v10 = .int .i64 0 ∧ wr = w) (fun _ _ _ _ => 0)
  case atStart => exact ⟨rfl, rfl, rfl, rfl⟩
  case round =>
    obtain ⟨rfl, rfl, rfl, hw⟩ := hrel
    rw [hw]
    clear hw wr
    go_wp2_with fail
    go_ret2
    exact ⟨rfl, rfl⟩
set_option maxRecDepth 100000 in
set_option maxHeartbeats 8000000 in
theorem mix_nil (w : World) : Calls Tryd.prog 32 #[.slice none 0 0] w (fun e w' => e = .returned (.complex .f64 4607182418800017408 0) ∧ w' = w) := by
  go_enter Tryd.func32, Tryd.ntmps32
  go_wp2_with fail
  go_loopw [3, 8] (fun v3 v8 wr => v3 = .complex .f64 4607182418800017408 0 ∧ v8 = .int .i64 0 ∧ wr = w) (fun _ _ _ => 0)
  case atStart => exact ⟨rfl, rfl, rfl⟩
  case round =>
    obtain ⟨rfl, rfl, hw⟩ := hrel
    rw [hw]
    clear hw wr
    go_wp2_with fail
    go_ret
    exact ⟨rfl, rfl⟩
theorem shi1 : shiV 0 4733809291562057728 = (0, 1) := by
  unfold shiV
  rw [if_neg]
  rintro ⟨_, _, h⟩
  revert h
  decide +kernel
theorem shi2 : shiV 0 13957181328416833536 = (0, 1) := by
  unfold shiV
  rw [if_neg]
  rintro ⟨_, h, _⟩
  revert h
  decide +kernel
theorem shi3 : shiV 20 0 = (0, 1) := by
  unfold shiV
  rw [if_neg]
  rintro ⟨h, _, _⟩
  omega
set_option maxRecDepth 100000 in
set_option maxHeartbeats 16000000 in
theorem none_any (w : World) (hE : Tb w) : Calls Tryd.prog 8 #[] w (fun e w' => e = .returned (.bool true) ∧ Below w.heap.size w w') := by
  have H1 := Lib.hid (hertz_bad 20 w (by omega))
  have H2 := Lib.hid (hertz_bad (-1) w (by omega))
  have H3 := Lib.hid (near_bad (-1) w (by omega))
  have H4 := Lib.hid (near_ok 9223372036854775807 w hE (by omega) (by omega))
  rw [near_top] at H4
  have H5 := Lib.hid (Rh.hops_bad 0 (-1) w (by omega))
  have H6 := Lib.hid (Rh.hops_bad 0 4097 w (by omega))
  have H7 := Lib.hid (Rh.hops_ok 0 4096 (by omega) (by omega) w)
  have H8 := Lib.hid (fun V (hV : Below w.heap.size w V) => shift_any 0 4733809291562057728 V (hE.below hV))
  have H9 := Lib.hid (fun V (hV : Below w.heap.size w V) => shift_any 0 13957181328416833536 V (hE.below hV))
  have H10 := Lib.hid (fun V (hV : Below w.heap.size w V) => shift_any 20 0 V (hE.below hV))
  rw [shi1] at H8
  rw [shi2] at H9
  rw [shi3] at H10
  have H11 := Lib.hid (fun V (hV : Below w.heap.size w V) => awake_any V (hE.below hV))
  clear hE
  go_enter Tryd.func8, Tryd.ntmps8
  go_wp2_with fail
  refine H1.out.mono ?_
  rintro e w1 ⟨rfl, hw⟩
  rw [hw]
  clear hw w1 H1
  go_wp2_with fail
  refine H2.out.mono ?_
  rintro e w1 ⟨rfl, hw⟩
  rw [hw]
  clear hw w1 H2
  go_wp2_with fail
  refine H3.out.mono ?_
  rintro e w1 ⟨rfl, hw⟩
  rw [hw]
  clear hw w1 H3
  go_wp2_with fail
  refine H4.out.mono ?_
  rintro e w1 ⟨rfl, hw⟩
  rw [hw]
  clear hw w1 H4
  go_wp2_with fail
  refine H5.out.mono ?_
  rintro e w1 ⟨rfl, hw⟩
  rw [hw]
  clear hw w1 H5
  go_wp2_with fail
  refine H6.out.mono ?_
  rintro e w1 ⟨rfl, hw⟩
  rw [hw]
  clear hw w1 H6
  go_wp2_with fail
  refine H7.out.mono ?_
  rintro e w2 ⟨⟨A, c, rfl, _⟩, hb⟩
  have HB := Lib.hid hb
  clear hb H7
  go_wp2_with fail
  refine (H8.out w2 HB.out).mono ?_
  rintro e w1 ⟨rfl, hw⟩
  rw [hw]
  clear hw w1 H8
  go_wp2_with fail
  refine (H9.out w2 HB.out).mono ?_
  rintro e w1 ⟨rfl, hw⟩
  rw [hw]
  clear hw w1 H9
  go_wp2_with fail
  refine (H10.out w2 HB.out).mono ?_
  rintro e w1 ⟨rfl, hw⟩
  rw [hw]
  clear hw w1 H10
  go_wp2_with fail
  refine (strong_nil w2).mono ?_
  rintro e w1 ⟨rfl, hw⟩
  rw [hw]
  clear hw w1
  have hcc : (FloatKind.f64.format.order 4607182418800017408 4607182418800017408 == some .eq) = true := by decide +kernel
  have hc0 : (FloatKind.f64.format.order 0 0 == some .eq) = true := by decide +kernel
  have h44 : (((4096 : Nat) : Int) == 4096) = true := by decide
  have h19 : (((19 : Nat) : Int) == 19) = true := by decide
  go_wp2_with fail
  refine (mix_nil w2).mono ?_
  rintro e w1 ⟨rfl, hw⟩
  rw [hw]
  clear hw w1
  go_wp2_with fail
  refine (H11.out w2 HB.out).mono ?_
  rintro e w1 ⟨rfl, hw⟩
  rw [hw]
  clear hw w1
  go_wp2_with fail
  go_ret
  exact ⟨rfl, HB.out⟩
end Go.Proofs.YtinocgngjhomcaaDoor.Ra
