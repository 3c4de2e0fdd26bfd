/- The laws CrystalNames and CrystalAsks. -/
import Derived.Test.YthalnepbafnogaaDoorCrA
import Derived.Laws.Externs
namespace Go.Proofs.YthalnepbafnogaaDoor.Cr
open Go.ChangeShapes Go.WideShapes Go.ChangeAt Go.RowKit Own Ro

theorem run_bits (n : Nat) (w : World) : (callFunc 16 #[.float .f64 n]).run Tryd.prog w = .ok (.value (.int .u64 n)) w :=
  run_callFunc_extern (e := Extern.MathFloatBits.float64bits) Tryd.func16 (by kernel_rfl) (by kernel_rfl) (by kernel_rfl) (by kernel_rfl) _ w
set_option maxRecDepth 100000 in
set_option maxHeartbeats 8000000 in
theorem names_any (w : World) (h : Tb w) : Calls Tryd.prog 5 #[] w (fun e w' => e = .returned (.bool true) ∧ Below w.heap.size w w') := by
  have R0 := rate_bad (-1) w (by omega)
  have R1 := rate_bad 32 w (by omega)
  have P1 := period_bad 32 w (by omega)
  have D1 := divider_any 65536 1 w
  have D2 := divider_any 65535 1 w
  rw [show divide 65536 1 = (0, 6) by decide] at D1
  rw [show divide 65535 1 = (65535, 0) by decide] at D2
  go_enter Tryd.func5, Tryd.ntmps5
  go_wp2_with fail
  refine R0.mono ?_
  rintro e w1 ⟨rfl, rfl⟩
  go_wp2_with fail
  refine R1.mono ?_
  rintro e w1 ⟨rfl, rfl⟩
  go_wp2_with fail
  refine P1.mono ?_
  rintro e w1 ⟨rfl, rfl⟩
  go_wp2_with fail
  refine D1.mono ?_
  rintro e w1 ⟨rfl, rfl⟩
  go_wp2_with fail
  refine D2.mono ?_
  rintro e w1 ⟨rfl, rfl⟩
  go_wp2_with fail
  go_ret
  exact ⟨rfl, Below.refl _ _⟩
set_option maxRecDepth 100000 in
set_option maxHeartbeats 8000000 in
theorem asks_any (i x : Int) (w : World) (h : Tb w) (h1 : x ≤ 9223372036854775807) : Calls Tryd.prog 4 #[.int .i64 i, .int .i64 x] w (fun e w' => e = .returned (.bool true) ∧ Below w.heap.size w w') := by
  have HT := Lib.hid h
  clear h
  go_enter Tryd.func4, Tryd.ntmps4
  go_wp2_with fail
  refine (rate_any i w HT.out).mono ?_
  rintro e w1 ⟨rfl, rfl⟩
  go_wp2_with fail
  refine (period_any i _ HT.out).mono ?_
  rintro e w1 ⟨rfl, rfl⟩
  go_wp2_with fail
  refine (refPeriod_any i _).mono ?_
  rintro e w1 ⟨rfl, rfl⟩
  go_wp2_with fail
  refine (near_any x _ HT.out h1).mono ?_
  rintro e w2 ⟨rfl, hb⟩
  have HB := Lib.hid hb
  clear hb
  go_wp2_with fail
  refine (refNear_any x _ h1).mono ?_
  rintro e w1 ⟨rfl, q, rfl⟩
  have HBT := run_bits (perP i).1
  have E1 : (rateV i).2 = (perP i).2 := by unfold rateV perP; split <;> rfl
  have HE := Lib.hid (refEntry_any i (w2.drewN q))
  rw [← E1]
  cases hr : decide (0 ≤ i ∧ i < 32) with
  | true =>
    have hi : 0 ≤ i ∧ i < 32 := of_decide_eq_true hr
    have e2 : rateV i = (ent i, 0) := if_pos hi
    rw [e2]
    go_wp2_with fail
    refine (HE.out hi.1 hi.2).mono ?_
    rintro e w3 ⟨rfl, rfl⟩
    go_wp2_with fail
    go_ret
    exact ⟨by simp, below_dr HB.out _⟩
  | false =>
    have hi : ¬ (0 ≤ i ∧ i < 32) := of_decide_eq_false hr
    have e2 : rateV i = (0, 1) := if_neg hi
    rw [e2]
    go_wp2_with fail
    go_ret
    exact ⟨by simp, below_dr HB.out _⟩
end Go.Proofs.YthalnepbafnogaaDoor.Cr
