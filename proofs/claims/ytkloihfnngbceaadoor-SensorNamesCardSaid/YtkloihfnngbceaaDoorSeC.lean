/- Milli, Degrees, Kelvin and Raw at any voltage (P11.1, P11.2). -/
import Derived.Test.YtkloihfnngbceaaDoorSeB
import Derived.Test.YtkloihfnngbceaaDoorSeK
namespace Go.Proofs.YtkloihfnngbceaaDoor.Se
open Go.ChangeShapes Go.WideShapes Go.ChangeAt Go.RowKit Own Ro

theorem wrap_i16 (n : Int) : IntKind.i16.wrap n = (n + 32768) % 65536 - 32768 := by
  simp [IntKind.wrap, IntKind.bits, IntKind.signed]; split <;> omega
theorem tup_hh {a b c d : Int} (h1 : a = b) (h2 : c = d) : Ending.returned (.tuple #[.int .i16 a, .int .i16 c]) = Ending.returned (.tuple #[.int .i16 b, .int .i16 d]) := by rw [h1, h2]
set_option maxRecDepth 100000 in
set_option maxHeartbeats 8000000 in
theorem milli_any (m : Int) (w : World) (hT : Tb w) : Calls Tryd.prog 11 #[.int .i64 m] w (fun e w' => e = .returned (.tuple #[.int .i32 (milV m).1, .bool (milV m).2]) ∧ Below w.heap.size w w') := by
  have C0 := hT.at (i := 0) (by omega) (by omega)
  have C15 := hT.at (i := 15) (by omega) (by omega)
  rw [show ent 0 = 625000 from rfl, show (0 : Int).toNat = 0 from rfl] at C0
  rw [show ent 15 = 16937500 from rfl, show (15 : Int).toNat = 15 from rfl] at C15
  by_cases h0 : m < 625000
  · rw [show milV m = (-40000, false) by unfold milV; rw [if_pos h0]]
    clear hT
    go_enter Tryd.func11, Tryd.ntmps11
    go_wp2_with fail
    go_ret2
    exact ⟨rfl, Below.refl _ _⟩
  by_cases h1 : 16937500 ≤ m
  · rw [show milV m = (110000, decide (m = 16937500)) by unfold milV; rw [if_neg h0, if_pos h1]]
    clear hT
    go_enter Tryd.func11, Tryd.ntmps11
    have he : (m == 16937500) = decide (m = 16937500) := rfl
    generalize decide (m = 16937500) = b at he ⊢
    go_wp2_with fail
    go_quiet (fail)
    go_wp2_with fail
    go_ret2
    exact ⟨rfl, below_dr (Below.refl _ _) _⟩
  · rw [show milV m = (mil m (pos m), true) by unfold milV; rw [if_neg h0, if_neg h1]]
    exact milli_mid m (pos m) w hT (pos_at (by omega) (by omega))
set_option maxRecDepth 100000 in
set_option maxHeartbeats 8000000 in
theorem refMilli_any (m : Int) (w : World) : Calls Tryd.prog 13 #[.int .i64 m] w (fun e w' => e = .returned (.tuple #[.int .i32 (milV m).1, .bool (milV m).2]) ∧ w' = w) := by
  have E0 := fun V => refEntry_any 0 V (by omega) (by omega)
  have E15 := fun V => refEntry_any 15 V (by omega) (by omega)
  rw [show ent 0 = 625000 from rfl] at E0
  rw [show ent 15 = 16937500 from rfl] at E15
  by_cases h0 : m < 625000
  · rw [show milV m = (-40000, false) by unfold milV; rw [if_pos h0]]
    go_enter Tryd.func13, Tryd.ntmps13
    go_wp2_with fail
    refine (E0 _).mono ?_
    rintro e w1 ⟨rfl, hw⟩
    rw [hw]
    clear hw w1
    go_wp2_with fail
    go_ret2
    exact ⟨rfl, rfl⟩
  by_cases h1 : 16937500 ≤ m
  · by_cases h2 : m = 16937500
    · subst h2
      rw [show milV 16937500 = (110000, true) by rfl]
      have HE := Lib.hid (fun (k : Int) V (h0 : 0 ≤ k) (h1 : k < 16) => refEntry_any k V h0 h1)
      go_enter Tryd.func13, Tryd.ntmps13
      go_wp2_with fail
      refine (E0 _).mono ?_
      rintro e w1 ⟨rfl, hw⟩
      rw [hw]
      clear hw w1
      go_wp2_with fail
      refine (E15 _).mono ?_
      rintro e w1 ⟨rfl, hw⟩
      rw [hw]
      clear hw w1
      go_wp2_with fail
      go_loopw [4] (fun v4 wr => ∃ k : Int, 0 ≤ k ∧ k ≤ 15 ∧ v4 = .int .i64 k ∧ wr = w) (fun v4 _ => 15 - (RowKit.intOf v4).toNat)
      case atStart => exact ⟨0, by omega, by omega, rfl, rfl⟩
      case round =>
        obtain ⟨k, hk0, hk, rfl, rfl⟩ := hrel
        by_cases hlt : k < 15
        · have hc : ent (k + 1) ≤ 16937500 := by have := ent_bd (k + 1) (by omega) (by omega); omega
          have HK := Lib.hid (HE.out (k + 1) wr (by omega) (by omega))
          generalize ent (k + 1) = ek at HK hc
          go_wp2_with fail
          refine HK.out.mono ?_
          rintro e w1 ⟨rfl, hw⟩
          rw [hw]
          clear hw w1
          go_wp2_with fail
          go_roundw
          case rel => exact ⟨k + 1, by omega, by omega, by go_num, by first | rfl | trivial⟩
          case measure => simp [RowKit.intOf]; omega
        · obtain rfl : k = 15 := by omega
          go_wp2_with fail
          go_ret2
          exact ⟨rfl, by first | rfl | trivial⟩
    · have h3 : 16937500 < m := by omega
      rw [show milV m = (110000, false) by unfold milV; rw [if_neg h0, if_pos h1, decide_eq_false h2]]
      go_enter Tryd.func13, Tryd.ntmps13
      go_wp2_with fail
      refine (E0 _).mono ?_
      rintro e w1 ⟨rfl, hw⟩
      rw [hw]
      clear hw w1
      go_wp2_with fail
      refine (E15 _).mono ?_
      rintro e w1 ⟨rfl, hw⟩
      rw [hw]
      clear hw w1
      go_wp2_with fail
      go_ret2
      exact ⟨rfl, rfl⟩
  · rw [show milV m = (mil m (pos m), true) by unfold milV; rw [if_neg h0, if_neg h1]]
    exact refMilli_mid m (pos m) w (pos_at (by omega) (by omega))
theorem milV_bd (m : Int) : -40000 ≤ (milV m).1 ∧ (milV m).1 ≤ 110000 := by
  unfold milV
  split
  · simp
  · split
    · simp
    · have hp := pos_at (m := m) (by omega) (by omega)
      have := mil_bd hp
      have h1 := hp.lo
      have h2 := hp.hi
      show -40000 ≤ mil m (pos m) ∧ mil m (pos m) ≤ 110000
      unfold mil
      omega
set_option maxRecDepth 100000 in
set_option maxHeartbeats 8000000 in
theorem degrees_any (m : Int) (w : World) (hT : Tb w) : Calls Tryd.prog 15 #[.int .i64 m] w (fun e w' => e = .returned (.tuple #[.int .i8 (((milV m).1 + 500) / 1000), .bool (milV m).2]) ∧ Below w.heap.size w w') := by
  have hb := milV_bd m
  have HM := Lib.hid (milli_any m w hT)
  clear hT
  generalize (milV m).1 = n at hb HM ⊢
  generalize (milV m).2 = b at HM ⊢
  go_enter Tryd.func15, Tryd.ntmps15
  go_wp2_with fail
  refine HM.out.mono ?_
  rintro e w1 ⟨rfl, hb1⟩
  have HB := Lib.hid hb1
  clear hb1
  go_wp2_with fail
  refine (floor_any (n + 500) 1000 w1 (by omega) (by omega) (by omega)).mono ?_
  rintro e w2 ⟨rfl, hw⟩
  rw [hw]
  clear hw w2
  go_wp2_with fail
  go_ret2
  exact ⟨rfl, HB.out⟩
set_option maxRecDepth 100000 in
set_option maxHeartbeats 8000000 in
theorem refDegrees_any (m : Int) (w : World) : Calls Tryd.prog 14 #[.int .i64 m] w (fun e w' => e = .returned (.tuple #[.int .i8 (((milV m).1 + 500) / 1000), .bool (milV m).2]) ∧ w' = w) := by
  have hb := milV_bd m
  have HM := Lib.hid (refMilli_any m w)
  generalize (milV m).1 = n at hb HM ⊢
  generalize (milV m).2 = b at HM ⊢
  go_enter Tryd.func14, Tryd.ntmps14
  go_wp2_with fail
  refine HM.out.mono ?_
  rintro e w1 ⟨rfl, hw⟩
  rw [hw]
  clear hw w1
  go_wp2_with fail
  refine (below_any (n + 500) 1000 w (by omega) (by omega) (by omega)).mono ?_
  rintro e w2 ⟨rfl, hw⟩
  rw [hw]
  clear hw w2
  go_wp2_with fail
  go_ret2
  exact ⟨rfl, rfl⟩
theorem kq_run (n : Int) (t : TypeId) (w : World) : (binOp .quo t (.float .f64 (floatOfInt FloatKind.f64 n)) (.float .f64 4652007308841189376)).run Tryd.prog w = .ok (.float .f64 (kelQ n)) w := run_float_arith _ _ _ _ _ _ _ (kelQ_eq n).1
theorem kz_run (n : Int) (t : TypeId) (w : World) : (binOp .add t (.float .f64 (kelQ n)) (.float .f64 4643512921809643110)).run Tryd.prog w = .ok (.float .f64 (kelN n)) w := run_float_arith _ _ _ _ _ _ _ (kelN_eq n)
set_option maxRecDepth 100000 in
set_option maxHeartbeats 8000000 in
theorem kelvin_any (m : Int) (w : World) (hT : Tb w) : Calls Tryd.prog 19 #[.int .i64 m] w (fun e w' => e = .returned (.float .f64 (kelN (milV m).1)) ∧ Below w.heap.size w w') := by
  have HM := Lib.hid (milli_any m w hT)
  clear hT
  generalize (milV m).1 = n at HM ⊢
  generalize (milV m).2 = b at HM
  have h1 := kq_run n 39
  have h2 := kz_run n 39
  go_enter Tryd.func19, Tryd.ntmps19
  go_wp2_with fail
  refine HM.out.mono ?_
  rintro e w1 ⟨rfl, hb1⟩
  have HB := Lib.hid hb1
  clear hb1
  replace h1 := h1 w1
  replace h2 := h2 w1
  go_wp2_with fail
  go_ret
  exact ⟨rfl, HB.out⟩
set_option maxRecDepth 100000 in
set_option maxHeartbeats 8000000 in
theorem refKelvin_any (m : Int) (w : World) : Calls Tryd.prog 20 #[.int .i64 m] w (fun e w' => e = .returned (.float .f64 (kelN (milV m).1)) ∧ w' = w) := by
  have HM := Lib.hid (refMilli_any m w)
  generalize (milV m).1 = n at HM ⊢
  generalize (milV m).2 = b at HM
  have h1 := kq_run n 39 w
  have h2 := kz_run n 39 w
  go_enter Tryd.func20, Tryd.ntmps20
  go_wp2_with fail
  refine HM.out.mono ?_
  rintro e w1 ⟨rfl, hw⟩
  rw [hw]
  clear hw w1
  go_wp2_with fail
  go_ret
  exact ⟨rfl, rfl⟩
set_option maxRecDepth 100000 in
set_option maxHeartbeats 8000000 in
theorem raw_any (m : Int) (w : World) (h0 : -9223372036854775808 ≤ m) (h1 : m ≤ 9223372036854775807) : Calls Tryd.prog 17 #[.int .i64 m] w (fun e w' => e = .returned (.tuple #[.int .i16 (IntKind.i16.wrap (m / 1000)), .int .i16 (min (max (m / 1000) (-32768)) 32767)]) ∧ w' = w) := by
  have hq : -9223372036854776 ≤ m / 1000 ∧ m / 1000 ≤ 9223372036854776 := by omega
  have HF := Lib.hid (floor_any m 1000 w (by omega) h0 h1)
  generalize m / 1000 = n at hq HF ⊢
  clear h0 h1
  go_enter Tryd.func17, Tryd.ntmps17
  go_wp2_with fail
  refine HF.out.mono ?_
  rintro e w2 ⟨rfl, hw⟩
  rw [hw]
  clear hw w2
  go_wp2_with fail
  all_goals
    go_ret2
    refine ⟨tup_hh rfl ?_, rfl⟩
    omega
set_option maxRecDepth 100000 in
set_option maxHeartbeats 8000000 in
theorem refRaw_any (m : Int) (w : World) (h0 : -9223372036854775808 ≤ m) (h1 : m ≤ 9223372036854775807) : Calls Tryd.prog 16 #[.int .i64 m] w (fun e w' => e = .returned (.tuple #[.int .i16 (IntKind.i16.wrap (m / 1000)), .int .i16 (min (max (m / 1000) (-32768)) 32767)]) ∧ w' = w) := by
  have hq : -9223372036854776 ≤ m / 1000 ∧ m / 1000 ≤ 9223372036854776 := by omega
  have HG := Lib.hid (below_any m 1000 w (by omega) h0 h1)
  generalize m / 1000 = n at hq HG ⊢
  clear h0 h1
  have HF := Lib.hid (below_any n 65536 w (by omega) (by omega) (by omega))
  have hd := Int.mul_ediv_add_emod n 65536
  have hd1 := Int.emod_nonneg n (b := 65536) (by omega)
  have hd2 := Int.emod_lt_of_pos n (b := 65536) (by omega)
  rw [show IntKind.i16.wrap n = (if 32768 ≤ n - 65536 * (n / 65536) then n - 65536 * (n / 65536) - 65536 else n - 65536 * (n / 65536)) by rw [wrap_i16]; split <;> omega]
  generalize n / 65536 = q at hd HF ⊢
  go_enter Tryd.func16, Tryd.ntmps16
  go_wp2_with fail
  refine HG.out.mono ?_
  rintro e w2 ⟨rfl, hw⟩
  rw [hw]
  clear hw w2
  go_wp2_with fail
  refine HF.out.mono ?_
  rintro e w2 ⟨rfl, hw⟩
  rw [hw]
  clear hw w2
  go_wp2_with fail
  all_goals
    go_ret2
    refine ⟨tup_hh ?_ ?_, rfl⟩
    · first | rfl | omega | (split <;> omega)
    · omega
end Go.Proofs.YtkloihfnngbceaaDoor.Se
