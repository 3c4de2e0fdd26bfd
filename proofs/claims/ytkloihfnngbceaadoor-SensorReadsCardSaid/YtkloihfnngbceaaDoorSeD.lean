/- The law SensorReads. -/
import Derived.Test.YtkloihfnngbceaaDoorSeC
namespace Go.Proofs.YtkloihfnngbceaaDoor.Se
open Go.ChangeShapes Go.WideShapes Go.ChangeAt Go.RowKit Own Ro

theorem run_bits (n : Nat) (w : World) : (callFunc 18 #[.float .f64 n]).run Tryd.prog w = .ok (.value (.int .u64 n)) w :=
  run_callFunc_extern (e := Extern.MathFloatBits.float64bits) Tryd.func18 (by kernel_rfl) (by kernel_rfl) (by kernel_rfl) (by kernel_rfl) _ w
set_option maxRecDepth 100000 in
set_option maxHeartbeats 8000000 in
theorem reads_any (m i : Int) (w : World) (hT : Tb w) (h0 : -9223372036854775808 ≤ m) (h1 : m ≤ 9223372036854775807) : Calls Tryd.prog 4 #[.int .i64 m, .int .i64 i] w (fun e w' => e = .returned (.bool true) ∧ Below w.heap.size w w') := by
  have HT := Lib.hid hT
  have H1 := Lib.hid (refMilli_any m w)
  have H2 := Lib.hid (milli_any m w hT)
  have H3 := Lib.hid (fun V => refDegrees_any m V)
  have H4 := Lib.hid (fun V (hV : Tb V) => degrees_any m V hV)
  have H5 := Lib.hid (fun V => refRaw_any m V h0 h1)
  have H6 := Lib.hid (fun V => raw_any m V h0 h1)
  have H7 := Lib.hid (fun V (hV : Tb V) => micro_any i V hV)
  have H8 := Lib.hid (fun V (hV : Tb V) => kelvin_any m V hV)
  have H9 := Lib.hid (fun V => refKelvin_any m V)
  have HE := Lib.hid (fun V (a : 0 ≤ i) (b : i < 16) => refEntry_any i V a b)
  have HV := Lib.hid (show (0 ≤ i ∧ i < 16 → micV i = (ent i, 0)) ∧ (¬ (0 ≤ i ∧ i < 16) → micV i = (0, 1)) from ⟨fun h => by unfold micV; rw [if_pos h], fun h => by unfold micV; rw [if_neg h]⟩)
  clear hT h0 h1
  generalize ((milV m).1 + 500) / 1000 = d at H3 H4
  generalize kelN (milV m).1 = z at H8 H9
  generalize (milV m).1 = n at H1 H2
  generalize (milV m).2 = b at H1 H2 H3 H4
  generalize IntKind.i16.wrap (m / 1000) = r1 at H5 H6
  generalize min (max (m / 1000) (-32768)) 32767 = r2 at H5 H6
  generalize ent i = en at HE HV
  generalize hv : micV i = v at H7 HV
  obtain ⟨v1, v2⟩ := v
  clear hv
  go_enter Tryd.func4, Tryd.ntmps4
  go_wp2_with fail
  refine H1.out.mono ?_
  rintro e w1 ⟨rfl, hw⟩
  rw [hw]
  clear hw w1
  go_wp2_with fail
  refine H2.out.mono ?_
  rintro e w2 ⟨rfl, hb⟩
  have HB2 := Lib.hid hb
  have HT2 := Lib.hid (HT.out.below hb)
  clear hb
  go_wp2_with fail
  refine (H3.out w2).mono ?_
  rintro e w3 ⟨rfl, hw⟩
  rw [hw]
  clear hw w3
  go_wp2_with fail
  refine (H4.out w2 HT2.out).mono ?_
  rintro e w4 ⟨rfl, hb⟩
  have HB4 := Lib.hid (bt HB2.out hb)
  have HT4 := Lib.hid (HT2.out.below hb)
  clear hb
  go_wp2_with fail
  refine (H5.out w4).mono ?_
  rintro e w5 ⟨rfl, hw⟩
  rw [hw]
  clear hw w5
  go_wp2_with fail
  refine (H6.out w4).mono ?_
  rintro e w6 ⟨rfl, hw⟩
  rw [hw]
  clear hw w6
  go_wp2_with fail
  refine (H7.out w4 HT4.out).mono ?_
  rintro e w7 ⟨rfl, hw⟩
  rw [hw]
  clear hw w7
  by_cases hi : 0 ≤ i ∧ i < 16
  · have e1 := (HV.out.1 hi)
    injection e1 with e1 e2
    subst e1 e2
    obtain ⟨i1, i2⟩ := hi
    go_wp2_with fail
    refine (HE.out w4 i1 i2).mono ?_
    rintro e w7 ⟨rfl, hw⟩
    rw [hw]
    clear hw w7
    go_wp2_with fail
    refine (H8.out w4 HT4.out).mono ?_
    rintro e w8 ⟨rfl, hb⟩
    have HB8 := Lib.hid (bt HB4.out hb)
    clear hb
    have HR := run_bits z w8
    go_wp2_with fail
    refine (H9.out w8).mono ?_
    rintro e w9 ⟨rfl, hw⟩
    rw [hw]
    clear hw w9
    go_wp2_with fail
    go_ret
    exact ⟨rfl, HB8.out⟩
  · have e1 := (HV.out.2 hi)
    injection e1 with e1 e2
    subst e1 e2
    by_cases i1 : i < 0
    · go_wp2_with fail
      refine (H8.out w4 HT4.out).mono ?_
      rintro e w8 ⟨rfl, hb⟩
      have HB8 := Lib.hid (bt HB4.out hb)
      clear hb
      have HR := run_bits z w8
      go_wp2_with fail
      refine (H9.out w8).mono ?_
      rintro e w9 ⟨rfl, hw⟩
      rw [hw]
      clear hw w9
      go_wp2_with fail
      go_ret
      exact ⟨rfl, HB8.out⟩
    · have i2 : 16 ≤ i := by omega
      go_wp2_with fail
      refine (H8.out w4 HT4.out).mono ?_
      rintro e w8 ⟨rfl, hb⟩
      have HB8 := Lib.hid (bt HB4.out hb)
      clear hb
      have HR := run_bits z w8
      go_wp2_with fail
      refine (H9.out w8).mono ?_
      rintro e w9 ⟨rfl, hw⟩
      rw [hw]
      clear hw w9
      go_wp2_with fail
      go_ret
      exact ⟨rfl, HB8.out⟩
end Go.Proofs.YtkloihfnngbceaaDoor.Se
