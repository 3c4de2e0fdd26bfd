/- The walk of the law on numbers. -/
import Derived.Test.YtnnldhgjmlohmaaDoorNu6
namespace Go.Proofs.YtnnldhgjmlohmaaDoor.Nums
open Go.ChangeShapes Go.WideShapes Go.ChangeAt Go.RowKit

theorem num_both (s : ByteArray) (hz : s.size ≤ 281474976710656) : ∃ a b : Int,
    (∀ w, Vars w → Calls Tryd.prog 23 #[.string s] w fun e w' => e = .returned (.tuple #[.int .i64 a, .int .i64 b]) ∧ Below w.heap.size w w') ∧
    (∀ w, Vars w → Calls Tryd.prog 24 #[.string s] w fun e w' => e = .returned (.tuple #[.int .i64 a, .int .i64 b]) ∧ Below w.heap.size w w') := by
  by_cases h : ∃ n : Int, -9223372036854775808 ≤ n ∧ n ≤ 9223372036854775807 ∧ decS n = s
  · obtain ⟨n, h0, h1, rfl⟩ := h
    exact ⟨n, 0, fun w hv => number_yes n h0 h1 hz w hv, fun w hv => refNumber_yes n h0 h1 hz w hv⟩
  · have hno : ∀ n : Int, -9223372036854775808 ≤ n → n ≤ 9223372036854775807 → decS n ≠ s := fun n h0 h1 e => h ⟨n, h0, h1, e⟩
    exact ⟨0, 11, fun w hv => number_no s hz hno w hv, fun w hv => refNumber_no s hz hno w hv⟩
theorem hex_both (s : ByteArray) (hz : s.size ≤ 281474976710656) : ∃ (a : Nat) (b : Int),
    (∀ w, Vars w → Calls Tryd.prog 25 #[.string s] w fun e w' => e = .returned (.tuple #[.int .u64 a, .int .i64 b]) ∧ Below w.heap.size w w') ∧
    (∀ w, Vars w → Calls Tryd.prog 26 #[.string s] w fun e w' => e = .returned (.tuple #[.int .u64 a, .int .i64 b]) ∧ Below w.heap.size w w') := by
  by_cases h : ∃ n : Nat, n < 18446744073709551616 ∧ hexS n = s
  · obtain ⟨n, h0, rfl⟩ := h
    exact ⟨n, 0, fun w hv => hex_yes n h0 w hv, fun w hv => refHex_yes n h0 w hv⟩
  · have hno : ∀ n : Nat, n < 18446744073709551616 → hexS n ≠ s := fun n h0 e => h ⟨n, h0, e⟩
    exact ⟨0, 11, fun w hv => hex_no s hz hno w hv, fun w hv => refHex_no s hz hno w hv⟩

set_option maxHeartbeats 800000 in
theorem walk (s : ByteArray) (hz : s.size ≤ 281474976710656) (u : Nat) (hu : u < 18446744073709551616) (w : World) (hv : Vars w) :
    Calls Tryd.prog 6 #[.string s, .int .u64 u] w fun e w' => e = .returned (.bool true) ∧ Below w.heap.size w w' := by
  obtain ⟨a, b, c1, c2⟩ := num_both s hz
  obtain ⟨p, q, c3, c4⟩ := hex_both s hz
  have C1 := Lib.hid c1
  have C2 := Lib.hid c2
  have C3 := Lib.hid c3
  have C4 := Lib.hid c4
  have HV := Lib.hid hv
  clear c1 c2 c3 c4 hv
  go_enter Tryd.func6, Tryd.ntmps6
  go_wp2_with fail
  refine (C1.out _ HV.out).mono ?_
  rintro e w1 ⟨rfl, hb1⟩
  have B1 := Lib.hid hb1
  have V1 := Lib.hid (HV.out.below hb1)
  clear hb1
  go_wp2_with fail
  refine (C2.out _ V1.out).mono ?_
  rintro e w2 ⟨rfl, hb2⟩
  have B2 := Lib.hid (B1.out.trans (hb2.mono B1.out.size))
  have V2 := Lib.hid (V1.out.below hb2)
  clear hb2
  go_wp2_with fail
  refine (C3.out _ V2.out).mono ?_
  rintro e w3 ⟨rfl, hb3⟩
  have B3 := Lib.hid (B2.out.trans (hb3.mono B2.out.size))
  have V3 := Lib.hid (V2.out.below hb3)
  clear hb3
  go_wp2_with fail
  refine (C4.out _ V3.out).mono ?_
  rintro e w4 ⟨rfl, hb4⟩
  have B4 := Lib.hid (B3.out.trans (hb4.mono B3.out.size))
  have V4 := Lib.hid (V3.out.below hb4)
  clear hb4
  go_wp2_with fail
  refine (digits_any u hu _ V4.out).mono ?_
  rintro e w5 ⟨rfl, hb5⟩
  have B5 := Lib.hid (B4.out.trans (hb5.mono B4.out.size))
  have V5 := Lib.hid (V4.out.below hb5)
  clear hb5
  go_wp2_with fail
  refine (refDigits_any u hu _ V5.out).mono ?_
  generalize hexS u = x
  rintro e w6 ⟨rfl, hb6⟩
  have B6 := Lib.hid (B5.out.trans (hb6.mono B5.out.size))
  clear hb6
  go_wp2_with fail
  go_ret
  exact ⟨rfl, B6.out⟩
end Go.Proofs.YtnnldhgjmlohmaaDoor.Nums
