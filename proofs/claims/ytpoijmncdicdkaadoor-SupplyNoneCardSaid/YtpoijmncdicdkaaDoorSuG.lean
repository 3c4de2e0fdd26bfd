/- The law SupplyNone. -/
import Derived.Test.YtpoijmncdicdkaaDoorSuF
import Derived.Test.YtpoijmncdicdkaaDoorSuC
namespace Go.Proofs.YtpoijmncdicdkaaDoor.Su
open Go.ChangeShapes Go.WideShapes Go.ChangeAt Go.RowKit Own Ro

theorem eq_win (w : World) : (binOp .eql 34 (.agg #[.int .i64 0, .int .i64 1099511627776]) (.agg #[.int .i64 0, .int .i64 1099511627776])).run Tryd.prog w = .ok (.bool true) w := by kernel_rfl
theorem okP_f {i : Int} (h : ¬ (0 ≤ i ∧ i < 24)) : okP i = false := decide_eq_false h
set_option maxRecDepth 100000 in
set_option maxHeartbeats 8000000 in
theorem none_any (w : World) (h : Tb w) : Calls Tryd.prog 9 #[] w (fun e w' => e = .returned (.bool true) ∧ Below w.heap.size w w') := by
  have R0 := micro_bad 24 w (by omega)
  have R1 := volts_bad (-1) w (by omega)
  have R2 := way_bad 0 24 w (by decide)
  have R3 := first_any (-1) 5 w h
  have R4 := Lib.hid (fun V (hV : Tb V) => first_any 0 1099511627777 V hV)
  have R5 := Lib.hid (fun V (hV : Tb V) => first_any 0 1099511627776 V hV)
  have R6 := Lib.hid (fun V => meet_any none 0 0 [] V rfl (by decide) ⟨rfl, .inl rfl⟩)
  have R7 := Lib.hid (fun V => code_any 409593750 V (by decide) (by decide))
  have R8 := Lib.hid (fun V => code_any 409593751 V (by decide) (by decide))
  have R9 := Lib.hid (fun V => code_any (-9223372036854775808) V (by decide) (by decide))
  rw [show fst (-1) 5 = (0, 1) by decide] at R3
  rw [show fst 0 1099511627777 = (0, 1) by decide] at R4
  rw [show fst 0 1099511627776 = (0, 0) by decide] at R5
  rw [show mt [] = (0, 1099511627776, 0) from mt_some (fun i hi => absurd hi (by simp)) (by decide)] at R6
  rw [show codeV 409593750 = .tuple #[.int .i16 32767, .bool true] by rfl] at R7
  rw [show codeV 409593751 = .tuple #[.int .i16 32767, .bool false] by rfl] at R8
  rw [show codeV (-9223372036854775808) = .tuple #[.int .i16 (-32768), .bool false] by rfl] at R9
  unfold winV at R3 R4 R5 R6
  have HT := Lib.hid h
  clear h
  go_enter Tryd.func9, Tryd.ntmps9
  go_wp2_with fail
  refine R0.mono ?_
  rintro e w1 ⟨rfl, rfl⟩
  go_wp2_with fail
  refine R1.mono ?_
  rintro e w1 ⟨rfl, rfl⟩
  go_wp2_with fail
  refine R2.mono ?_
  rintro e w1 ⟨rfl, rfl⟩
  go_wp2_with fail
  refine R3.mono ?_
  rintro e w2 ⟨rfl, b2⟩
  have HB2 := Lib.hid b2
  have HT2 := Lib.hid (Tb.below HT.out b2)
  clear b2
  go_wp2_with fail
  refine (R4.out _ HT2.out).mono ?_
  rintro e w3 ⟨rfl, b3⟩
  have HB3 := Lib.hid (bt HB2.out b3)
  have HT3 := Lib.hid (Tb.below HT2.out b3)
  clear b3
  go_wp2_with fail
  refine (R5.out _ HT3.out).mono ?_
  rintro e w4 ⟨rfl, b4⟩
  have HB4 := Lib.hid (bt HB3.out b4)
  have HT4 := Lib.hid (Tb.below HT3.out b4)
  clear b4
  go_wp2_with fail
  refine (R6.out _).mono ?_
  rintro e w5 ⟨rfl, b5⟩
  have HB5 := Lib.hid (bt HB4.out b5)
  have HT5 := Lib.hid (Tb.below HT4.out b5)
  clear b5
  go_wp2_with fail
  have HB6 := Lib.hid (bt HB5.out (grows' w5 (.cells #[.int .i64 0, .int .i64 1099511627776] 34)))
  have HT6 := Lib.hid (Tb.alloc HT5.out (.cells #[.int .i64 0, .int .i64 1099511627776] 34))
  obtain ⟨c0, c1⟩ := cells2_new w5 (.int .i64 0) (.int .i64 1099511627776) 34
  generalize w5.alloc (.cells #[.int .i64 0, .int .i64 1099511627776] 34) = W6 at HB6 HT6 c0 c1 ⊢
  generalize w5.heap.size = g at c0 c1 ⊢
  refine (R7.out _).mono ?_
  rintro e w6 ⟨rfl, rfl⟩
  go_wp2_with fail
  refine (R8.out _).mono ?_
  rintro e w7 ⟨rfl, rfl⟩
  go_wp2_with fail
  refine (R9.out _).mono ?_
  rintro e w8 ⟨rfl, rfl⟩
  have HEQ := eq_win w8
  have HAW := Lib.hid (awake_any w8 HT6.out)
  go_wp2_with fail
  refine HAW.out.mono ?_
  rintro e w9 ⟨rfl, rfl⟩
  go_wp2_with fail
  go_ret
  exact ⟨rfl, HB6.out⟩
end Go.Proofs.YtpoijmncdicdkaaDoor.Su
