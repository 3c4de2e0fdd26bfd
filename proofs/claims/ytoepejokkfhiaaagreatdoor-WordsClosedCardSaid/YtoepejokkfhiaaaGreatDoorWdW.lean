/- The walk of the law on words' closed facts. -/
import Derived.Test.YtoepejokkfhiaaaGreatDoorWdV
import Derived.Test.YtoepejokkfhiaaaGreatDoorSm2
namespace Go.Proofs.YtoepejokkfhiaaaGreatDoor.Wd
open Go.ChangeShapes Go.WideShapes Go.ChangeAt Go.RowKit Own Bld Go.Lib Nums

theorem cStep1 (w : World) : Calls Tryz.prog 7 #[.int .i16 32767, .int .i16 1] w fun e w' => e = .returned (.tuple #[.int .i16 32767, .bool false]) ∧ w = w' :=
  wordsSmalls.step_any 32767 1 w (by omega) (by omega) (by omega) (by omega)
theorem cStep2 (w : World) : Calls Tryz.prog 7 #[.int .i16 (-32768), .int .i16 (-32768)] w fun e w' => e = .returned (.tuple #[.int .i16 (-32768), .bool false]) ∧ w = w' :=
  wordsSmalls.step_any (-32768) (-32768) w (by omega) (by omega) (by omega) (by omega)
theorem cMean (w : World) : Calls Tryz.prog 8 #[.slice (some ⟨w.heap.size, 0, none⟩) 2 2] (w.alloc (.cells #[.int .i8 (-1), .int .i8 0] 25))
    fun e w' => e = .returned (.tuple #[.int .i8 (-1), .int .i64 0]) ∧ w.alloc (.cells #[.int .i8 (-1), .int .i8 0] 25) = w' := by
  refine wordsSmalls.mean_row w.heap.size 0 2 [-1, 0] _ (by decide) (by decide) (fun i hi => ?_) (fun i hi => ?_)
  · match i, hi with
    | 0, _ => exact ⟨by decide, by decide⟩
    | 1, _ => exact ⟨by decide, by decide⟩
  · have h := World.rowIs_alloc w #[.int .i8 (-1), .int .i8 0] 25 (fun i => .int .i8 (([-1, 0] : List Int).getD i 0)) (fun i hi => by
      match i, hi with
      | 0, _ => rfl
      | 1, _ => rfl)
    rw [Nat.zero_add]
    exact h.cell hi
theorem cWrap8 (w : World) : Calls Tryz.prog 10 #[.int .i64 300] w fun e w' => e = .returned (.int .i8 44) ∧ w = w' := by
  have h := wordsSmalls.wrap8_any 300 w
  rw [wordsSmalls.wrap_i8] at h
  exact h
theorem cSat8 (w : World) : Calls Tryz.prog 11 #[.int .i64 300] w fun e w' => e = .returned (.int .i8 127) ∧ w = w' := wordsSmalls.sat8_any 300 w (by omega) (by omega)
theorem cWrap16 (w : World) : Calls Tryz.prog 12 #[.int .i64 (-32769)] w fun e w' => e = .returned (.int .i16 32767) ∧ w = w' := by
  have h := wordsSmalls.wrap16_any (-32769) w
  rw [wordsSmalls.wrap_i16] at h
  exact h
theorem cSat16 (w : World) : Calls Tryz.prog 13 #[.int .i64 (-32769)] w fun e w' => e = .returned (.int .i16 (-32768)) ∧ w = w' := wordsSmalls.sat16_any (-32769) w (by omega) (by omega)

set_option maxRecDepth 100000 in
set_option maxHeartbeats 4000000 in
theorem walkClosed (w : World) (he : En w) (hv : Vars w) :
    Calls Tryz.prog 3 #[] w fun e w' => e = .returned (.bool true) ∧ Below w.heap.size w w' := by
  have HE := Lib.hid he
  have HV := Lib.hid hv
  clear he hv
  go_enter Tryz.func3, Tryz.ntmps3
  go_wp2_with fail
  refine (cStep1 _).mono ?_
  rintro e w1 ⟨rfl, rfl⟩
  go_wp2_with fail
  refine (cStep2 _).mono ?_
  rintro e w1 ⟨rfl, rfl⟩
  go_wp2_with fail
  refine (wordsSmalls.mean_none none 0 _).mono ?_
  rintro e w1 ⟨rfl, rfl⟩
  go_wp2_with fail
  refine (cMean _).mono ?_
  rintro e w1 ⟨rfl, rfl⟩
  have B1 := Lib.hid (grows w (.cells #[.int .i8 (-1), .int .i8 0] 25))
  go_wp2_with fail
  refine (works_any _ (HE.out.below B1.out) (HV.out.below B1.out)).mono ?_
  rintro e w2 ⟨rfl, b2⟩
  have B2 := Lib.hid (B1.out.trans (b2.mono B1.out.size))
  clear b2 B1
  go_wp2_with fail
  refine (cWrap8 _).mono ?_
  rintro e w3 ⟨rfl, rfl⟩
  go_wp2_with fail
  refine (cSat8 _).mono ?_
  rintro e w3 ⟨rfl, rfl⟩
  go_wp2_with fail
  refine (cWrap16 _).mono ?_
  rintro e w3 ⟨rfl, rfl⟩
  go_wp2_with fail
  refine (cSat16 _).mono ?_
  rintro e w3 ⟨rfl, rfl⟩
  go_wp2_with fail
  go_ret
  exact ⟨rfl, B2.out⟩
end Go.Proofs.YtoepejokkfhiaaaGreatDoor.Wd
