/- Code (P9.4): the program's and the document's. -/
import Derived.Test.YtpoijmncdicdkaaDoorSuA
namespace Go.Proofs.YtpoijmncdicdkaaDoor.Su
open Go.ChangeShapes Go.WideShapes Go.ChangeAt Go.RowKit Own Ro

theorem tup_ib {a b : Int} {p q : Bool} (h1 : a = b) (h2 : p = q) : Ending.returned (.tuple #[.int .i16 a, .bool p]) = Ending.returned (.tuple #[.int .i16 b, .bool q]) := by rw [h1, h2]
/-- The nearest number of steps, of two as near the lesser. -/
def nst (m : Int) : Int := if 6250 < m.tmod 12500 then m.tdiv 12500 + 1 else if m.tmod 12500 ≤ -6250 then m.tdiv 12500 - 1 else m.tdiv 12500
/-- It, where there is room for it, or the end. -/
def cl (n : Int) : Int := if 32767 < n then 32767 else if n < -32768 then -32768 else n
def codeV (m : Int) : Value := .tuple #[.int .i16 (cl (nst m)), .bool (decide (cl (nst m) = nst m))]
structure Dv (m q r : Int) : Prop where
  sum : m = 12500 * q + r
  lo : -12500 < r
  hi : r < 12500
  pos : 0 ≤ m → 0 ≤ r
  neg : m < 0 → r ≤ 0
theorem dv_of (m : Int) : Dv m (m.tdiv 12500) (m.tmod 12500) := by
  refine ⟨(Int.mul_tdiv_add_tmod m 12500).symm, ?_, ?_, fun h => Int.tmod_nonneg _ h, fun h => ?_⟩
  · by_cases h : 0 ≤ m
    · have := Int.tmod_nonneg 12500 h; omega
    · have h2 := Int.tmod_lt_of_pos (-m) (b := 12500) (by omega)
      rw [Int.neg_tmod] at h2; omega
  · exact Int.tmod_lt_of_pos _ (by omega)
  · have h2 := Int.tmod_nonneg (a := -m) 12500 (by omega)
    rw [Int.neg_tmod] at h2; omega
set_option maxRecDepth 100000 in
set_option maxHeartbeats 8000000 in
theorem code_any (m : Int) (w : World) (h0 : -9223372036854775808 ≤ m) (h1 : m ≤ 9223372036854775807) : Calls Tryd.prog 19 #[.int .i64 m] w (fun e w' => e = .returned (codeV m) ∧ w' = w) := by
  obtain ⟨s1, s2, s3, s4, s5⟩ := dv_of m
  have b1 : m.tdiv 12500 ≤ 737869762948382 := by omega
  have b2 : -737869762948383 ≤ m.tdiv 12500 := by omega
  have HN := Lib.hid (show nst m = if 6250 < m.tmod 12500 then m.tdiv 12500 + 1 else if m.tmod 12500 ≤ -6250 then m.tdiv 12500 - 1 else m.tdiv 12500 from rfl)
  clear s1 s4 s5
  unfold codeV
  go_enter Tryd.func19, Tryd.ntmps19
  go_wp2_with fail
  all_goals
    go_ret2
    have hn := HN.out
    generalize nst m = n at hn ⊢
    generalize m.tdiv 12500 = q at *
    generalize m.tmod 12500 = r at *
    refine ⟨tup_ib ?_ ?_, rfl⟩
    · simp only [cl]
      (repeat' split at hn) <;> (repeat' split) <;> (first | omega | (simp; done) | (simp only [decide_eq_true_eq]; omega))
    · rw [Bool.eq_iff_iff]
      simp only [beq_iff_eq, true_iff, cl]
      (repeat' split at hn) <;> (repeat' split) <;> (first | omega | (simp; done) | (simp only [decide_eq_true_eq]; omega))
set_option maxRecDepth 100000 in
set_option maxHeartbeats 8000000 in
theorem refCode_any (m : Int) (w : World) (h0 : -9223372036854775808 ≤ m) (h1 : m ≤ 9223372036854775807) : Calls Tryd.prog 20 #[.int .i64 m] w (fun e w' => e = .returned (codeV m) ∧ w' = w) := by
  obtain ⟨s1, s2, s3, s4, s5⟩ := dv_of m
  have b1 : m.tdiv 12500 ≤ 737869762948382 := by omega
  have b2 : -737869762948383 ≤ m.tdiv 12500 := by omega
  have HN := Lib.hid (show nst m = if 6250 < m.tmod 12500 then m.tdiv 12500 + 1 else if m.tmod 12500 ≤ -6250 then m.tdiv 12500 - 1 else m.tdiv 12500 from rfl)
  have W1 := Lib.hid (show wrap64 (m.tdiv 12500 * 12500) = m.tdiv 12500 * 12500 by unfold wrap64; omega)
  have W2 := Lib.hid (show wrap64 (m - wrap64 ((m.tdiv 12500 - 1) * 12500)) = m - (m.tdiv 12500 - 1) * 12500 by unfold wrap64; omega)
  have W3 := Lib.hid (show wrap64 (m - m.tdiv 12500 * 12500) = m - m.tdiv 12500 * 12500 by unfold wrap64; omega)
  have HS := Lib.hid s1
  have HP := Lib.hid s4
  have HG := Lib.hid s5
  clear s1 s4 s5
  unfold codeV
  go_enter Tryd.func20, Tryd.ntmps20
  go_wp2_with fail
  all_goals
    go_ret2
    simp only [W1.out, W2.out, W3.out] at *
    have hn := HN.out
    have hs := HS.out
    have hp := HP.out
    have hg := HG.out
    generalize nst m = n at hn ⊢
    generalize m.tdiv 12500 = q at *
    generalize m.tmod 12500 = r at *
    refine ⟨tup_ib ?_ ?_, by first | rfl | trivial⟩
    · simp only [cl]
      (repeat' split at hn) <;> (repeat' split) <;> omega
    · rw [Bool.eq_iff_iff]
      simp only [true_iff, cl]
      (repeat' split at hn) <;> (repeat' split) <;> (first | omega | (simp; done) | (simp only [decide_eq_true_eq]; omega) | (simp only [Bool.false_eq_true, false_iff]; omega) | (simp only [decide_eq_true_eq, Bool.false_eq_true, false_iff]; omega))
/-- May volts rise or fall as fast as that? -/
def slewB (s : Nat) : Bool := (FloatKind.f64.format.order s 0 == some .gt) && (FloatKind.f64.format.order s 9218868437227405311 == some .lt || FloatKind.f64.format.order s 9218868437227405311 == some .eq)
def infB (s : Nat) : Bool := FloatKind.f64.format.order s 9218868437227405311 == some .gt
set_option maxRecDepth 100000 in
set_option maxHeartbeats 8000000 in
theorem isSlew_any (s : Nat) (w : World) : Calls Tryd.prog 45 #[.float .f64 s] w (fun e w' => e = .returned (.bool (slewB s)) ∧ w' = w) := by
  unfold slewB
  go_enter Tryd.func45, Tryd.ntmps45
  go_wp2_with fail
  all_goals
    go_ret
    refine ⟨?_, rfl⟩
    rename_i h
    simp [h]
set_option maxRecDepth 100000 in
set_option maxHeartbeats 8000000 in
theorem isInf_any (s : Nat) (w : World) : Calls Tryd.prog 46 #[.float .f64 s, .int .i64 1] w (fun e w' => e = .returned (.bool (infB s)) ∧ w' = w) := by
  go_enter Tryd.func46, Tryd.ntmps46
  go_wp2_with fail
  go_ret
  exact ⟨rfl, rfl⟩
theorem order_none {x : Nat} (h : FloatKind.f64.format.order x 0 = some .gt) (y : Nat) (hy : ∃ s m e, FloatKind.f64.format.read y = .number s m e) : FloatKind.f64.format.order x y ≠ none := by
  obtain ⟨t, n, j, hy⟩ := hy
  unfold Ieee.Format.order at h ⊢
  rw [hy]
  generalize FloatKind.f64.format.read x = d at h ⊢
  cases d with
  | nan a b => simp [Ieee.Datum.order] at h
  | infinity a => simp [Ieee.Datum.order]
  | number a b c => simp [Ieee.Datum.order]
theorem slew_eq (s : Nat) : slewB s = ((FloatKind.f64.format.order s 0 == some .gt) && !(infB s)) := by
  unfold slewB infB
  by_cases h : FloatKind.f64.format.order s 0 = some .gt
  · have hn := order_none h 9218868437227405311 ⟨_, _, _, by rfl⟩
    rw [h]
    generalize FloatKind.f64.format.order s 9218868437227405311 = o at hn
    cases o with
    | none => exact absurd rfl hn
    | some o => cases o <;> rfl
  · have : (FloatKind.f64.format.order s 0 == some .gt) = false := by simpa using h
    rw [this]
    rfl
end Go.Proofs.YtpoijmncdicdkaaDoor.Su
