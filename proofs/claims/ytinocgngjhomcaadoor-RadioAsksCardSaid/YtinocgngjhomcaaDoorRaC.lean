/- Shift: the program's (P12.1). -/
import Derived.Test.YtinocgngjhomcaaDoorRaB
namespace Go.Proofs.YtinocgngjhomcaaDoor.Ra
open Go.ChangeShapes Go.WideShapes Go.ChangeAt Go.RowKit Own Ro

/-- A speed within the ends. -/
def wi1 (s : Nat) : Bool := FloatKind.f64.format.order s 13957181328416833536 == some .gt
def wi2 (s : Nat) : Bool := FloatKind.f64.format.order s 4733809291562057728 == some .lt
theorem within_num (s : Nat) (h1 : wi1 s = true) (h2 : wi2 s = true) : ∃ t m p, FloatKind.f64.format.read s = .number t m p := by
  unfold wi1 Ieee.Format.order at h1
  unfold wi2 Ieee.Format.order at h2
  rw [show FloatKind.f64.format.read 13957181328416833536 = .number true 5029682823036928 (-24) from by decide +kernel] at h1
  rw [show FloatKind.f64.format.read 4733809291562057728 = .number false 5029682823036928 (-24) from by decide +kernel] at h2
  cases hr : FloatKind.f64.format.read s with
  | number t m p => exact ⟨t, m, p, rfl⟩
  | nan t m => rw [hr] at h1; cases h1
  | infinity t =>
    rw [hr] at h1 h2
    cases t
    · cases h2
    · cases h1
theorem read_word (neg : Bool) (r : Nat) (h : r ≤ 9218868437227405312) : (FloatKind.f64.format.read (FloatKind.f64.format.word neg r)).isNaN = false := by
  have e : FloatKind.f64.format.word neg r % FloatKind.f64.format.signWeight = r := by
    show (if neg then (9223372036854775808 : Nat) + r else r) % 9223372036854775808 = r
    cases neg
    · simp only [Bool.false_eq_true, if_false]; omega
    · simp only [if_true]; omega
  unfold Ieee.Format.read
  simp only [e]
  split
  · rfl
  · split
    · rfl
    · split
      · rfl
      · rename_i h1 h2 h3
        have h4 : ¬ r < 9218868437227405312 := h2
        have h5 : ¬ r = 9218868437227405312 := h3
        omega
theorem nearest_nan (neg : Bool) (m : Nat) (p : Int) : (FloatKind.f64.format.read (FloatKind.f64.format.nearest neg m p)).isNaN = false := by
  unfold Ieee.Format.nearest
  split
  · exact read_word neg 0 (by omega)
  · exact read_word neg _ (Nat.min_le_right _ _)
theorem ent_num : ∀ k < 20, (match FloatKind.f64.format.read (floatOfInt .f64 (ent (k : Nat))) with | .number _ m _ => decide (0 < m) | _ => false) = true := by decide +kernel
theorem div_ex (s : Nat) (h1 : wi1 s = true) (h2 : wi2 s = true) : ∃ q, FloatKind.f64.format.div s 4733809291562057728 = some q ∧ (FloatKind.f64.format.read q).isNaN = false := by
  obtain ⟨t, m, p, hr⟩ := within_num s h1 h2
  unfold Ieee.Format.div
  rw [show FloatKind.f64.format.read 4733809291562057728 = .number false 5029682823036928 (-24) from by decide +kernel, hr]
  unfold Ieee.Datum.quotient
  simp only [if_neg (show ¬ (5029682823036928 : Nat) = 0 by decide), Option.map_some]
  exact ⟨_, rfl, nearest_nan _ _ _⟩
theorem mul_ex (k : Nat) (hk : k < 20) (q : Nat) (hq : (FloatKind.f64.format.read q).isNaN = false) : ∃ r, FloatKind.f64.format.mul (floatOfInt .f64 (ent (k : Nat))) q = some r := by
  have he := ent_num k hk
  unfold Ieee.Format.mul
  cases hr : FloatKind.f64.format.read (floatOfInt .f64 (ent (k : Nat))) with
  | number t m p =>
    rw [hr] at he
    have hm : ¬ m = 0 := by simp at he; omega
    cases hd : FloatKind.f64.format.read q with
    | number u n j => exact ⟨_, rfl⟩
    | infinity u =>
      unfold Ieee.Datum.product
      simp only [if_neg hm, Option.map_some]
      exact ⟨_, rfl⟩
    | nan u n => rw [hd] at hq; cases hq
  | infinity t => rw [hr] at he; cases he
  | nan t m => rw [hr] at he; cases he
def quoN (s : Nat) : Nat := (FloatKind.f64.format.div s 4733809291562057728).getD 0
def mulN (i : Int) (s : Nat) : Nat := (FloatKind.f64.format.mul (floatOfInt .f64 (ent i)) (quoN s)).getD 0
theorem quo_some (s : Nat) (h1 : wi1 s = true) (h2 : wi2 s = true) : FloatKind.f64.format.div s 4733809291562057728 = some (quoN s) := by
  obtain ⟨q, hq, _⟩ := div_ex s h1 h2
  unfold quoN
  rw [hq]
  rfl
theorem mul_some (i : Int) (s : Nat) (h0 : 0 ≤ i) (hi : i < 20) (h1 : wi1 s = true) (h2 : wi2 s = true) : FloatKind.f64.format.mul (floatOfInt .f64 (ent i)) (quoN s) = some (mulN i s) := by
  obtain ⟨q, hq, hn⟩ := div_ex s h1 h2
  obtain ⟨r, hr⟩ := mul_ex i.toNat (by omega) q hn
  rw [show ((i.toNat : Nat) : Int) = i by omega] at hr
  have e : quoN s = q := by unfold quoN; rw [hq]; rfl
  unfold mulN
  rw [e, hr]
  rfl
theorem quo_run (s : Nat) (h1 : wi1 s = true) (h2 : wi2 s = true) (t : TypeId) (w : World) : (binOp .quo t (.float .f64 s) (.float .f64 4733809291562057728)).run Tryd.prog w = .ok (.float .f64 (quoN s)) w :=
  run_float_arith _ _ _ _ _ _ _ (quo_some s h1 h2)
theorem mul_run (i : Int) (s : Nat) (h0 : 0 ≤ i) (hi : i < 20) (h1 : wi1 s = true) (h2 : wi2 s = true) (t : TypeId) (w : World) : (binOp .mul t (.float .f64 (floatOfInt .f64 (ent i))) (.float .f64 (quoN s))).run Tryd.prog w = .ok (.float .f64 (mulN i s)) w :=
  run_float_arith _ _ _ _ _ _ _ (mul_some i s h0 hi h1 h2)
set_option maxRecDepth 100000 in
set_option maxHeartbeats 8000000 in
theorem shift_ok (i : Int) (s : Nat) (w : World) (h : Tb w) (h0 : 0 ≤ i) (h1 : i < 20) (g1 : wi1 s = true) (g2 : wi2 s = true) : Calls Tryd.prog 13 #[.int .i64 i, .float .f64 s] w (fun e w' => e = .returned (.tuple #[.float .f64 (mulN i s), .int .i64 0]) ∧ w' = w) := by
  have HC := h.at h0 h1
  have H : decide (0 ≤ i ∧ i < 20) = true := by simp; omega
  have q1 : FloatKind.f64.format.order s 13957181328416833536 = some .gt := by unfold wi1 at g1; simpa using g1
  have q2 : FloatKind.f64.format.order s 4733809291562057728 = some .lt := by unfold wi2 at g2; simpa using g2
  have r1 := quo_run s g1 g2 22 w
  have r2 := mul_run i s h0 h1 g1 g2 22 w
  generalize mulN i s = mm at r2 ⊢
  generalize quoN s = qq at r1 r2
  clear g1 g2
  go_enter Tryd.func13, Tryd.ntmps13
  go_wp2_with fail
  refine (isBand_any i w).mono ?_
  rintro e w1 ⟨rfl, rfl⟩
  rw [H]
  go_wp2_with fail
  go_ret2
  exact ⟨rfl, rfl⟩
set_option maxRecDepth 100000 in
set_option maxHeartbeats 8000000 in
theorem shift_bad (i : Int) (s : Nat) (w : World) (hb : ¬ ((0 ≤ i ∧ i < 20) ∧ wi1 s = true ∧ wi2 s = true)) : Calls Tryd.prog 13 #[.int .i64 i, .float .f64 s] w (fun e w' => e = .returned (.tuple #[.float .f64 0, .int .i64 1]) ∧ w' = w) := by
  by_cases hi : 0 ≤ i ∧ i < 20
  · have H : decide (0 ≤ i ∧ i < 20) = true := decide_eq_true hi
    by_cases g1 : wi1 s = true
    · have g2 : ¬ wi2 s = true := fun h => hb ⟨hi, g1, h⟩
      have q1 : FloatKind.f64.format.order s 13957181328416833536 = some .gt := by unfold wi1 at g1; simpa using g1
      have q2 : ¬ FloatKind.f64.format.order s 4733809291562057728 = some .lt := by unfold wi2 at g2; simpa using g2
      have q3 : (FloatKind.f64.format.order s 4733809291562057728 == some .lt) = false := by simpa using q2
      clear g1 g2 hb hi
      go_enter Tryd.func13, Tryd.ntmps13
      go_wp2_with fail
      refine (isBand_any i w).mono ?_
      rintro e w1 ⟨rfl, rfl⟩
      rw [H]
      go_wp2_with fail
      go_ret2
      exact ⟨rfl, rfl⟩
    · have q1 : ¬ FloatKind.f64.format.order s 13957181328416833536 = some .gt := by unfold wi1 at g1; simpa using g1
      have q3 : (FloatKind.f64.format.order s 13957181328416833536 == some .gt) = false := by simpa using q1
      clear g1 hb hi
      go_enter Tryd.func13, Tryd.ntmps13
      go_wp2_with fail
      refine (isBand_any i w).mono ?_
      rintro e w1 ⟨rfl, rfl⟩
      rw [H]
      go_wp2_with fail
      go_ret2
      exact ⟨rfl, rfl⟩
  · have H : decide (0 ≤ i ∧ i < 20) = false := decide_eq_false hi
    clear hb hi
    go_enter Tryd.func13, Tryd.ntmps13
    go_wp2_with fail
    all_goals
      refine (isBand_any i w).mono ?_
      rintro e w1 ⟨rfl, rfl⟩
      rw [H]
      go_wp2_with fail
      go_ret2
      exact ⟨rfl, rfl⟩
/-- What Shift answers. -/
def shiV (i : Int) (s : Nat) : Nat × Int := if (0 ≤ i ∧ i < 20) ∧ wi1 s = true ∧ wi2 s = true then (mulN i s, 0) else (0, 1)
theorem shift_any (i : Int) (s : Nat) (w : World) (h : Tb w) : Calls Tryd.prog 13 #[.int .i64 i, .float .f64 s] w (fun e w' => e = .returned (.tuple #[.float .f64 (shiV i s).1, .int .i64 (shiV i s).2]) ∧ w' = w) := by
  by_cases hb : (0 ≤ i ∧ i < 20) ∧ wi1 s = true ∧ wi2 s = true
  · refine (shift_ok i s w h hb.1.1 hb.1.2 hb.2.1 hb.2.2).mono ?_
    rintro e w' ⟨rfl, hw⟩
    exact ⟨by unfold shiV; rw [if_pos hb], hw⟩
  · refine (shift_bad i s w hb).mono ?_
    rintro e w' ⟨rfl, hw⟩
    exact ⟨by unfold shiV; rw [if_neg hb], hw⟩
end Go.Proofs.YtinocgngjhomcaaDoor.Ra
