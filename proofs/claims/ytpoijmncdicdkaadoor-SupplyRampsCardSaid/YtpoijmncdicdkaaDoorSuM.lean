/- The law SupplyRamps. -/
import Derived.Test.YtpoijmncdicdkaaDoorSuF
import Derived.Test.YtpoijmncdicdkaaDoorFlQ
namespace Go.Proofs.YtpoijmncdicdkaaDoor.Su
open Go.ChangeShapes Go.WideShapes Go.ChangeAt Go.RowKit Own Ro

open Fl in
theorem order_gt {x y n k : Nat} (hx : ∃ m e, Ieee.double.read x = .number false m e ∧ -1074 ≤ e ∧ n = m * pw (e + 1074).toNat) (hy : ∃ m e, Ieee.double.read y = .number false m e ∧ -1074 ≤ e ∧ k = m * pw (e + 1074).toNat) (h : k < n) : Ieee.double.order x y = some .gt := by
  obtain ⟨a, b, p, ho, rfl, rfl⟩ := order_is hx hy
  rw [ho]
  have := Nat.lt_of_mul_lt_mul_right h
  rw [show compare (a : Int) (b : Int) = if (a : Int) < b then .lt else if (a : Int) = b then .eq else .gt from rfl, if_neg (by omega), if_neg (by omega)]
open Fl in
theorem order_lt {x y n k : Nat} (hx : ∃ m e, Ieee.double.read x = .number false m e ∧ -1074 ≤ e ∧ n = m * pw (e + 1074).toNat) (hy : ∃ m e, Ieee.double.read y = .number false m e ∧ -1074 ≤ e ∧ k = m * pw (e + 1074).toNat) (h : n < k) : Ieee.double.order x y = some .lt := by
  obtain ⟨a, b, p, ho, rfl, rfl⟩ := order_is hx hy
  rw [ho]
  have := Nat.lt_of_mul_lt_mul_right h
  rw [show compare (a : Int) (b : Int) = if (a : Int) < b then .lt else if (a : Int) = b then .eq else .gt from rfl, if_pos (by omega)]
theorem slew_of {s k : Nat} (h : Fl.Sl s k) : slewB s = true := by
  obtain ⟨h1, h2, h3⟩ := h
  have hT := Fl.pw_pos 1074
  have g : FloatKind.f64.format.order s 0 = some .gt := order_gt h1.num Fl.zero_num (by omega)
  have l : FloatKind.f64.format.order s 9218868437227405311 = some .lt := order_lt (k := 9007199254740991 * Fl.pw 2045) h1.num ⟨9007199254740991, 971, by rfl, by decide, by rw [show ((971 : Int) + 1074).toNat = 2045 from rfl]⟩ (by
    refine Nat.lt_of_le_of_lt h3 ?_
    refine Nat.lt_of_le_of_lt (Fl.pw_small _ (by decide)) ?_
    refine Nat.lt_of_lt_of_le (Fl.pw_lt (show 1105 < 2045 by decide)) ?_
    exact Nat.le_mul_of_pos_left _ (by decide))
  unfold slewB
  rw [g, l]
  rfl
theorem ent_gap {a b : Int} (h0 : 0 ≤ a) (h1 : a < b) (h2 : b < 24) : ent a + 1012500 ≤ ent b := by
  unfold ent
  split <;> split <;> (try split) <;> (try split) <;> omega
theorem dif_up {a b : Int} (h0 : 0 ≤ a) (h1 : a < b) (h2 : b < 24) : dif a b = ent b - ent a := by
  have := ent_gap h0 h1 h2
  unfold dif
  omega
theorem dif_down {a b : Int} (h0 : 0 ≤ b) (h1 : b < a) (h2 : a < 24) : dif a b = ent a - ent b := by
  have := ent_gap h0 h1 h2
  unfold dif
  omega
theorem dif_self (a : Int) : dif a a = 0 := by unfold dif; omega
theorem dif_rng {a b : Int} (h0 : 0 ≤ a) (h1 : a < 24) (h2 : 0 ≤ b) (h3 : b < 24) (h : a ≠ b) : 524288 ≤ (dif a b).toNat ∧ (dif a b).toNat ≤ 100000000 ∧ dif a b = ((dif a b).toNat : Int) := by
  have e1 := ent_bd a h0 h1
  have e2 := ent_bd b h2 h3
  rcases Int.lt_or_gt_of_ne h with h4 | h4
  · have := ent_gap h0 h4 h3
    rw [dif_up h0 h4 h3]
    omega
  · have := ent_gap h2 h4 h1
    rw [dif_down h2 h4 h1]
    omega
theorem dif_sum {a b : Int} (h0 : 0 ≤ a) (h1 : a < 24) (h2 : 0 ≤ b) (h3 : b < 24) (j : Nat) (hj : j < wayN a b) : (dif a (wat a b (j + 1))).toNat = (dif a (wat a b j)).toNat + (dif (wat a b j) (wat a b (j + 1))).toNat := by
  unfold wayN at hj
  unfold wat
  split
  · rename_i h
    by_cases hj0 : j = 0
    · subst hj0
      rw [show a - ((0 : Nat) : Int) = a by omega, dif_self]
      simp
    · have g1 := ent_gap (a := a - (j : Int)) (b := a) (by omega) (by omega) h1
      have g2 := ent_gap (a := a - ((j + 1 : Nat) : Int)) (b := a - (j : Int)) (by omega) (by omega) (by omega)
      rw [dif_down (a := a) (b := a - ((j + 1 : Nat) : Int)) (by omega) (by omega) h1, dif_down (a := a) (b := a - (j : Int)) (by omega) (by omega) h1, dif_down (a := a - (j : Int)) (by omega) (by omega) (by omega)]
      omega
  · rename_i h
    by_cases hj0 : j = 0
    · subst hj0
      rw [show a + ((0 : Nat) : Int) = a by omega, dif_self]
      simp
    · have g1 := ent_gap (a := a) (b := a + (j : Int)) (by omega) (by omega) (by omega)
      have g2 := ent_gap (a := a + (j : Int)) (b := a + ((j + 1 : Nat) : Int)) (by omega) (by omega) (by omega)
      rw [dif_up (a := a) (b := a + ((j + 1 : Nat) : Int)) (by omega) (by omega) (by omega), dif_up (a := a) (b := a + (j : Int)) (by omega) (by omega) (by omega), dif_up (a := a + (j : Int)) (by omega) (by omega) (by omega)]
      omega
theorem dif_comm (a b : Int) : dif a b = dif b a := by unfold dif; omega
theorem rampN_comm (a b : Int) (s : Nat) : rampN a b s = rampN b a s := by unfold rampN; rw [dif_comm]
/-- A ramp, as a number. -/
theorem ramp_tm {s k : Nat} (hs : Fl.Sl s k) {a b : Int} (h0 : 0 ≤ a) (h1 : a < 24) (h2 : 0 ≤ b) (h3 : b < 24) (h : a ≠ b) : ∃ r, Fl.Tm (rampN a b s) r ∧ Fl.App 1 (r * k) ((dif a b).toNat * (Fl.pw 1074 * Fl.pw 1074)) := by
  obtain ⟨g1, g2, g3⟩ := dif_rng h0 h1 h2 h3 h
  obtain ⟨z, r, e1, e2, e3⟩ := Fl.step_app hs g1 g2
  refine ⟨r, ?_, e3⟩
  unfold rampN
  rw [g3, show FloatKind.f64.format.div (floatOfInt FloatKind.f64 (((dif a b).toNat : Nat) : Int)) s = some z from e1]
  exact e2
theorem ramp_zero {s k : Nat} (hs : Fl.Sl s k) (a : Int) : rampN a a s = 0 := by
  obtain ⟨⟨m, e, hr, m1, _⟩, _⟩ := hs
  unfold rampN
  rw [dif_self]
  have hm : m ≠ 0 := by have := Fl.pw_pos 52; omega
  show (Ieee.double.div (floatOfInt .f64 0) s).getD 0 = 0
  rw [show floatOfInt .f64 0 = 0 by decide +kernel]
  unfold Ieee.Format.div
  rw [hr, show Ieee.double.read 0 = .number false 0 (-1074) by rfl]
  simp only [Ieee.Datum.quotient, if_neg hm, Fl.shl, Nat.zero_mul, Nat.zero_div, Nat.zero_mod]
  simp [Ieee.Format.write, Ieee.Format.nearest, Ieee.Format.word]
end Go.Proofs.YtpoijmncdicdkaaDoor.Su
