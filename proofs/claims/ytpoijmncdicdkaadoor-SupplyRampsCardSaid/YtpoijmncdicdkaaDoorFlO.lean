/- Floats: sums of quotients by one number are near the quotient of the sum. No program. -/
import Derived.Test.YtpoijmncdicdkaaDoorFlN
namespace Go.Proofs.YtpoijmncdicdkaaDoor.Fl
open Ieee

set_option maxRecDepth 100000 in
theorem app_low {T k r d : Nat} (hT : 0 < T) (hk0 : T ≤ 2 * k) (hk : k ≤ 131072 * T) (hd : 524288 ≤ d) (h : App 1 (r * k) (d * (T * T))) : T ≤ r := by
  apply Classical.byContradiction
  intro hc
  have h1 : r * k < T * k := Nat.mul_lt_mul_of_pos_right (by omega) (by omega)
  have h2 : T * k ≤ 131072 * (T * T) := by
    have := Nat.mul_le_mul_left T hk
    rw [Nat.mul_left_comm] at this
    exact this
  have h3 := Nat.mul_le_mul_right (T * T) hd
  have h4 : 0 < T * T := Nat.mul_pos hT hT
  have h5 := h.2
  generalize r * k = a at *
  generalize T * k = b at *
  generalize d * (T * T) = c at *
  generalize T * T = e at *
  omega
set_option maxRecDepth 100000 in
theorem app_high {T k S P e : Nat} (hT : 0 < T) (hk0 : T ≤ 2 * k) (hP : P ≤ 100000000) (he : e ≤ 1000) (h : App e (S * k) (P * (T * T))) : S ≤ 400000000 * T := by
  apply Classical.byContradiction
  intro hc
  have h1 : (400000000 * T + 1) * k ≤ S * k := Nat.mul_le_mul_right k (by omega)
  rw [Nat.add_mul, Nat.one_mul, Nat.mul_assoc] at h1
  have h2 : T * T ≤ 2 * (T * k) := by
    have := Nat.mul_le_mul_left T hk0
    rw [Nat.mul_left_comm] at this
    exact this
  have h3 := Nat.mul_le_mul_right (T * T) hP
  have h5 := h.1
  have h6 := Nat.mul_le_mul_left (P * (T * T)) he
  have hk1 : 0 < k := by omega
  generalize P * (T * T) * e = z at *
  generalize P * (T * T) = c at *
  generalize S * k = a at *
  generalize T * k = b at *
  generalize T * T = f at *
  omega
theorem app_two {Y Q Z R : Nat} (C D : Nat) (hC : 1000 ≤ C) (hD : 2 ≤ D) (a1 : Y * C ≤ Q * C + Z) (a2 : Q * C ≤ Y * C + Z) (a3 : Z ≤ Q * 1000)
    (h3 : R * (C * D) ≤ Y * (C * D) + Y) (h4 : Y * (C * D) ≤ R * (C * D) + Y) : R * C ≤ Q * C + (Z + Q) ∧ Q * C ≤ R * C + (Z + Q) := by
  have y1 : Y ≤ 2 * Q := by
    refine Nat.le_of_mul_le_mul_right (c := C) ?_ (by omega)
    have : Q * 1000 ≤ Q * C := Nat.mul_le_mul_left Q hC
    rw [Nat.mul_assoc]
    omega
  have y2 : Y ≤ Q * D := Nat.le_trans y1 (by rw [Nat.mul_comm]; exact Nat.mul_le_mul_left Q hD)
  rw [← Nat.mul_assoc, ← Nat.mul_assoc] at h3 h4
  have r1 : R * C ≤ Y * C + Q := by
    refine Nat.le_of_mul_le_mul_right (c := D) ?_ (by omega)
    rw [Nat.add_mul]
    omega
  have r2 : Y * C ≤ R * C + Q := by
    refine Nat.le_of_mul_le_mul_right (c := D) ?_ (by omega)
    rw [Nat.add_mul]
    omega
  omega
set_option maxRecDepth 100000 in
theorem app_sum {Sk PU rk dU Rk e : Nat} (he1 : 1 ≤ e) (he : e ≤ 1000) (h1 : App e Sk PU) (h2 : App 1 rk dU)
    (h3 : Rk * 4503599627370496 ≤ (Sk + rk) * 4503599627370496 + (Sk + rk)) (h4 : (Sk + rk) * 4503599627370496 ≤ Rk * 4503599627370496 + (Sk + rk)) : App (e + 1) Rk (PU + dU) := by
  unfold App at *
  have e1 : dU ≤ dU * e := Nat.le_mul_of_pos_right _ he1
  have e2 : (PU + dU) * (e + 1) = PU * e + dU * e + (PU + dU) := by rw [Nat.mul_add, Nat.add_mul, Nat.mul_one]
  have e3 : PU * e ≤ PU * 1000 := Nat.mul_le_mul_left _ he
  have e4 : dU * e ≤ dU * 1000 := Nat.mul_le_mul_left _ he
  rw [e2]
  obtain ⟨p1, p2⟩ := h1
  obtain ⟨p3, p4⟩ := h2
  rw [Nat.mul_one] at p3 p4
  generalize PU * e = x at *
  generalize dU * e = y at *
  have a1 : (Sk + rk) * 1099511627776 ≤ (PU + dU) * 1099511627776 + (x + y) := by
    clear h3 h4
    simp only [Nat.mul_comm _ 1099511627776, Nat.mul_comm _ 1000] at *
    omega
  have a2 : (PU + dU) * 1099511627776 ≤ (Sk + rk) * 1099511627776 + (x + y) := by
    clear h3 h4
    simp only [Nat.mul_comm _ 1099511627776, Nat.mul_comm _ 1000] at *
    omega
  have a3 : x + y ≤ (PU + dU) * 1000 := by
    clear h3 h4
    simp only [Nat.mul_comm _ 1099511627776, Nat.mul_comm _ 1000] at *
    omega
  clear p1 p2 p3 p4 e1 e2 e3 e4 he1 he
  generalize x + y = Z at *
  generalize PU + dU = Q at *
  generalize Sk + rk = Y at *
  exact app_two 1099511627776 4096 (by decide) (by decide) a1 a2 a3 h3 h4
theorem sc {R Y C : Nat} (k : Nat) (h : R * C ≤ Y * C + Y) : R * k * C ≤ Y * k * C + Y * k := by
  have := Nat.mul_le_mul_right k h
  rw [Nat.add_mul] at this
  rw [Nat.mul_right_comm R, Nat.mul_right_comm Y]
  exact this
theorem sc2 {R Y C : Nat} (k : Nat) (h : Y * C ≤ R * C + Y) : Y * k * C ≤ R * k * C + Y * k := by
  have := Nat.mul_le_mul_right k h
  rw [Nat.add_mul] at this
  rw [Nat.mul_right_comm R, Nat.mul_right_comm Y]
  exact this
theorem few1 {A B : Nat} (h1 : B * 4503599627370496 ≤ A * 4503599627370496 + B) : B * 9999999 ≤ A * 10000000 := by
  simp only [Nat.mul_comm _ 4503599627370496, Nat.mul_comm _ 9999999, Nat.mul_comm _ 10000000] at h1 ⊢
  omega
theorem few2 {A B : Nat} (h1 : A * 4503599627370496 ≤ B * 4503599627370496 + B) : A * 9999999 ≤ B * 10000000 := by
  simp only [Nat.mul_comm _ 4503599627370496, Nat.mul_comm _ 9999999, Nat.mul_comm _ 10000000] at h1 ⊢
  omega
theorem few3 {B E : Nat} (h2 : E * 1099511627776 ≤ B * 1099511627776 + E) : E * 9999999 ≤ B * 10000000 := by
  simp only [Nat.mul_comm _ 1099511627776, Nat.mul_comm _ 9999999, Nat.mul_comm _ 10000000] at h2 ⊢
  omega
theorem few4 {B E : Nat} (h2 : B * 1099511627776 ≤ E * 1099511627776 + E) : B * 9999999 ≤ E * 10000000 := by
  simp only [Nat.mul_comm _ 1099511627776, Nat.mul_comm _ 9999999, Nat.mul_comm _ 10000000] at h2 ⊢
  omega
theorem few5 {G F : Nat} (h4 : G * 1099511627776 ≤ F * 1099511627776 + F * 100) : G * 9999999 ≤ F * 10000000 := by
  simp only [Nat.mul_comm _ 1099511627776, Nat.mul_comm _ 9999999, Nat.mul_comm _ 10000000, Nat.mul_comm _ 100] at h4 ⊢
  omega
theorem few6 {G F : Nat} (h4 : F * 1099511627776 ≤ G * 1099511627776 + F * 100) : F * 9999999 ≤ G * 10000000 := by
  simp only [Nat.mul_comm _ 1099511627776, Nat.mul_comm _ 9999999, Nat.mul_comm _ 10000000, Nat.mul_comm _ 100] at h4 ⊢
  omega
theorem app_up {A B E F G : Nat} (h1 : B * 9999999 ≤ A * 10000000) (h2 : E * 9999999 ≤ B * 10000000) (h3 : F * 2000001 ≤ E * 2000000) (h4 : G * 9999999 ≤ F * 10000000) : G ≤ A := by
  simp only [Nat.mul_comm _ 9999999, Nat.mul_comm _ 10000000, Nat.mul_comm _ 2000000, Nat.mul_comm _ 2000001] at h1 h2 h3 h4
  omega
theorem app_down {A B E F G : Nat} (h1 : A * 9999999 ≤ B * 10000000) (h2 : B * 9999999 ≤ E * 10000000) (h3 : E * 2000000 ≤ F * 1999999) (h4 : F * 9999999 ≤ G * 10000000) : A ≤ G := by
  simp only [Nat.mul_comm _ 9999999, Nat.mul_comm _ 10000000, Nat.mul_comm _ 2000000, Nat.mul_comm _ 1999999] at h1 h2 h3 h4
  omega
set_option maxRecDepth 100000 in
theorem app_mono {e e' a b : Nat} (h : App e a b) (he : e ≤ e') : App e' a b := by
  unfold App at *
  have := Nat.mul_le_mul_left b he
  generalize b * e = x at *
  generalize b * e' = y at *
  omega
/-- What is known of a slew: its value. -/
def Sl (s k : Nat) : Prop := Tm s k ∧ pw 1074 ≤ 2 * k ∧ k ≤ 131072 * pw 1074
theorem pw_small (c : Nat) (h : c ≤ 2147483648) : c * pw 1074 ≤ pw 1105 := by
  rw [show pw 1105 = pw 31 * pw 1074 from pw_add 31 1074, show pw 31 = 2147483648 by decide]
  exact Nat.mul_le_mul_right _ h
theorem slew_sl (u : Nat) (hu : u < 65536) : ∃ s k, double.add (floatOfInt .f64 (u : Int)) 4607182418800017408 = some s ∧ Sl s k := by
  have hone : Tm 4607182418800017408 (1 * pw 1074) := by
    have := int_tm 1 (by decide) (by rw [pw53]; decide)
    rw [show floatOfInt .f64 ((1 : Nat) : Int) = 4607182418800017408 by decide +kernel] at this
    exact this
  have hx : ∃ m e, double.read (floatOfInt .f64 (u : Int)) = .number false m e ∧ -1074 ≤ e ∧ u * pw 1074 = m * pw (e + 1074).toNat := by
    by_cases h0 : u = 0
    · subst h0
      rw [show floatOfInt .f64 ((0 : Nat) : Int) = 0 by decide +kernel, Nat.zero_mul]
      exact zero_num
    · exact (int_tm u (by omega) (by rw [pw53]; omega)).num
  have hb : u * pw 1074 + 1 * pw 1074 = (u + 1) * pw 1074 := by rw [Nat.add_mul]
  obtain ⟨z, r, h1, h2, h3⟩ := add_tm hx hone (by rw [Nat.one_mul]; exact pw_le (by decide)) (by
    rw [hb]
    exact Nat.lt_of_le_of_lt (pw_small _ (by omega)) (pw_lt (by decide)))
  refine ⟨z, r, h1, h2, ?_⟩
  have hc := close_num h3
  rw [hb] at hc
  have m1 := Nat.mul_le_mul_right (pw 1074) (show 1 ≤ u + 1 by omega)
  have m2 := Nat.mul_le_mul_right (pw 1074) (show u + 1 ≤ 65536 by omega)
  rw [Nat.one_mul] at m1
  generalize (u + 1) * pw 1074 = N at *
  generalize pw 1074 = T at *
  omega
/-- How long one step takes. -/
theorem step_app {s k d : Nat} (hs : Sl s k) (h0 : 524288 ≤ d) (h1 : d ≤ 100000000) : ∃ z r, double.div (floatOfInt .f64 (d : Int)) s = some z ∧ Tm z r ∧ App 1 (r * k) (d * (pw 1074 * pw 1074)) := by
  obtain ⟨a, b, c⟩ := hs
  obtain ⟨z, r, e1, e2, e3⟩ := div_tm (int_tm d (by omega) (by rw [pw53]; omega)) a (by
    have := Nat.mul_le_mul_right (pw 1074) h0
    omega) (by
    have m1 := Nat.mul_le_mul_right (pw 1074) h1
    have m2 : k * 268435456 ≤ k * pw 60 := Nat.mul_le_mul_left k (by rw [show pw 60 = 1152921504606846976 by decide]; decide)
    generalize k * pw 60 = x at *
    generalize d * pw 1074 = y at *
    generalize pw 1074 = T at *
    omega)
  rw [Nat.mul_assoc] at e3
  exact ⟨z, r, e1, e2, e3⟩
/-- What the first steps sum to. -/
def Sm (k P e σ : Nat) : Prop := ∃ S, (∃ m i, double.read σ = .number false m i ∧ -1074 ≤ i ∧ S = m * pw (i + 1074).toNat) ∧ App e (S * k) (P * (pw 1074 * pw 1074))
theorem sm_zero (k : Nat) : Sm k 0 1 0 := ⟨0, zero_num, by unfold App; simp⟩
theorem sm_step {s k P e σ z r d : Nat} (hs : Sl s k) (h : Sm k P e σ) (he1 : 1 ≤ e) (he : e ≤ 1000) (hP : P ≤ 100000000) (hd0 : 524288 ≤ d) (hd : d ≤ 100000000) (hz : Tm z r) (ha : App 1 (r * k) (d * (pw 1074 * pw 1074))) :
    ∃ w, double.add σ z = some w ∧ Sm k (P + d) (e + 1) w := by
  obtain ⟨S, hS, hA⟩ := h
  have hT := pw_pos 1074
  have r1 := app_low hT hs.2.1 hs.2.2 hd0 ha
  have r2 := app_high hT hs.2.1 hd (by decide : 1 ≤ 1000) ha
  have s2 := app_high hT hs.2.1 hP he hA
  obtain ⟨w, R, h1, h2, h3⟩ := add_tm hS hz (Nat.le_trans (pw_le (by decide)) r1) (by
    refine Nat.lt_of_le_of_lt (Nat.le_trans (Nat.add_le_add s2 r2) ?_) (pw_lt (show 1105 < 1173 by decide))
    rw [← Nat.add_mul]
    exact pw_small _ (by decide))
  refine ⟨w, h1, R, h2.num, ?_⟩
  have hc := close_num h3
  have c1 := sc k hc.1
  have c2 := sc2 k hc.2
  rw [Nat.add_mul S r k] at c1 c2
  rw [Nat.add_mul P d]
  exact app_sum he1 he hA ha c1 c2
end Go.Proofs.YtpoijmncdicdkaaDoor.Fl
