/- Kelvins, of both signs: more thousandths of a degree are no fewer kelvins (P11.3). No program in it. -/
import Derived.Test.YtkloihfnngbceaaDoorSeJ
namespace Go.Proofs.YtkloihfnngbceaaDoor.Fl
open Go Ieee Se

theorem tm_c : Tm 4643512921809643110 (4805305618032230 * pw 1030) := ⟨4805305618032230, -44, by rfl, by rw [pw52]; decide, by rw [pw53]; decide, by decide, by decide, by rw [show ((-44 : Int) + 1074).toNat = 1030 from rfl]⟩
theorem tm_k : Tm 4652007308841189376 (1000 * pw 1074) := by
  have h := int_tm 1000 (by decide) (by rw [pw53]; decide)
  rw [show floatOfInt .f64 ((1000 : Nat) : Int) = 4652007308841189376 by decide +kernel] at h
  exact h
theorem Tm.ne {x n : Nat} (h : Tm x n) : x ≠ 0 := by
  rintro rfl
  obtain ⟨m, e, h1, h2, _⟩ := h
  rw [show double.read 0 = .number false 0 (-1074) by rfl] at h1
  injection h1 with _ h3 _
  have := pw_pos 52
  omega
theorem div_neg {x x' y m m' z : Nat} {i j : Int} (hx : double.read x = .number false m i) (hx' : double.read x' = .number true m i) (hy : double.read y = .number false m' j) (hm' : m' ≠ 0) (hz : double.div x y = some z) (hz0 : z ≠ 0) :
    double.div x' y = some (double.signWeight + z) ∧ z < double.signWeight := by
  unfold Format.div at hz ⊢
  rw [hx, hy] at hz
  rw [hx', hy]
  simp only [Datum.quotient, if_neg hm', Option.map, Format.write] at hz ⊢
  rw [show (false ^^ false) = false from rfl] at hz
  rw [show (true ^^ false) = true from rfl]
  injection hz with hz
  subst hz
  refine ⟨?_, nearest_lt _ _⟩
  rw [nearest_neg]
  intro h
  refine hz0 ?_
  unfold Format.nearest
  rw [if_pos h, word_false]
/-- A number of thousandths above nought, and the kelvins' quotient. -/
theorem quo_pos (n : Nat) (h0 : 1 ≤ n) (h1 : n ≤ 200000) : ∃ z r, double.div (floatOfInt .f64 (n : Int)) 4652007308841189376 = some z ∧ Tm z r ∧ App 1 (r * (1000 * pw 1074)) (n * pw 1074 * pw 1074) := by
  have p53 := pw53
  have h60 : pw 60 = 1152921504606846976 := by decide
  refine div2_tm (int_tm n h0 (by omega)) tm_k ?_ ?_
  · rw [Nat.mul_right_comm]
    exact Nat.mul_le_mul_right _ (by omega)
  · rw [Nat.mul_right_comm]
    exact Nat.mul_le_mul_right _ (by omega)
theorem quo_neg (n : Nat) (h0 : 1 ≤ n) (h1 : n ≤ 200000) : ∃ z r, double.div (floatOfInt .f64 (-(n : Int))) 4652007308841189376 = some z ∧ (∃ m e, double.read z = .number true m e ∧ -1074 ≤ e ∧ r = m * pw (e + 1074).toNat) ∧ App 1 (r * (1000 * pw 1074)) (n * pw 1074 * pw 1074) := by
  obtain ⟨z, r, hz, ht, ha⟩ := quo_pos n h0 h1
  have p53 := pw53
  have hi := int_tm n h0 (by omega)
  have e1 : floatOfInt .f64 (n : Int) = double.nearest false n 0 := by
    rw [show floatOfInt .f64 (n : Int) = double.nearest (decide ((n : Int) < 0)) (n : Int).natAbs 0 from rfl, decide_eq_false (by omega), show (n : Int).natAbs = n from rfl]
  have e2 : floatOfInt .f64 (-(n : Int)) = double.signWeight + double.nearest false n 0 := by
    rw [show floatOfInt .f64 (-(n : Int)) = double.nearest (decide (-(n : Int) < 0)) (-(n : Int)).natAbs 0 from rfl, decide_eq_true (by omega), show (-(n : Int)).natAbs = n by omega, nearest_neg _ _ (by omega)]
  obtain ⟨m, i, hrx, _, _, _, _, _⟩ := hi
  rw [e1] at hrx hz
  obtain ⟨m', j, hry, n1, _, _, _, _⟩ := tm_k
  have hm' : m' ≠ 0 := by have := pw_pos 52; omega
  have hd := div_neg hrx (read_neg (nearest_lt n 0) hrx) hry hm' hz ht.ne
  rw [e2]
  obtain ⟨M, e, hr, _, _, l1, _, hrr⟩ := ht
  exact ⟨_, r, hd.1, ⟨M, e, read_neg hd.2 hr, by omega, hrr⟩, ha⟩
/-- What App says, once the common part is gone. -/
theorem app_cut {r n : Nat} (h : App 1 (r * (1000 * pw 1074)) (n * pw 1074 * pw 1074)) : 1099511627776000 * r ≤ 1099511627777 * (n * pw 1074) ∧ 1099511627775 * (n * pw 1074) ≤ 1099511627776000 * r := by
  have hT := pw_pos 1074
  generalize pw 1074 = T at *
  unfold App at h
  generalize hN : n * T = N at *
  rw [← Nat.mul_assoc, Nat.mul_one] at h
  constructor
  · refine Nat.le_of_mul_le_mul_right (c := T) ?_ hT
    rw [Nat.mul_assoc, Nat.mul_assoc]
    generalize hA : r * 1000 * T = A at *
    rw [Nat.mul_right_comm] at hA
    generalize r * T = rt at *
    generalize N * T = nt at *
    omega
  · refine Nat.le_of_mul_le_mul_right (c := T) ?_ hT
    rw [Nat.mul_assoc, Nat.mul_assoc]
    generalize hA : r * 1000 * T = A at *
    rw [Nat.mul_right_comm] at hA
    generalize r * T = rt at *
    generalize N * T = nt at *
    omega
/-- The kelvins of a number of thousandths: near what they should be. -/
def Kv (n : Int) : Prop := ∃ R q s, (∃ m e, double.read (kelN n) = .number false m e ∧ -1074 ≤ e ∧ R = m * pw (e + 1074).toNat) ∧ Close R s ∧
  ((0 ≤ n ∧ s = q + 4805305618032230 * pw 1030 ∧ 1099511627776000 * q ≤ 1099511627777 * (n.toNat * pw 1074) ∧ 1099511627775 * (n.toNat * pw 1074) ≤ 1099511627776000 * q) ∨
   (n < 0 ∧ s + q = 4805305618032230 * pw 1030 ∧ 1099511627776000 * q ≤ 1099511627777 * ((-n).toNat * pw 1074) ∧ 1099511627775 * ((-n).toNat * pw 1074) ≤ 1099511627776000 * q))
theorem pw_74 : pw 1074 = 17592186044416 * pw 1030 := by
  have h : pw 1074 = pw 44 * pw 1030 := pw_add 44 1030
  rwa [show pw 44 = 17592186044416 by decide] at h
theorem kv_all (n : Int) (h0 : -40000 ≤ n) (h1 : n ≤ 110000) : Kv n := by
  have e74 := pw_74
  have hP := pw_pos 1030
  have a1 : pw 1061 = 2147483648 * pw 1030 := by
    have h : pw 1061 = pw 31 * pw 1030 := pw_add 31 1030
    rwa [show pw 31 = 2147483648 by decide] at h
  have a2 : pw 1173 = 11150372599265311570767859136324180752990208 * pw 1030 := by
    have h : pw 1173 = pw 143 * pw 1030 := pw_add 143 1030
    rwa [show pw 143 = 11150372599265311570767859136324180752990208 by decide] at h
  have hc := tm_c
  rcases Int.lt_trichotomy n 0 with hn | hn | hn
  · obtain ⟨k, rfl⟩ : ∃ k : Nat, n = -(k : Int) := ⟨(-n).toNat, by omega⟩
    obtain ⟨z, r, hz, hr, ha⟩ := quo_neg k (by omega) (by omega)
    have ha := app_cut ha
    have hk := Nat.mul_le_mul_right (pw 1074) (show k ≤ 40000 by omega)
    have hq : kelQ (-(k : Int)) = z := by unfold kelQ; rw [show FloatKind.f64.format = double from rfl, hz]; rfl
    have b1 : r + pw 1061 ≤ 4805305618032230 * pw 1030 := by
      generalize k * pw 1074 = N at *
      rw [a1]
      rw [e74] at hk
      generalize pw 1030 = P at *
      omega
    have b2 : 4805305618032230 * pw 1030 < pw 1173 := by
      rw [a2]
      exact Nat.mul_lt_mul_of_pos_right (by decide) hP
    obtain ⟨y, R, hy, hR, hcl⟩ := sub_tm hr hc b1 b2
    have hk2 : kelN (-(k : Int)) = y := by unfold kelN; rw [hq, show FloatKind.f64.format = double from rfl, hy]; rfl
    have hle : r ≤ 4805305618032230 * pw 1030 := Nat.le_trans (Nat.le_add_right _ _) b1
    refine ⟨R, r, 4805305618032230 * pw 1030 - r, by rw [hk2]; exact hR.num, hcl, .inr ⟨hn, Nat.sub_add_cancel hle, ?_⟩⟩
    rw [show (-(-(k : Int))).toNat = k by omega]
    exact ha
  · subst hn
    have hq : kelQ 0 = 0 := by decide +kernel
    have b2 : 0 + 4805305618032230 * pw 1030 < pw 1173 := by
      rw [a2, Nat.zero_add]
      exact Nat.mul_lt_mul_of_pos_right (by decide) hP
    obtain ⟨y, R, hy, hR, hcl⟩ := add_tm zero_num hc (by rw [a1]; exact Nat.mul_le_mul_right _ (by decide)) b2
    have hk2 : kelN 0 = y := by unfold kelN; rw [hq, show FloatKind.f64.format = double from rfl, hy]; rfl
    exact ⟨R, 0, _, by rw [hk2]; exact hR.num, hcl, .inl ⟨by omega, rfl, by simp, by simp⟩⟩
  · obtain ⟨k, rfl⟩ : ∃ k : Nat, n = (k : Int) := ⟨n.toNat, by omega⟩
    obtain ⟨z, r, hz, hr, ha⟩ := quo_pos k (by omega) (by omega)
    have ha := app_cut ha
    have hk := Nat.mul_le_mul_right (pw 1074) (show k ≤ 110000 by omega)
    have hq : kelQ (k : Int) = z := by unfold kelQ; rw [show FloatKind.f64.format = double from rfl, hz]; rfl
    have b2 : r + 4805305618032230 * pw 1030 < pw 1173 := by
      generalize k * pw 1074 = N at *
      rw [a2]
      rw [e74] at hk
      generalize pw 1030 = P at *
      omega
    obtain ⟨y, R, hy, hR, hcl⟩ := add_tm hr.num hc (by rw [a1]; exact Nat.mul_le_mul_right _ (by decide)) b2
    have hk2 : kelN (k : Int) = y := by unfold kelN; rw [hq, show FloatKind.f64.format = double from rfl, hy]; rfl
    exact ⟨R, r, _, by rw [hk2]; exact hR.num, hcl, .inl ⟨by omega, rfl, ha⟩⟩
section
variable {R R' s s' q q' N M T P : Nat}
theorem kel_pp (_hP : 0 < P) (hT : T = 17592186044416 * P) (c1 : R * 4503599627370496 ≤ s * 4503599627370496 + s ∧ s * 4503599627370496 ≤ R * 4503599627370496 + s) (c2 : R' * 4503599627370496 ≤ s' * 4503599627370496 + s' ∧ s' * 4503599627370496 ≤ R' * 4503599627370496 + s')
    (h1 : s = q + 4805305618032230 * P) (h2 : s' = q' + 4805305618032230 * P) (qa : 1099511627776000 * q ≤ 1099511627777 * N) (qb : 1099511627775 * M ≤ 1099511627776000 * q') (g : N + T ≤ M) (u : M ≤ 110000 * T) : R ≤ R' := by
  omega
theorem kel_np (_hP : 0 < P) (hT : T = 17592186044416 * P) (c1 : R * 4503599627370496 ≤ s * 4503599627370496 + s ∧ s * 4503599627370496 ≤ R * 4503599627370496 + s) (c2 : R' * 4503599627370496 ≤ s' * 4503599627370496 + s' ∧ s' * 4503599627370496 ≤ R' * 4503599627370496 + s')
    (h1 : s + q = 4805305618032230 * P) (h2 : s' = q' + 4805305618032230 * P) (qb : 1099511627775 * N ≤ 1099511627776000 * q) (_qa : 1099511627776000 * q' ≤ 1099511627777 * M) (g : T ≤ N) (_u : M ≤ 110000 * T) : R ≤ R' := by
  omega
theorem kel_nn (_hP : 0 < P) (hT : T = 17592186044416 * P) (c1 : R * 4503599627370496 ≤ s * 4503599627370496 + s ∧ s * 4503599627370496 ≤ R * 4503599627370496 + s) (c2 : R' * 4503599627370496 ≤ s' * 4503599627370496 + s' ∧ s' * 4503599627370496 ≤ R' * 4503599627370496 + s')
    (h1 : s + q = 4805305618032230 * P) (h2 : s' + q' = 4805305618032230 * P) (qb : 1099511627775 * N ≤ 1099511627776000 * q) (qa : 1099511627776000 * q' ≤ 1099511627777 * M) (g : M + T ≤ N) : R ≤ R' := by
  omega
end
theorem kel_mono {a b : Int} (h0 : -40000 ≤ a) (h : a ≤ b) (h1 : b ≤ 110000) : (double.order (kelN a) (kelN b) == some .gt) = false := by
  rcases Int.lt_or_eq_of_le h with hab | rfl
  · obtain ⟨R, q, s, hr, hc, hs⟩ := kv_all a h0 (by omega)
    obtain ⟨R', q', s', hr', hc', hs'⟩ := kv_all b (by omega) h1
    refine not_gt hr hr' ?_
    have hc := close_num hc
    have hc' := close_num hc'
    have e74 := pw_74
    have hP := pw_pos 1030
    rcases hs with ⟨sa, hs, qa, qb⟩ | ⟨sa, hs, qa, qb⟩ <;> rcases hs' with ⟨sb, hs', qa', qb'⟩ | ⟨sb, hs', qa', qb'⟩
    · have g := Nat.mul_le_mul_right (pw 1074) (show a.toNat + 1 ≤ b.toNat by omega)
      have u := Nat.mul_le_mul_right (pw 1074) (show b.toNat ≤ 110000 by omega)
      rw [Nat.succ_mul] at g
      exact kel_pp hP e74 hc hc' hs hs' qa qb' g u
    · exfalso; omega
    · have g := Nat.mul_le_mul_right (pw 1074) (show 1 ≤ (-a).toNat by omega)
      have u := Nat.mul_le_mul_right (pw 1074) (show b.toNat ≤ 110000 by omega)
      rw [Nat.one_mul] at g
      exact kel_np hP e74 hc hc' hs hs' qb qa' g u
    · have g := Nat.mul_le_mul_right (pw 1074) (show (-b).toNat + 1 ≤ (-a).toNat by omega)
      rw [Nat.succ_mul] at g
      exact kel_nn hP e74 hc hc' hs hs' qb qa' g
  · obtain ⟨R, q, s, hr, _, _⟩ := kv_all a h0 h1
    exact not_gt hr hr (Nat.le_refl _)
end Go.Proofs.YtkloihfnngbceaaDoor.Fl
