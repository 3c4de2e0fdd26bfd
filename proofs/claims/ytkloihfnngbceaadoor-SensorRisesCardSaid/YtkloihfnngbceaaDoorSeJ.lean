/- Kelvins: more thousandths of a degree are more kelvins (P11.3). No program in it. -/
import Derived.Test.YtkloihfnngbceaaDoorFlN
import Derived.Test.YtkloihfnngbceaaDoorSeK
namespace Go.Proofs.YtkloihfnngbceaaDoor.Fl
open Go Ieee

theorem div2_tm {x y n k : Nat} (hx : Tm x n) (hy : Tm y k) (h1 : k ≤ n * 2048) (h2 : n ≤ k * pw 60) :
    ∃ z r, double.div x y = some z ∧ Tm z r ∧ App 1 (r * k) (n * pw 1074) := by
  obtain ⟨m, i, hrx, m1, m2, i1, i2, rfl⟩ := hx
  obtain ⟨m', j, hry, n1, n2, j1, j2, rfl⟩ := hy
  have hm' : m' ≠ 0 := by have := pw_pos 52; omega
  have hm : m ≠ 0 := by have := pw_pos 52; omega
  have lm := log2_rng (b := 52) m1 m2
  have ln := log2_rng (b := 52) n1 n2
  have hll : m.log2 = 52 := by omega
  have hln : m'.log2 = 52 := by omega
  have hf : double.fractionBits = 52 := by decide
  unfold Format.div
  rw [hrx, hry]
  simp only [Datum.quotient, if_neg hm', hf, hll, hln, show (52 + 2 + 52 - 52 : Nat) = 54 from rfl, shl, pw_def]
  simp only [Option.map, Format.write]
  rw [show (false ^^ false) = false from rfl]
  have hq := Nat.div_add_mod (m * pw 54) m'
  have hr := Nat.mod_lt (m * pw 54) (Nat.pos_of_ne_zero hm')
  have hbool : ((m * pw 54 % m' != 0).toNat = 0 ∧ m * pw 54 % m' = 0) ∨ ((m * pw 54 % m' != 0).toNat = 1 ∧ m * pw 54 % m' ≠ 0) := by
    by_cases h : m * pw 54 % m' = 0
    · left; rw [h]; exact ⟨rfl, rfl⟩
    · right; exact ⟨by rw [show (m * pw 54 % m' != 0) = true by simpa using h]; rfl, h⟩
  generalize (m * pw 54 % m' != 0).toNat = bt at hbool ⊢
  generalize m * pw 54 % m' = rm at hq hr hbool
  generalize m * pw 54 / m' = q at hq ⊢
  -- Q * m' is near 2 * m * 2 ^ 54
  have hQ1 : (2 * q + bt) * m' ≤ 2 * (m * pw 54) + m' := by
    rw [Nat.add_mul, Nat.mul_assoc, Nat.mul_comm q m']
    rcases hbool with ⟨h, h'⟩ | ⟨h, h'⟩ <;> rw [h] <;> omega
  have hQ2 : 2 * (m * pw 54) ≤ (2 * q + bt) * m' + m' := by
    rw [Nat.add_mul, Nat.mul_assoc, Nat.mul_comm q m']
    rcases hbool with ⟨h, h'⟩ | ⟨h, h'⟩ <;> rw [h] <;> omega
  clear hq hr hbool
  generalize 2 * q + bt = Q at hQ1 hQ2 ⊢
  obtain ⟨a, ha⟩ : ∃ a, a = (i + 1074).toNat := ⟨_, rfl⟩
  obtain ⟨b, hb⟩ : ∃ b, b = (j + 1074).toNat := ⟨_, rfl⟩
  obtain ⟨p, hp⟩ : ∃ p, p = (i - j - (54 : Nat) - 1 + 1074).toNat := ⟨_, rfl⟩
  rw [← ha, ← hb] at h1 h2
  rw [← ha, ← hb]
  have hsum : a + 1074 = p + b + 55 := by omega
  have hN : m * pw a * pw 1074 = 2 * (m * pw 54) * pw (p + b) := by
    rw [Nat.mul_assoc, ← pw_add, hsum, show p + b + 55 = 1 + (54 + (p + b)) by omega, pw_add 1, pw_add 54, show pw 1 = 2 by decide, ← Nat.mul_assoc m 2, Nat.mul_comm m 2, Nat.mul_assoc 2 m, Nat.mul_assoc 2 (m * pw 54), Nat.mul_assoc m (pw 54)]
  have hV : Q * pw p * (m' * pw b) = Q * m' * pw (p + b) := by
    rw [pw_add, Nat.mul_mul_mul_comm]
  have hm'C : m' * 4503599627370496 ≤ 2 * (m * pw 54) := by
    have e54 : pw 54 = 18014398509481984 := by decide
    rw [pw52] at m1
    rw [pw53] at n2
    rw [e54]
    omega
  have hc := close_of (X := Q * m') (mag := 2 * (m * pw 54)) (P := m') 4503599627370496 (pw (p + b)) hm'C hQ1 hQ2
  rw [← hN, ← hV] at hc
  have hkT := Nat.mul_le_mul_right (pw 1074) h1
  have hkT2 := Nat.mul_le_mul_right (pw 1074) h2
  have hk0 : 0 < m' * pw b := Nat.mul_pos (Nat.pos_of_ne_zero hm') (pw_pos b)
  have v1 : pw 1061 ≤ Q * pw p := by
    have e : pw 1074 = 8192 * pw 1061 := by have := pw_add 13 1061; rw [show pw 13 = 8192 by decide] at this; exact this
    refine Nat.le_of_mul_le_mul_right (c := m' * pw b) ?_ hk0
    have h3 := hc.2
    have h5 : pw 1061 * (m' * pw b) * 8192 ≤ m * pw a * pw 1074 * 2048 := by
      have : m' * pw b * pw 1074 ≤ m * pw a * 2048 * pw 1074 := hkT
      rw [Nat.mul_right_comm (m * pw a)] at this
      refine Nat.le_trans (Nat.le_of_eq ?_) this
      rw [e, Nat.mul_comm (pw 1061), Nat.mul_assoc (m' * pw b), Nat.mul_comm (pw 1061) 8192]
    omega
  have v2 : Q * pw p < pw 1173 := by
    have e : pw 1173 = pw 39 * (pw 60 * pw 1074) := by rw [← pw_add, ← pw_add]
    refine Nat.lt_of_mul_lt_mul_right (a := m' * pw b) ?_
    rw [e]
    have e39 : pw 39 = 549755813888 := by decide
    have e2 : pw 39 * (pw 60 * pw 1074) * (m' * pw b) = 549755813888 * (m' * pw b * pw 60 * pw 1074) := by
      rw [e39, Nat.mul_assoc, Nat.mul_comm (pw 60 * pw 1074), Nat.mul_assoc (m' * pw b)]
    rw [e2]
    have hpos : 0 < m' * pw b * pw 60 * pw 1074 := Nat.mul_pos (Nat.mul_pos hk0 (pw_pos _)) (pw_pos _)
    omega
  have hQ0 : Q ≠ 0 := by intro h; rw [h, Nat.zero_mul] at v1; have := pw_pos 1061; omega
  rw [hp] at v1 v2
  obtain ⟨r, hr1, hr2, _⟩ := near_tm Q (i - j - (54 : Nat) - 1) hQ0 (by omega) v1 v2
  rw [← hp] at hr2
  have hc2 := close_num hr2
  refine ⟨_, r, rfl, hr1, ?_⟩
  have r1 := Nat.mul_le_mul_right (m' * pw b) hc2.1
  have r2 := Nat.mul_le_mul_right (m' * pw b) hc2.2
  rw [Nat.add_mul, Nat.mul_right_comm r, Nat.mul_right_comm (Q * pw p)] at r1 r2
  exact app_of r1 r2 hc.1 hc.2
theorem word_true (r : Nat) : double.word true r = double.signWeight + double.word false r := by
  unfold Format.word
  rw [if_pos rfl, if_neg (by decide)]
theorem nearest_neg (m : Nat) (p : Int) (hm : m ≠ 0) : double.nearest true m p = double.signWeight + double.nearest false m p := by
  have hc : ∀ n d, Toward.even.cut true n d = Toward.even.cut false n d := fun _ _ => rfl
  unfold Format.nearest
  rw [if_neg hm, if_neg hm]
  simp only [hc]
  exact word_true _
theorem word_false (r : Nat) : double.word false r = r := by
  unfold Format.word
  rw [if_neg (by decide)]
theorem nearest_lt (m : Nat) (p : Int) : double.nearest false m p < double.signWeight := by
  have hi : double.infRung < double.signWeight := by decide
  unfold Format.nearest
  by_cases hm : m = 0
  · rw [if_pos hm, word_false]
    exact Nat.lt_of_le_of_lt (Nat.zero_le _) hi
  · rw [if_neg hm]
    simp only [word_false]
    exact Nat.lt_of_le_of_lt (Nat.min_le_right _ _) hi
theorem read_neg {x m : Nat} {e : Int} (hx : x < double.signWeight) (h : double.read x = .number false m e) : double.read (double.signWeight + x) = .number true m e := by
  have e2 : x % double.signWeight = x := Nat.mod_eq_of_lt hx
  have e1 : (double.signWeight + x) % double.signWeight = x := by rw [Nat.add_mod_left]; exact e2
  have e3 : (double.signWeight + x) / double.signWeight % 2 = 1 := by rw [Nat.add_div_left _ (Nat.lt_of_le_of_lt (Nat.zero_le _) hx), Nat.div_eq_of_lt hx]
  have e4 : x / double.signWeight % 2 = 0 := by rw [Nat.div_eq_of_lt hx]
  clear hx
  have hR : ∀ y, y % double.signWeight = x → double.read y = (if x < double.binade then .number (y / double.signWeight % 2 == 1) x double.leastPlace
      else if x < double.infRung then .number (y / double.signWeight % 2 == 1) (double.binade + x % double.binade) (double.leastPlace + (x / double.binade - 1 : Nat))
      else if x = double.infRung then .infinity (y / double.signWeight % 2 == 1) else .nan (y / double.signWeight % 2 == 1) (x - double.infRung)) := by
    intro y hy
    unfold Format.read
    rw [hy]
  rw [hR _ e2, e4] at h
  rw [hR _ e1, e3]
  clear hR e1 e2 e3 e4
  by_cases h1 : x < double.binade
  · rw [if_pos h1] at h ⊢
    injection h with _ h2 h3
    rw [h2, h3]; rfl
  · by_cases h2 : x < double.infRung
    · rw [if_neg h1, if_pos h2] at h ⊢
      injection h with _ h3 h4
      rw [h3, h4]; rfl
    · rw [if_neg h1, if_neg h2] at h
      by_cases h3 : x = double.infRung
      · rw [if_pos h3] at h; cases h
      · rw [if_neg h3] at h; cases h
/-- A number less one. -/
theorem sub_tm {x y n k : Nat} (hx : ∃ m e, double.read x = .number true m e ∧ -1074 ≤ e ∧ n = m * pw (e + 1074).toNat) (hy : Tm y k) (h1 : n + pw 1061 ≤ k) (h2 : k < pw 1173) :
    ∃ z r, double.add x y = some z ∧ Tm z r ∧ Close r (k - n) := by
  obtain ⟨m, i, hrx, i1, rfl⟩ := hx
  obtain ⟨m', j, hry, n1, n2, j1, j2, rfl⟩ := hy
  unfold Format.add
  rw [hrx, hry]
  simp only [Datum.sum, signed, Bool.false_eq_true, if_false, if_true, shl, pw_def, Bool.and_false, Option.map, Format.write]
  obtain ⟨a, ha⟩ : ∃ a, a = (i - min i j).toNat := ⟨_, rfl⟩
  obtain ⟨b, hb⟩ : ∃ b, b = (j - min i j).toNat := ⟨_, rfl⟩
  obtain ⟨p, hp⟩ : ∃ p, p = (min i j + 1074).toNat := ⟨_, rfl⟩
  rw [← ha, ← hb]
  have ei : (i + 1074).toNat = a + p := by omega
  have ej : (j + 1074).toNat = b + p := by omega
  rw [ei, ej, pw_add, pw_add, ← Nat.mul_assoc, ← Nat.mul_assoc] at h1
  rw [ej, pw_add, ← Nat.mul_assoc] at h2
  rw [ei, ej, pw_add, pw_add, ← Nat.mul_assoc, ← Nat.mul_assoc, ← Nat.sub_mul]
  generalize m * pw a = A at *
  generalize m' * pw b = B at *
  have hlt : A < B := by
    refine Nat.lt_of_mul_lt_mul_right (a := pw p) ?_
    have := pw_pos 1061
    omega
  rw [show (-((A : Nat) : Int) + ((B : Nat) : Int)) = ((B - A : Nat) : Int) by omega, show (((B - A : Nat) : Int)).natAbs = B - A from rfl]
  have hs : (if (((B - A : Nat) : Int)) = 0 then false else decide (((B - A : Nat) : Int) < 0)) = false := by
    split
    · rfl
    · exact decide_eq_false (by omega)
  rw [hs]
  have h3 : pw 1061 ≤ (B - A) * pw p := by rw [Nat.sub_mul]; omega
  have h4 : (B - A) * pw p < pw 1173 := by rw [Nat.sub_mul]; omega
  generalize B - A = M at *
  have hM : M ≠ 0 := by intro h; rw [h, Nat.zero_mul] at h3; have := pw_pos 1061; omega
  rw [hp] at h3 h4
  obtain ⟨r, hr1, hr2, _⟩ := near_tm M (min i j) hM (by omega) h3 h4
  rw [← hp] at hr2
  exact ⟨_, r, rfl, hr1, hr2⟩
end Go.Proofs.YtkloihfnngbceaaDoor.Fl
