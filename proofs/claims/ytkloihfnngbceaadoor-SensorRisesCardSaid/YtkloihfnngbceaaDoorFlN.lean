/- Floats: quotient, sum, product, order of words that stand for numbers of 53 digits. No program. -/
import Derived.Test.YtkloihfnngbceaaDoorFlM
namespace Go.Proofs.YtkloihfnngbceaaDoor.Fl
open Ieee

def pw (k : Nat) : Nat := 2 ^ k
theorem pw_def (k : Nat) : 2 ^ k = pw k := rfl
theorem pw_add (a b : Nat) : pw (a + b) = pw a * pw b := Nat.pow_add 2 a b
theorem pw_pos (a : Nat) : 0 < pw a := Nat.two_pow_pos a
theorem pw_le {a b : Nat} (h : a ≤ b) : pw a ≤ pw b := Nat.pow_le_pow_right (by decide) h
theorem pw_lt {a b : Nat} (h : a < b) : pw a < pw b := Nat.pow_lt_pow_right (by decide) h
theorem pw52 : pw 52 = 4503599627370496 := by decide
theorem pw53 : pw 53 = 9007199254740992 := by decide
/-- Within the range in which nothing here over- or underflows. -/
def Tm (x n : Nat) : Prop := ∃ m e, double.read x = .number false m e ∧ pw 52 ≤ m ∧ m < pw 53 ∧ -100 ≤ e ∧ e ≤ 100 ∧ n = m * pw (e + 1074).toNat
theorem tm_of {x n : Nat} (h : Nm x n) (h1 : pw 1060 ≤ n) (h2 : n ≤ pw 1174) : Tm x n := by
  obtain ⟨m, e, hr, m1, m2, he, hn⟩ := h
  rw [pw_def] at m1 m2 hn
  refine ⟨m, e, hr, m1, m2, ?_, ?_, hn⟩
  · apply Classical.byContradiction
    intro hc
    have : m * pw (e + 1074).toNat < pw 53 * pw 980 := Nat.mul_lt_mul_of_lt_of_le m2 (pw_le (by omega)) (pw_pos _)
    rw [← hn, ← pw_add] at this
    have h3 : pw (53 + 980) ≤ pw 1060 := pw_le (by decide)
    omega
  · apply Classical.byContradiction
    intro hc
    have : pw 52 * pw 1175 ≤ m * pw (e + 1074).toNat := Nat.mul_le_mul m1 (pw_le (by omega))
    rw [← hn, ← pw_add] at this
    have h3 : pw 1174 < pw (52 + 1175) := pw_lt (by decide)
    omega
theorem log2_rng {N a b : Nat} (h1 : pw a ≤ N) (h2 : N < pw (b + 1)) : a ≤ N.log2 ∧ N.log2 ≤ b := by
  have h0 : N ≠ 0 := by have := pw_pos a; omega
  exact ⟨(Nat.le_log2 h0).2 h1, by have := (Nat.log2_lt h0).2 h2; omega⟩
theorem near_tm (mag : Nat) (place : Int) (hm : mag ≠ 0) (hp : -1074 ≤ place) (h1 : pw 1061 ≤ mag * pw (place + 1074).toNat) (h2 : mag * pw (place + 1074).toNat < pw 1173) :
    ∃ r, Tm (double.nearest false mag place) r ∧ Close r (mag * pw (place + 1074).toNat) ∧ (mag.log2 ≤ 52 → r = mag * pw (place + 1074).toNat) := by
  have hr := log2_rng (b := 1172) h1 h2
  obtain ⟨r, hr1, hr2, hr3⟩ := near_is mag place hm hp (by rw [pw_def]; omega) (by rw [pw_def]; omega)
  rw [pw_def] at hr2 hr3
  refine ⟨r, tm_of hr1 ?_ ?_, hr2, hr3⟩
  · have := hr2.2
    rw [pw_def, pw52] at this
    have e : pw 1061 = pw 1 * pw 1060 := pw_add 1 1060
    rw [show pw 1 = 2 by decide] at e
    omega
  · have := hr2.1
    rw [pw_def, pw52] at this
    have e : pw 1174 = pw 1 * pw 1173 := pw_add 1 1173
    rw [show pw 1 = 2 by decide] at e
    omega
/-- A whole number as a float: itself. -/
theorem int_tm (n : Nat) (h1 : 1 ≤ n) (h2 : n < pw 53) : Tm (floatOfInt .f64 (n : Int)) (n * pw 1074) := by
  have h0 : n ≠ 0 := by omega
  have e : ((0 : Int) + 1074).toNat = 1074 := rfl
  have l1 : pw 1061 ≤ n * pw 1074 := Nat.le_trans (pw_le (by decide)) (Nat.le_mul_of_pos_left _ h1)
  have l2 : n * pw 1074 < pw 1173 := by
    have := Nat.mul_lt_mul_of_pos_right h2 (pw_pos 1074)
    rw [← pw_add] at this
    exact Nat.lt_of_lt_of_le this (pw_le (by decide))
  obtain ⟨r, hr1, _, hr3⟩ := near_tm n 0 h0 (by decide) (by rw [e]; exact l1) (by rw [e]; exact l2)
  have hl : n.log2 ≤ 52 := by have := (Nat.log2_lt h0).2 h2; omega
  have := hr3 hl
  rw [e] at this
  rw [this] at hr1
  rw [show floatOfInt .f64 (n : Int) = double.nearest (decide ((n : Int) < 0)) (n : Int).natAbs 0 from rfl, decide_eq_false (by omega), show (n : Int).natAbs = n from rfl]
  exact hr1
/-- a and b part by e parts in 2 ^ 40 of b at most. -/
def App (e a b : Nat) : Prop := a * 1099511627776 ≤ b * 1099511627776 + b * e ∧ b * 1099511627776 ≤ a * 1099511627776 + b * e
theorem close_num {r N : Nat} (h : Close r N) : r * 4503599627370496 ≤ N * 4503599627370496 + N ∧ N * 4503599627370496 ≤ r * 4503599627370496 + N := by
  have := h
  unfold Close at this
  rw [pw_def, pw52] at this
  exact this
theorem app_of {rk Vk N : Nat} (r1 : rk * 4503599627370496 ≤ Vk * 4503599627370496 + Vk) (r2 : Vk * 4503599627370496 ≤ rk * 4503599627370496 + Vk)
    (h1 : Vk * 4503599627370496 ≤ N * 4503599627370496 + N) (h2 : N * 4503599627370496 ≤ Vk * 4503599627370496 + N) : App 1 rk N := by
  unfold App
  omega
/-- The quotient. -/
theorem div_tm {x y n k : Nat} (hx : Tm x n) (hy : Tm y k) (h1 : k * 4 ≤ n) (h2 : n ≤ k * pw 60) :
    ∃ z r, double.div x y = some z ∧ Tm z r ∧ App 1 (r * k) (n * pw 1074) := by
  obtain ⟨m, i, hrx, m1, m2, i1, i2, rfl⟩ := hx
  obtain ⟨m', j, hry, n1, n2, j1, j2, rfl⟩ := hy
  have hm' : m' ≠ 0 := by have := pw_pos 52; omega
  have hm : m ≠ 0 := by have := pw_pos 52; omega
  have lm := log2_rng (b := 52) m1 m2
  have ln := log2_rng (b := 52) n1 n2
  have hll : m.log2 = 52 := by omega
  have hln : m'.log2 = 52 := by omega
  have hf : double.fractionBits = 52 := by decide
  unfold Format.div
  rw [hrx, hry]
  simp only [Datum.quotient, if_neg hm', hf, hll, hln, show (52 + 2 + 52 - 52 : Nat) = 54 from rfl, shl, pw_def]
  simp only [Option.map, Format.write]
  rw [show (false ^^ false) = false from rfl]
  have hq := Nat.div_add_mod (m * pw 54) m'
  have hr := Nat.mod_lt (m * pw 54) (Nat.pos_of_ne_zero hm')
  have hbool : ((m * pw 54 % m' != 0).toNat = 0 ∧ m * pw 54 % m' = 0) ∨ ((m * pw 54 % m' != 0).toNat = 1 ∧ m * pw 54 % m' ≠ 0) := by
    by_cases h : m * pw 54 % m' = 0
    · left; rw [h]; exact ⟨rfl, rfl⟩
    · right; exact ⟨by rw [show (m * pw 54 % m' != 0) = true by simpa using h]; rfl, h⟩
  generalize (m * pw 54 % m' != 0).toNat = bt at hbool ⊢
  generalize m * pw 54 % m' = rm at hq hr hbool
  generalize m * pw 54 / m' = q at hq ⊢
  -- Q * m' is near 2 * m * 2 ^ 54
  have hQ1 : (2 * q + bt) * m' ≤ 2 * (m * pw 54) + m' := by
    rw [Nat.add_mul, Nat.mul_assoc, Nat.mul_comm q m']
    rcases hbool with ⟨h, h'⟩ | ⟨h, h'⟩ <;> rw [h] <;> omega
  have hQ2 : 2 * (m * pw 54) ≤ (2 * q + bt) * m' + m' := by
    rw [Nat.add_mul, Nat.mul_assoc, Nat.mul_comm q m']
    rcases hbool with ⟨h, h'⟩ | ⟨h, h'⟩ <;> rw [h] <;> omega
  clear hq hr hbool
  generalize 2 * q + bt = Q at hQ1 hQ2 ⊢
  obtain ⟨a, ha⟩ : ∃ a, a = (i + 1074).toNat := ⟨_, rfl⟩
  obtain ⟨b, hb⟩ : ∃ b, b = (j + 1074).toNat := ⟨_, rfl⟩
  obtain ⟨p, hp⟩ : ∃ p, p = (i - j - (54 : Nat) - 1 + 1074).toNat := ⟨_, rfl⟩
  rw [← ha, ← hb] at h1 h2
  rw [← ha, ← hb]
  have hsum : a + 1074 = p + b + 55 := by omega
  have hN : m * pw a * pw 1074 = 2 * (m * pw 54) * pw (p + b) := by
    rw [Nat.mul_assoc, ← pw_add, hsum, show p + b + 55 = 1 + (54 + (p + b)) by omega, pw_add 1, pw_add 54, show pw 1 = 2 by decide, ← Nat.mul_assoc m 2, Nat.mul_comm m 2, Nat.mul_assoc 2 m, Nat.mul_assoc 2 (m * pw 54), Nat.mul_assoc m (pw 54)]
  have hV : Q * pw p * (m' * pw b) = Q * m' * pw (p + b) := by
    rw [pw_add, Nat.mul_mul_mul_comm]
  have hm'C : m' * 4503599627370496 ≤ 2 * (m * pw 54) := by
    have e54 : pw 54 = 18014398509481984 := by decide
    rw [pw52] at m1
    rw [pw53] at n2
    rw [e54]
    omega
  have hc := close_of (X := Q * m') (mag := 2 * (m * pw 54)) (P := m') 4503599627370496 (pw (p + b)) hm'C hQ1 hQ2
  rw [← hN, ← hV] at hc
  have hkT := Nat.mul_le_mul_right (pw 1074) h1
  have hkT2 := Nat.mul_le_mul_right (pw 1074) h2
  have hk0 : 0 < m' * pw b := Nat.mul_pos (Nat.pos_of_ne_zero hm') (pw_pos b)
  have c1 : m' * pw b * 4 * pw 1074 = 4 * (m' * pw b * pw 1074) := by rw [Nat.mul_comm (m' * pw b) 4, Nat.mul_assoc]
  have v1 : pw 1075 ≤ Q * pw p := by
    have e : pw 1075 = 2 * pw 1074 := by have := pw_add 1 1074; rw [show pw 1 = 2 by decide] at this; exact this
    refine Nat.le_of_mul_le_mul_right (c := m' * pw b) ?_ hk0
    rw [e, Nat.mul_assoc, Nat.mul_comm (pw 1074)]
    omega
  have v2 : Q * pw p < pw 1173 := by
    have e : pw 1173 = pw 39 * (pw 60 * pw 1074) := by rw [← pw_add, ← pw_add]
    refine Nat.lt_of_mul_lt_mul_right (a := m' * pw b) ?_
    rw [e]
    have e39 : pw 39 = 549755813888 := by decide
    have e2 : pw 39 * (pw 60 * pw 1074) * (m' * pw b) = 549755813888 * (m' * pw b * pw 60 * pw 1074) := by
      rw [e39, Nat.mul_assoc, Nat.mul_comm (pw 60 * pw 1074), Nat.mul_assoc (m' * pw b)]
    rw [e2]
    have hpos : 0 < m' * pw b * pw 60 * pw 1074 := Nat.mul_pos (Nat.mul_pos hk0 (pw_pos _)) (pw_pos _)
    omega
  have hQ0 : Q ≠ 0 := by intro h; rw [h, Nat.zero_mul] at v1; have := pw_pos 1075; omega
  replace v1 : pw 1061 ≤ Q * pw p := Nat.le_trans (pw_le (by decide)) v1
  rw [hp] at v1 v2
  obtain ⟨r, hr1, hr2, _⟩ := near_tm Q (i - j - (54 : Nat) - 1) hQ0 (by omega) v1 v2
  rw [← hp] at hr2
  have hc2 := close_num hr2
  refine ⟨_, r, rfl, hr1, ?_⟩
  have r1 := Nat.mul_le_mul_right (m' * pw b) hc2.1
  have r2 := Nat.mul_le_mul_right (m' * pw b) hc2.2
  rw [Nat.add_mul, Nat.mul_right_comm r, Nat.mul_right_comm (Q * pw p)] at r1 r2
  exact app_of r1 r2 hc.1 hc.2
/-- The sum of a number, or nought, and a number. -/
theorem add_tm {x y n k : Nat} (hx : ∃ m e, double.read x = .number false m e ∧ -1074 ≤ e ∧ n = m * pw (e + 1074).toNat) (hy : Tm y k) (h1 : pw 1061 ≤ k) (h2 : n + k < pw 1173) :
    ∃ z r, double.add x y = some z ∧ Tm z r ∧ Close r (n + k) := by
  obtain ⟨m, i, hrx, i1, rfl⟩ := hx
  obtain ⟨m', j, hry, n1, n2, j1, j2, rfl⟩ := hy
  unfold Format.add
  rw [hrx, hry]
  simp only [Datum.sum, signed, Bool.false_eq_true, if_false, shl, pw_def, Bool.and_self, Option.map, Format.write]
  obtain ⟨a, ha⟩ : ∃ a, a = (i - min i j).toNat := ⟨_, rfl⟩
  obtain ⟨b, hb⟩ : ∃ b, b = (j - min i j).toNat := ⟨_, rfl⟩
  obtain ⟨p, hp⟩ : ∃ p, p = (min i j + 1074).toNat := ⟨_, rfl⟩
  rw [← ha, ← hb]
  have ei : (i + 1074).toNat = a + p := by omega
  have ej : (j + 1074).toNat = b + p := by omega
  rw [ei, ej, pw_add, pw_add, ← Nat.mul_assoc, ← Nat.mul_assoc, ← Nat.add_mul] at h2 ⊢
  rw [ej] at h1
  have hm0 : m' * pw b ≠ 0 := Nat.mul_ne_zero (by have := pw_pos 52; omega) (by have := pw_pos b; omega)
  have h1' : pw 1061 ≤ (m * pw a + m' * pw b) * pw p := by
    refine Nat.le_trans h1 ?_
    rw [pw_add, ← Nat.mul_assoc]
    exact Nat.mul_le_mul_right _ (Nat.le_add_left _ _)
  rw [← Int.natCast_add, show (((m * pw a + m' * pw b : Nat) : Int)).natAbs = m * pw a + m' * pw b from rfl]
  have hs : ∀ s : Bool, (if (((m * pw a + m' * pw b : Nat) : Int)) = 0 then false else decide (((m * pw a + m' * pw b : Nat) : Int) < 0)) = false := by
    intro _
    split
    · rfl
    · exact decide_eq_false (by omega)
  rw [hs false]
  generalize m * pw a + m' * pw b = M at h1' h2 ⊢
  have hM : M ≠ 0 := by intro h; rw [h, Nat.zero_mul] at h1'; have := pw_pos 1061; omega
  rw [hp] at h1' h2
  obtain ⟨r, hr1, hr2, _⟩ := near_tm M (min i j) hM (by omega) h1' h2
  rw [← hp] at hr2
  exact ⟨_, r, rfl, hr1, hr2⟩
theorem Tm.num {x n : Nat} (h : Tm x n) : ∃ m e, double.read x = .number false m e ∧ -1074 ≤ e ∧ n = m * pw (e + 1074).toNat := by
  obtain ⟨m, e, h1, _, _, h4, _, h5⟩ := h
  exact ⟨m, e, h1, by omega, h5⟩
theorem zero_num : ∃ m e, double.read 0 = .number false m e ∧ -1074 ≤ e ∧ 0 = m * pw (e + 1074).toNat := ⟨0, -1074, by rfl, by decide, by rw [Nat.zero_mul]⟩
/-- The product. -/
theorem mul_tm {x y n k N : Nat} (hx : Tm x n) (hy : Tm y k) (hN : n * k = N * pw 1074) (h1 : pw 1061 ≤ N) (h2 : N < pw 1173) :
    ∃ z r, double.mul x y = some z ∧ Tm z r ∧ Close r N := by
  obtain ⟨m, i, hrx, m1, m2, i1, i2, rfl⟩ := hx
  obtain ⟨m', j, hry, n1, n2, j1, j2, rfl⟩ := hy
  unfold Format.mul
  rw [hrx, hry]
  simp only [Datum.product, Option.map, Format.write]
  rw [show (false ^^ false) = false from rfl]
  obtain ⟨p, hp⟩ : ∃ p, p = (i + j + 1074).toNat := ⟨_, rfl⟩
  have hNN : N = m * m' * pw p := by
    refine Nat.eq_of_mul_eq_mul_right (pw_pos 1074) ?_
    rw [← hN, Nat.mul_mul_mul_comm, ← pw_add, Nat.mul_assoc (m * m'), ← pw_add]
    congr 2
    omega
  rw [hNN, hp] at h1 h2
  have hm0 : m * m' ≠ 0 := Nat.mul_ne_zero (by have := pw_pos 52; omega) (by have := pw_pos 52; omega)
  obtain ⟨r, hr1, hr2, _⟩ := near_tm (m * m') (i + j) hm0 (by omega) h1 h2
  rw [← hp, ← hNN] at hr2
  exact ⟨_, r, rfl, hr1, hr2⟩
/-- How two of them stand to each other. -/
theorem order_is {x y n k : Nat} (hx : ∃ m e, double.read x = .number false m e ∧ -1074 ≤ e ∧ n = m * pw (e + 1074).toNat) (hy : ∃ m e, double.read y = .number false m e ∧ -1074 ≤ e ∧ k = m * pw (e + 1074).toNat) :
    ∃ (a b p : Nat), double.order x y = some (compare (a : Int) (b : Int)) ∧ n = a * pw p ∧ k = b * pw p := by
  obtain ⟨m, i, hrx, i1, rfl⟩ := hx
  obtain ⟨m', j, hry, j1, rfl⟩ := hy
  unfold Format.order
  rw [hrx, hry]
  simp only [Datum.order, signed, Bool.false_eq_true, if_false, shl, pw_def]
  refine ⟨_, _, (min i j + 1074).toNat, rfl, ?_, ?_⟩
  · rw [Nat.mul_assoc, ← pw_add]
    congr 2
    omega
  · rw [Nat.mul_assoc, ← pw_add]
    congr 2
    omega
theorem cmp_gt (a b : Int) (h : a ≤ b) : (some (compare a b) == some Ordering.gt) = false := by
  rw [show compare a b = if a < b then .lt else if a = b then .eq else .gt from rfl]
  split
  · rfl
  · rw [if_pos (by omega)]; rfl
theorem cmp_lt (a b : Int) (h : b ≤ a) : (some (compare a b) == some Ordering.lt) = false := by
  rw [show compare a b = if a < b then .lt else if a = b then .eq else .gt from rfl]
  rw [if_neg (by omega)]
  split <;> rfl
theorem not_gt {x y n k : Nat} (hx : ∃ m e, double.read x = .number false m e ∧ -1074 ≤ e ∧ n = m * pw (e + 1074).toNat) (hy : ∃ m e, double.read y = .number false m e ∧ -1074 ≤ e ∧ k = m * pw (e + 1074).toNat) (h : n ≤ k) : (double.order x y == some .gt) = false := by
  obtain ⟨a, b, p, ho, rfl, rfl⟩ := order_is hx hy
  rw [ho]
  have := Nat.le_of_mul_le_mul_right h (pw_pos p)
  exact cmp_gt _ _ (by omega)
theorem not_lt {x y n k : Nat} (hx : ∃ m e, double.read x = .number false m e ∧ -1074 ≤ e ∧ n = m * pw (e + 1074).toNat) (hy : ∃ m e, double.read y = .number false m e ∧ -1074 ≤ e ∧ k = m * pw (e + 1074).toNat) (h : k ≤ n) : (double.order x y == some .lt) = false := by
  obtain ⟨a, b, p, ho, rfl, rfl⟩ := order_is hx hy
  rw [ho]
  have := Nat.le_of_mul_le_mul_right h (pw_pos p)
  exact cmp_lt _ _ (by omega)
theorem order_self {x : Nat} (hx : ∃ s m e, double.read x = .number s m e) : double.order x x = some .eq := by
  obtain ⟨s, m, e, h⟩ := hx
  unfold Format.order
  rw [h]
  simp only [Datum.order]
  generalize signed s m _ = a
  rw [show compare a a = if a < a then .lt else if a = a then .eq else .gt from rfl, if_neg (by omega), if_pos rfl]
end Go.Proofs.YtkloihfnngbceaaDoor.Fl
