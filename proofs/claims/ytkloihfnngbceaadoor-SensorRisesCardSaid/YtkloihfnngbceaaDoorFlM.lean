/- Floats as whole numbers of the least place: what rounding may turn. No program. -/
import Derived.Laws.FloatArith
namespace Go.Proofs.YtkloihfnngbceaaDoor.Fl
open Ieee

/-- The word stands for a number above nought or for nought: n times the least place, 2 to the power -1074. -/
def Is (x n : Nat) : Prop := ∃ m e, double.read x = .number false m e ∧ -1074 ≤ e ∧ n = m * 2 ^ (e + 1074).toNat
theorem shl (m k : Nat) : m <<< k = m * 2 ^ k := Nat.shiftLeft_eq m k
theorem shr (m k : Nat) : m / (1 <<< k) = m / 2 ^ k := by rw [Nat.one_shiftLeft]
theorem pow_add' (a b : Nat) : 2 ^ (a + b) = 2 ^ a * 2 ^ b := Nat.pow_add 2 a b
theorem toNat_add (e : Int) (a : Nat) (h : -1074 ≤ e) : (e + a + 1074).toNat = (e + 1074).toNat + a := by omega

/-- What is kept of a number that is rounded: of 'mag' with k digits beyond 53 the nearest whole number of 2 ^ k. -/
theorem cut_near (mag k : Nat) (hk : k ≤ mag.log2) : ∃ q, Toward.even.cut false mag k = q ∧ q * 2 ^ k ≤ mag + 2 ^ k ∧ mag ≤ q * 2 ^ k + 2 ^ k ∧ mag / 2 ^ k ≤ q ∧ q ≤ mag / 2 ^ k + 1 := by
  refine ⟨_, rfl, ?_⟩
  unfold Toward.cut
  rw [show min k (mag.log2 + 2) = k by omega]
  simp only [Nat.one_shiftLeft]
  have hp : 0 < 2 ^ k := Nat.two_pow_pos k
  have hd := Nat.div_add_mod mag (2 ^ k)
  have hm := Nat.mod_lt mag hp
  generalize hq : mag / 2 ^ k = q at *
  generalize hr : mag % 2 ^ k = r at *
  generalize 2 ^ k = p at *
  have hc : q * p = p * q := Nat.mul_comm _ _
  have h1 : (q + 1) * p = p * q + p := by rw [Nat.add_mul, Nat.one_mul, hc]
  cases hb : (decide (p < 2 * r) || (p == 2 * r && q % 2 == 1))
  · simp only [Bool.toNat_false, Nat.add_zero]
    refine ⟨?_, ?_, ?_, ?_⟩ <;> first | omega | (rw [hc]; omega)
  · simp only [Bool.toNat_true]
    refine ⟨?_, ?_, ?_, ?_⟩ <;> first | omega | (rw [h1]; omega)

/-- A rung read back: 'k' of them above the foot of a binade whose last digit is at place q. -/
theorem read_rung (q k : Nat) (hk0 : 2 ^ 52 ≤ k) (hk1 : k ≤ 2 ^ 53) (hq : q ≤ 2000) : Is (q * double.binade + k) (k * 2 ^ q) := by
  have hb : double.binade = 4503599627370496 := by decide
  have hi : double.infRung = 9218868437227405312 := by decide
  have hs : double.signWeight = 9223372036854775808 := by decide
  have e52 : (2 : Nat) ^ 52 = 4503599627370496 := by decide
  have e53 : (2 : Nat) ^ 53 = 9007199254740992 := by decide
  rw [e52] at hk0
  rw [e53] at hk1
  unfold Is Format.read
  rw [hb, hi, hs]
  have h1 : (q * 4503599627370496 + k) % 9223372036854775808 = q * 4503599627370496 + k := Nat.mod_eq_of_lt (by omega)
  have h2 : (q * 4503599627370496 + k) / 9223372036854775808 = 0 := Nat.div_eq_of_lt (by omega)
  rw [h1, h2]
  dsimp only
  rw [if_neg (by omega), if_pos (by omega)]
  have hl : double.leastPlace = -1074 := by decide
  rw [hl]
  by_cases h3 : k = 9007199254740992
  · subst h3
    refine ⟨_, _, rfl, by omega, ?_⟩
    rw [show (q * 4503599627370496 + 9007199254740992) % 4503599627370496 = 0 by omega, show ((q * 4503599627370496 + 9007199254740992) / 4503599627370496 - 1 : Nat) = q + 1 by omega]
    rw [show (-1074 + ((q + 1 : Nat) : Int) + 1074).toNat = 1 + q by omega, Nat.pow_add]
    omega
  · refine ⟨_, _, rfl, by omega, ?_⟩
    rw [show 4503599627370496 + (q * 4503599627370496 + k) % 4503599627370496 = k by omega, show ((q * 4503599627370496 + k) / 4503599627370496 - 1 : Nat) = q by omega]
    rw [show (-1074 + ((q : Nat) : Int) + 1074).toNat = q by omega]
theorem log2_mul_pow (a b : Nat) (h : a ≠ 0) : (a * 2 ^ b).log2 = a.log2 + b := by
  have hp : 0 < 2 ^ b := Nat.two_pow_pos b
  have h2 : a * 2 ^ b ≠ 0 := Nat.mul_ne_zero h (by omega)
  refine (Nat.log2_eq_iff h2).2 ⟨?_, ?_⟩
  · rw [Nat.pow_add]
    exact Nat.mul_le_mul_right _ (Nat.log2_self_le h)
  · rw [show a.log2 + b + 1 = (a.log2 + 1) + b by omega, Nat.pow_add]
    exact Nat.mul_lt_mul_of_pos_right Nat.lt_log2_self hp
/-- A word that stands for a number with 53 digits. -/
def Nm (x n : Nat) : Prop := ∃ m e, double.read x = .number false m e ∧ 2 ^ 52 ≤ m ∧ m < 2 ^ 53 ∧ -1074 ≤ e ∧ n = m * 2 ^ (e + 1074).toNat
theorem Nm.is {x n : Nat} (h : Nm x n) : Is x n := by
  obtain ⟨m, e, h1, _, _, h4, h5⟩ := h
  exact ⟨m, e, h1, h4, h5⟩
theorem rung_nm (q k : Nat) (hk0 : 2 ^ 52 ≤ k) (hk1 : k ≤ 2 ^ 53) (hq : q ≤ 2000) : Nm (q * double.binade + k) (k * 2 ^ q) := by
  have hb : double.binade = 4503599627370496 := by decide
  have hi : double.infRung = 9218868437227405312 := by decide
  have hs : double.signWeight = 9223372036854775808 := by decide
  have e52 : (2 : Nat) ^ 52 = 4503599627370496 := by decide
  have e53 : (2 : Nat) ^ 53 = 9007199254740992 := by decide
  unfold Nm Format.read
  rw [e52] at hk0 ⊢
  rw [e53] at hk1 ⊢
  rw [hb, hi, hs]
  have h1 : (q * 4503599627370496 + k) % 9223372036854775808 = q * 4503599627370496 + k := Nat.mod_eq_of_lt (by omega)
  have h2 : (q * 4503599627370496 + k) / 9223372036854775808 = 0 := Nat.div_eq_of_lt (by omega)
  rw [h1, h2]
  dsimp only
  rw [if_neg (by omega), if_pos (by omega)]
  have hl : double.leastPlace = -1074 := by decide
  rw [hl]
  by_cases h3 : k = 9007199254740992
  · subst h3
    refine ⟨_, _, rfl, by omega, by omega, by omega, ?_⟩
    rw [show (q * 4503599627370496 + 9007199254740992) % 4503599627370496 = 0 by omega, show ((q * 4503599627370496 + 9007199254740992) / 4503599627370496 - 1 : Nat) = q + 1 by omega]
    rw [show (-1074 + ((q + 1 : Nat) : Int) + 1074).toNat = 1 + q by omega, Nat.pow_add]
    omega
  · refine ⟨_, _, rfl, by omega, by omega, by omega, ?_⟩
    rw [show 4503599627370496 + (q * 4503599627370496 + k) % 4503599627370496 = k by omega, show ((q * 4503599627370496 + k) / 4503599627370496 - 1 : Nat) = q by omega]
    rw [show (-1074 + ((q : Nat) : Int) + 1074).toNat = q by omega]
theorem word_min (q k : Nat) (hq : q ≤ 2000) (hk : k ≤ 2 ^ 53) : double.word false (min (q * double.binade + k) double.infRung) = q * double.binade + k := by
  have e53 : (2 : Nat) ^ 53 = 9007199254740992 := by decide
  have hi : double.infRung = 9218868437227405312 := by decide
  have hb : double.binade = 4503599627370496 := by decide
  rw [e53] at hk
  have h : q * double.binade + k ≤ double.infRung := by rw [hi, hb]; omega
  rw [Nat.min_eq_left h]
  rfl
/-- Rounding turns a number by one part in 2 ^ 52 at most. -/
def Close (r N : Nat) : Prop := r * 2 ^ 52 ≤ N * 2 ^ 52 + N ∧ N * 2 ^ 52 ≤ r * 2 ^ 52 + N
theorem close_of {X mag P : Nat} (C A : Nat) (h : P * C ≤ mag) (q1 : X ≤ mag + P) (q2 : mag ≤ X + P) : X * A * C ≤ mag * A * C + mag * A ∧ mag * A * C ≤ X * A * C + mag * A := by
  have t1 := Nat.mul_le_mul_right A (Nat.le_trans (Nat.mul_le_mul_right C q1) (show (mag + P) * C ≤ mag * C + mag by rw [Nat.add_mul]; exact Nat.add_le_add_left h _))
  have t2 := Nat.mul_le_mul_right A (Nat.le_trans (Nat.mul_le_mul_right C q2) (show (X + P) * C ≤ X * C + mag by rw [Nat.add_mul]; exact Nat.add_le_add_left h _))
  rw [Nat.add_mul] at t1 t2
  rw [Nat.mul_right_comm X, Nat.mul_right_comm mag]
  exact ⟨t1, t2⟩
theorem near_is (mag : Nat) (place : Int) (hm : mag ≠ 0) (hp : -1074 ≤ place) (h1 : 52 ≤ (mag * 2 ^ (place + 1074).toNat).log2) (h2 : (mag * 2 ^ (place + 1074).toNat).log2 ≤ 1974) :
    ∃ r, Nm (double.nearest false mag place) r ∧ Close r (mag * 2 ^ (place + 1074).toNat) ∧ (mag.log2 ≤ 52 → r = mag * 2 ^ (place + 1074).toNat) := by
  rw [log2_mul_pow _ _ hm] at h1 h2
  have hl : double.leastPlace = -1074 := by decide
  have hf : double.fractionBits = 52 := by decide
  have hi : double.infRung = 9218868437227405312 := by decide
  have hb : double.binade = 4503599627370496 := by decide
  have e52 : (2 : Nat) ^ 52 = 4503599627370496 := by decide
  have e53 : (2 : Nat) ^ 53 = 9007199254740992 := by decide
  have hlo := Nat.log2_self_le hm
  have hhi := @Nat.lt_log2_self mag
  obtain ⟨a, ha⟩ : ∃ a, a = (place + 1074).toNat := ⟨_, rfl⟩
  have hpa : place = (a : Int) - 1074 := by omega
  rw [← ha] at h1 h2 ⊢
  unfold Format.nearest
  rw [if_neg hm, hl, hf]
  subst hpa
  generalize hL : mag.log2 = L at *
  rw [show max ((a : Int) - 1074 + (L : Int) - ((52 : Nat) : Int)) (-1074) = (a : Int) + L - 1126 by omega]
  obtain ⟨q, hq⟩ : ∃ q, q + 52 = a + L := ⟨a + L - 52, by omega⟩
  dsimp only
  rw [show ((a : Int) + L - 1126 - -1074).toNat = q by omega]
  have fin := fun k hk1 => word_min q k (by omega) hk1
  by_cases hc : L ≤ 52
  · rw [show ((a : Int) + L - 1126 - (a - 1074)).toNat = 0 by omega, show ((a : Int) - 1074 - (a + L - 1126)).toNat = 52 - L by omega, shl]
    have hcut : ∀ n, Toward.even.cut false n 0 = n := by
      intro n
      unfold Toward.cut
      simp
      omega
    rw [hcut]
    have k0 : 2 ^ 52 ≤ mag * 2 ^ (52 - L) := by
      have : 2 ^ L * 2 ^ (52 - L) = 2 ^ 52 := by rw [← Nat.pow_add]; congr 1; omega
      rw [← this]
      exact Nat.mul_le_mul_right _ hlo
    have k1 : mag * 2 ^ (52 - L) ≤ 2 ^ 53 := by
      have : 2 ^ (L + 1) * 2 ^ (52 - L) = 2 ^ 53 := by rw [← Nat.pow_add]; congr 1; omega
      rw [← this]
      exact Nat.mul_le_mul_right _ (Nat.le_of_lt hhi)
    rw [fin _ k1]
    refine ⟨_, rung_nm q _ k0 k1 (by omega), ?_⟩
    rw [Nat.mul_assoc, ← Nat.pow_add, show 52 - L + q = a by omega]
    exact ⟨⟨Nat.le_add_right _ _, Nat.le_add_right _ _⟩, fun _ => rfl⟩
  · obtain ⟨k, hk⟩ : ∃ k, L = k + 52 := ⟨L - 52, by omega⟩
    subst hk
    rw [show ((a : Int) + (k + 52 : Nat) - 1126 - (a - 1074)).toNat = k by omega, show ((a : Int) - 1074 - (a + (k + 52 : Nat) - 1126)).toNat = 0 by omega, shl, Nat.pow_zero, Nat.mul_one]
    obtain ⟨Q, hQ, q1, q2, q3, q4⟩ := cut_near mag k (by omega)
    rw [hQ]
    have hpk : 0 < 2 ^ k := Nat.two_pow_pos k
    have d0 : 2 ^ 52 ≤ mag / 2 ^ k := by
      rw [Nat.le_div_iff_mul_le hpk, ← Nat.pow_add, Nat.add_comm]
      exact hlo
    have d1 : mag / 2 ^ k < 2 ^ 53 := by
      rw [Nat.div_lt_iff_lt_mul hpk, ← Nat.pow_add, show 53 + k = k + 52 + 1 by omega]
      exact hhi
    rw [fin Q (by omega)]
    refine ⟨_, rung_nm q _ (by omega) (by omega) (by omega), ?_⟩
    rw [show q = k + a by omega, Nat.pow_add, ← Nat.mul_assoc]
    have hlo2 : 2 ^ k * 2 ^ 52 ≤ mag := by rw [← Nat.pow_add]; exact hlo
    unfold Close
    exact ⟨close_of (2 ^ 52) (2 ^ a) hlo2 q1 q2, fun h => absurd h (by omega)⟩
end Go.Proofs.YtkloihfnngbceaaDoor.Fl
