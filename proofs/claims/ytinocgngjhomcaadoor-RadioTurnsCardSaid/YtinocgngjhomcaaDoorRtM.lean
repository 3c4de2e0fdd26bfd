/- Floats by units and by noughts, exactly: no program in it (for RadioTurns, P12.6). -/
import Derived.Laws.FloatArith
namespace Go.Proofs.YtinocgngjhomcaaDoor.Rt
open Ieee

/-- The word of k * 2 ^ (q - 1074), where k has 53 digits. -/
def W (s : Bool) (k q : Nat) : Nat := double.word s (q * 4503599627370496 + k)
def zero (s : Bool) : Nat := double.word s 0
structure Ok (k q : Nat) : Prop where
  lo : 4503599627370496 ≤ k
  hi : k < 9007199254740992
  q : q ≤ 2000
theorem word_eq (s : Bool) (r : Nat) : double.word s r = if s then 9223372036854775808 + r else r := rfl
theorem word_rung (s : Bool) (r : Nat) (h : r < 9223372036854775808) : double.word s r % double.signWeight = r := by
  show double.word s r % 9223372036854775808 = r
  rw [word_eq]
  cases s
  · simp only [Bool.false_eq_true, if_false]; omega
  · simp only [if_true]; omega
theorem word_sign (s : Bool) (r : Nat) (h : r < 9223372036854775808) : (double.word s r / double.signWeight % 2 == 1) = s := by
  show (double.word s r / 9223372036854775808 % 2 == 1) = s
  rw [word_eq]
  cases s
  · simp only [Bool.false_eq_true, if_false]
    rw [show r / 9223372036854775808 = 0 by omega]
    rfl
  · simp only [if_true]
    rw [show (9223372036854775808 + r) / 9223372036854775808 = 1 by omega]
    rfl
theorem read_W (s : Bool) (k q : Nat) (h : Ok k q) : double.read (W s k q) = .number s k ((q : Int) - 1074) := by
  have h1 := h.lo
  have h2 := h.hi
  have h3 := h.q
  have hr : q * 4503599627370496 + k < 9223372036854775808 := by omega
  unfold Format.read W
  rw [word_rung s _ hr, word_sign s _ hr]
  have e1 : ¬ q * 4503599627370496 + k < double.binade := by
    show ¬ q * 4503599627370496 + k < 4503599627370496
    omega
  have e2 : q * 4503599627370496 + k < double.infRung := by
    show q * 4503599627370496 + k < 9218868437227405312
    omega
  have e3 : (q * 4503599627370496 + k) % double.binade = k - 4503599627370496 := by
    show (q * 4503599627370496 + k) % 4503599627370496 = _
    omega
  have e4 : (q * 4503599627370496 + k) / double.binade = q + 1 := by
    show (q * 4503599627370496 + k) / 4503599627370496 = _
    omega
  simp only [if_neg e1, if_pos e2, e3, e4]
  have e5 : double.binade + (k - 4503599627370496) = k := by
    show 4503599627370496 + (k - 4503599627370496) = k
    omega
  rw [e5]
  have e6 : double.leastPlace + ((q + 1 - 1 : Nat) : Int) = (q : Int) - 1074 := by
    show (-1074 : Int) + _ = _
    omega
  rw [e6]
theorem read_zero (s : Bool) : double.read (zero s) = .number s 0 (-1074) := by cases s <;> rfl
theorem shl (m k : Nat) : m <<< k = m * 2 ^ k := Nat.shiftLeft_eq m k
theorem cut_exact (s : Bool) (k a : Nat) (hk : 0 < k) : Toward.even.cut s (k * 2 ^ a) a = k := by
  have hl : a ≤ (k * 2 ^ a).log2 := by
    rw [Nat.le_log2 (Nat.ne_of_gt (Nat.mul_pos hk (Nat.two_pow_pos a)))]
    exact Nat.le_mul_of_pos_left _ hk
  unfold Toward.cut
  rw [show min a ((k * 2 ^ a).log2 + 2) = a by omega, Nat.one_shiftLeft]
  simp only [Nat.mul_mod_left, Nat.mul_div_cancel _ (Nat.two_pow_pos a)]
  have hp := Nat.two_pow_pos a
  have e1 : decide (2 ^ a < 2 * 0) = false := by simp
  have e2 : (2 ^ a == 2 * 0) = false := by simp
  rw [e1, e2]
  rfl
theorem log_ok {k a : Nat} (h1 : 4503599627370496 ≤ k) (h2 : k < 9007199254740992) : (k * 2 ^ a).log2 = 52 + a := by
  have hne : k * 2 ^ a ≠ 0 := Nat.ne_of_gt (Nat.mul_pos (by omega) (Nat.two_pow_pos a))
  have l1 : 52 + a ≤ (k * 2 ^ a).log2 := by
    rw [Nat.le_log2 hne, Nat.pow_add]
    exact Nat.mul_le_mul_right _ (by simpa using h1)
  have l2 : (k * 2 ^ a).log2 < 52 + a + 1 := by
    rw [Nat.log2_lt hne, show 52 + a + 1 = 53 + a by omega, Nat.pow_add]
    exact Nat.mul_lt_mul_of_pos_right (by simpa using h2) (Nat.two_pow_pos a)
  omega
/-- What needs no rounding: k * 2 ^ a, a places lower. -/
theorem near_down (s : Bool) (k a q : Nat) (h : Ok k q) : double.nearest s (k * 2 ^ a) ((q : Int) - 1074 - a) = W s k q := by
  have h1 := h.lo
  have h2 := h.hi
  have h3 := h.q
  have hne : ¬ k * 2 ^ a = 0 := Nat.ne_of_gt (Nat.mul_pos (by omega) (Nat.two_pow_pos a))
  unfold Format.nearest
  rw [if_neg hne, log_ok h1 h2]
  have el : max ((q : Int) - 1074 - (a : Int) + ((52 + a : Nat) : Int) - ((double.fractionBits : Nat) : Int)) double.leastPlace = (q : Int) - 1074 := by
    show max ((q : Int) - 1074 - (a : Int) + ((52 + a : Nat) : Int) - ((52 : Nat) : Int)) (-1074) = _
    omega
  simp only [el]
  rw [show ((q : Int) - 1074 - (a : Int) - ((q : Int) - 1074)).toNat = 0 by omega, show ((q : Int) - 1074 - ((q : Int) - 1074 - (a : Int))).toNat = a by omega]
  rw [Nat.shiftLeft_zero, cut_exact s k a (by omega)]
  have e2 : ((q : Int) - 1074 - double.leastPlace).toNat = q := by
    show ((q : Int) - 1074 - (-1074)).toNat = q
    omega
  rw [e2]
  have e3 : min (q * double.binade + k) double.infRung = q * 4503599627370496 + k := by
    show min (q * 4503599627370496 + k) 9218868437227405312 = _
    omega
  rw [e3]
  rfl
/-- The same of a number of fewer digits. -/
theorem near_up (s : Bool) (m b q : Nat) (hm : 0 < m) (h : Ok (m * 2 ^ b) q) : double.nearest s m ((q : Int) - 1074 + b) = W s (m * 2 ^ b) q := by
  have h1 := h.lo
  have h2 := h.hi
  have h3 := h.q
  have hne : ¬ m = 0 := by omega
  have hlog : m.log2 + b = 52 := by
    have hp := Nat.two_pow_pos b
    have g1 : m.log2 + b ≤ 52 := by
      have : 2 ^ (m.log2 + b) ≤ m * 2 ^ b := by
        rw [Nat.pow_add]
        exact Nat.mul_le_mul_right _ (Nat.log2_self_le hne)
      have : 2 ^ (m.log2 + b) < 2 ^ 53 := Nat.lt_of_le_of_lt this (by simpa using h2)
      have := (Nat.pow_lt_pow_iff_right (a := 2) (by decide)).1 this
      omega
    have g2 : 52 < m.log2 + b + 1 := by
      have : m * 2 ^ b < 2 ^ (m.log2 + 1 + b) := by
        rw [Nat.pow_add]
        exact Nat.mul_lt_mul_of_pos_right Nat.lt_log2_self hp
      have : 2 ^ 52 < 2 ^ (m.log2 + 1 + b) := Nat.lt_of_le_of_lt (by simpa using h1) this
      have := (Nat.pow_lt_pow_iff_right (a := 2) (by decide)).1 this
      omega
    omega
  unfold Format.nearest
  rw [if_neg hne]
  have el : max ((q : Int) - 1074 + (b : Int) + ((m.log2 : Nat) : Int) - ((double.fractionBits : Nat) : Int)) double.leastPlace = (q : Int) - 1074 := by
    show max ((q : Int) - 1074 + (b : Int) + ((m.log2 : Nat) : Int) - ((52 : Nat) : Int)) (-1074) = _
    omega
  simp only [el]
  rw [show ((q : Int) - 1074 + (b : Int) - ((q : Int) - 1074)).toNat = b by omega, show ((q : Int) - 1074 - ((q : Int) - 1074 + (b : Int))).toNat = 0 by omega]
  rw [shl]
  have hc := cut_exact s (m * 2 ^ b) 0 (by omega)
  rw [Nat.pow_zero, Nat.mul_one] at hc
  rw [hc]
  have e2 : ((q : Int) - 1074 - double.leastPlace).toNat = q := by
    show ((q : Int) - 1074 - (-1074)).toNat = q
    omega
  rw [e2]
  have e3 : min (q * double.binade + m * 2 ^ b) double.infRung = q * 4503599627370496 + m * 2 ^ b := by
    show min (q * 4503599627370496 + m * 2 ^ b) 9218868437227405312 = _
    omega
  rw [e3]
  rfl
def one (s : Bool) : Nat := W s 4503599627370496 1022
theorem ok_one : Ok 4503599627370496 1022 := ⟨by omega, by omega, by omega⟩
theorem near_zero (s : Bool) (p : Int) : double.nearest s 0 p = zero s := by unfold Format.nearest; rw [if_pos rfl]; rfl
theorem mul_one_r (s t : Bool) (k q : Nat) (h : Ok k q) : double.mul (W s k q) (one t) = some (W (s ^^ t) k q) := by
  unfold Format.mul one
  rw [read_W s k q h, read_W t _ _ ok_one]
  show some (double.nearest (s ^^ t) (k * 4503599627370496) ((q : Int) - 1074 + (((1022 : Nat) : Int) - 1074))) = _
  have := near_down (s ^^ t) k 52 q h
  rw [show ((q : Int) - 1074 + (((1022 : Nat) : Int) - 1074)) = (q : Int) - 1074 - ((52 : Nat) : Int) by omega, show (4503599627370496 : Nat) = 2 ^ 52 by decide, this]
theorem mul_one_l (s t : Bool) (k q : Nat) (h : Ok k q) : double.mul (one t) (W s k q) = some (W (t ^^ s) k q) := by
  unfold Format.mul one
  rw [read_W s k q h, read_W t _ _ ok_one]
  show some (double.nearest (t ^^ s) (4503599627370496 * k) ((((1022 : Nat) : Int) - 1074) + ((q : Int) - 1074))) = _
  have := near_down (t ^^ s) k 52 q h
  rw [show ((((1022 : Nat) : Int) - 1074) + ((q : Int) - 1074)) = (q : Int) - 1074 - ((52 : Nat) : Int) by omega, Nat.mul_comm, show (4503599627370496 : Nat) = 2 ^ 52 by decide, this]
theorem mul_zero_r (s t : Bool) (k q : Nat) (h : Ok k q) : double.mul (W s k q) (zero t) = some (zero (s ^^ t)) := by
  unfold Format.mul
  rw [read_W s k q h, read_zero]
  show some (double.nearest (s ^^ t) (k * 0) _) = _
  rw [Nat.mul_zero, near_zero]
theorem mul_zero_l (s t : Bool) (k q : Nat) (h : Ok k q) : double.mul (zero t) (W s k q) = some (zero (t ^^ s)) := by
  unfold Format.mul
  rw [read_W s k q h, read_zero]
  show some (double.nearest (t ^^ s) (0 * k) _) = _
  rw [Nat.zero_mul, near_zero]
theorem sign_of (s t : Bool) (X : Nat) (hX : 0 < X) : (if (if s then -(X : Int) else (X : Int)) = 0 then s && t else decide ((if s then -(X : Int) else (X : Int)) < 0)) = s ∧ (if s then -(X : Int) else (X : Int)).natAbs = X := by
  cases s
  · simp only [Bool.false_eq_true, if_false]
    refine ⟨?_, by omega⟩
    rw [if_neg (by omega)]
    exact decide_eq_false (by omega)
  · simp only [if_true]
    refine ⟨?_, by omega⟩
    rw [if_neg (by omega)]
    exact decide_eq_true (by omega)
/-- A number and a nought added up. -/
theorem sum_zero_r (s t : Bool) (k q : Nat) (h : Ok k q) : ((Datum.number s k ((q : Int) - 1074)).sum (.number t 0 (-1074))).map double.write = some (W s k q) := by
  have h1 := h.lo
  unfold Datum.sum
  have eb : min ((q : Int) - 1074) (-1074) = -1074 := by omega
  simp only [eb]
  rw [show ((q : Int) - 1074 - (-1074)).toNat = q by omega, show ((-1074 : Int) - (-1074)).toNat = 0 by omega]
  have ez : signed t 0 0 = 0 := by cases t <;> rfl
  rw [ez, Int.add_zero]
  have hpos : 0 < k * 2 ^ q := Nat.mul_pos (by omega) (Nat.two_pow_pos q)
  have es : (if signed s k q = 0 then s && t else decide (signed s k q < 0)) = s ∧ (signed s k q).natAbs = k * 2 ^ q := by
    unfold signed
    rw [shl]
    exact sign_of s t _ hpos
  rw [es.1, es.2]
  show some (double.nearest s (k * 2 ^ q) (-1074)) = _
  have := near_down s k q q h
  rw [show (q : Int) - 1074 - (q : Int) = -1074 by omega] at this
  rw [this]
theorem sum_comm (x y : Datum) : x.sum y = y.sum x := by
  cases x <;> cases y <;> try rfl
  · rename_i s m i t n j
    unfold Datum.sum
    simp only [Int.min_comm i j, Int.add_comm (signed s _ _), Bool.and_comm s t]
  · rename_i s t
    unfold Datum.sum
    by_cases h : s = t
    · subst h; rfl
    · simp only [if_neg h, if_neg (fun e => h (Eq.symm e))]
theorem add_zero_r (s t : Bool) (k q : Nat) (h : Ok k q) : double.add (W s k q) (zero t) = some (W s k q) := by
  unfold Format.add
  rw [read_W s k q h, read_zero]
  exact sum_zero_r s t k q h
theorem add_zero_l (s t : Bool) (k q : Nat) (h : Ok k q) : double.add (zero t) (W s k q) = some (W s k q) := by
  unfold Format.add
  rw [read_W s k q h, read_zero, sum_comm]
  exact sum_zero_r s t k q h
theorem sub_zero_r (s t : Bool) (k q : Nat) (h : Ok k q) : double.sub (W s k q) (zero t) = some (W s k q) := by
  unfold Format.sub
  rw [read_W s k q h, read_zero]
  exact sum_zero_r s (!t) k q h
theorem sub_zero_l (s t : Bool) (k q : Nat) (h : Ok k q) : double.sub (zero t) (W s k q) = some (W (!s) k q) := by
  unfold Format.sub
  rw [read_W s k q h, read_zero, sum_comm]
  exact sum_zero_r (!s) t k q h
end Go.Proofs.YtinocgngjhomcaaDoor.Rt
