/- Eighths of whole numbers; signals by units. -/
import Derived.Test.YtinocgngjhomcaaDoorRtN
namespace Go.Proofs.YtinocgngjhomcaaDoor.Rt
open Ieee

theorem read_eight : double.read 4620693217682128896 = .number false 4503599627370496 (-49) := by rfl
theorem div_eight (s : Bool) (k q : Nat) (h : Ok k q) (hq : 3 ≤ q) : double.div (W s k q) 4620693217682128896 = some (W s k (q - 3)) := by
  have h1 := h.lo
  have h2 := h.hi
  unfold Format.div
  rw [read_W s k q h, read_eight]
  have hl : k.log2 = 52 := by have := log_ok (a := 0) h1 h2; simpa using this
  unfold Datum.quotient
  simp only [if_neg (show ¬ (4503599627370496 : Nat) = 0 by decide), hl]
  rw [show double.fractionBits + 2 + Nat.log2 4503599627370496 - 52 = 54 by rfl, shl]
  have e1 : k * 2 ^ 54 / 4503599627370496 = k * 4 := by
    rw [show (2 : Nat) ^ 54 = 4 * 4503599627370496 by decide, ← Nat.mul_assoc, Nat.mul_div_cancel _ (by decide)]
  have e2 : (k * 2 ^ 54 % 4503599627370496 != 0) = false := by
    rw [show (2 : Nat) ^ 54 = 4 * 4503599627370496 by decide, ← Nat.mul_assoc, Nat.mul_mod_left]
    rfl
  rw [e1, e2]
  show some (double.nearest (s ^^ false) (2 * (k * 4) + 0) ((q : Int) - 1074 - (-49) - ((54 : Nat) : Int) - 1)) = _
  have := near_down s k 3 (q - 3) ⟨h1, h2, by have := h.q; omega⟩
  rw [show 2 * (k * 4) + 0 = k * 2 ^ 3 by omega, show (q : Int) - 1074 - (-49) - ((54 : Nat) : Int) - 1 = (((q - 3 : Nat) : Int)) - 1074 - ((3 : Nat) : Int) by omega, Bool.xor_false, this]
theorem float_int (n : Int) (hn : n ≠ 0) (hb : n.natAbs < 9007199254740992) : ∃ s k q, Ok k q ∧ 1000 ≤ q ∧ q ≤ 1100 ∧ floatOfInt .f64 n = W s k q := by
  have hm : 0 < n.natAbs := by omega
  have hne : n.natAbs ≠ 0 := by omega
  have hl : n.natAbs.log2 ≤ 52 := by
    have : n.natAbs.log2 < 53 := by rw [Nat.log2_lt hne]; simpa using hb
    omega
  obtain ⟨b, hbb⟩ : ∃ b, n.natAbs.log2 + b = 52 := ⟨52 - n.natAbs.log2, by omega⟩
  have lo : 4503599627370496 ≤ n.natAbs * 2 ^ b := by
    have := Nat.mul_le_mul_right (2 ^ b) (Nat.log2_self_le hne)
    rw [← Nat.pow_add, hbb] at this
    simpa using this
  have hi : n.natAbs * 2 ^ b < 9007199254740992 := by
    have := Nat.mul_lt_mul_of_pos_right (Nat.lt_log2_self (n := n.natAbs)) (Nat.two_pow_pos b)
    rw [← Nat.pow_add, show n.natAbs.log2 + 1 + b = 53 by omega] at this
    simpa using this
  have ok : Ok (n.natAbs * 2 ^ b) (1074 - b) := ⟨lo, hi, by omega⟩
  refine ⟨decide (n < 0), n.natAbs * 2 ^ b, 1074 - b, ok, by omega, by omega, ?_⟩
  have := near_up (decide (n < 0)) n.natAbs b (1074 - b) hm ok
  rw [show (((1074 - b : Nat) : Int)) - 1074 + (b : Int) = 0 by omega] at this
  exact this
/-- An eighth of a whole number. -/
def partN (n : Int) : Nat := (double.div (floatOfInt .f64 n) 4620693217682128896).getD 0
theorem part_zero : double.div (floatOfInt .f64 0) 4620693217682128896 = some (zero false) := by rfl
theorem part_nz (n : Int) (hn : n ≠ 0) (hb : n.natAbs < 9007199254740992) : ∃ s k q, Ok k q ∧ double.div (floatOfInt .f64 n) 4620693217682128896 = some (W s k q) := by
  obtain ⟨s, k, q, h, h1, h2, he⟩ := float_int n hn hb
  rw [he]
  exact ⟨s, k, q - 3, ⟨h.lo, h.hi, by omega⟩, div_eight s k q h (by omega)⟩
theorem part_some (n : Int) (hb : n.natAbs < 9007199254740992) : double.div (floatOfInt .f64 n) 4620693217682128896 = some (partN n) ∧ Pt (partN n) ∧ (n ≠ 0 → ∃ s k q, Ok k q ∧ partN n = W s k q) := by
  unfold partN
  by_cases hn : n = 0
  · subst hn
    rw [part_zero]
    exact ⟨rfl, .inl ⟨false, rfl⟩, fun h => absurd rfl h⟩
  · obtain ⟨s, k, q, h, he⟩ := part_nz n hn hb
    rw [he]
    exact ⟨rfl, .inr ⟨s, k, q, h, rfl⟩, fun _ => ⟨s, k, q, h, rfl⟩⟩
/-- What a product of signals is. -/
structure Is (a b c d x y m1 m2 m3 m4 : Nat) : Prop where
  h1 : double.mul a c = some m1
  h2 : double.mul b d = some m2
  h3 : double.sub m1 m2 = some x
  h4 : double.mul a d = some m3
  h5 : double.mul b c = some m4
  h6 : double.add m3 m4 = some y
def Nz (p : Nat × Nat) : Prop := (∃ s k q, Ok k q ∧ p.1 = W s k q) ∧ ∃ s k q, Ok k q ∧ p.2 = W s k q
def unit : Nat × Nat := (one false, zero false)
theorem u0 : rotN 0 unit = (one false, zero false) := rfl
theorem neg_one (s : Bool) : negF (one s) = one (!s) := neg_W s _ _ ok_one
theorem u1 : rotN 1 unit = (zero true, one false) := by
  show (negF (zero false), one false) = _
  rw [neg_zero]; rfl
theorem u2 : rotN 2 unit = (one true, zero true) := by
  show rot (rotN 1 unit) = _
  rw [u1]
  show (negF (one false), zero true) = _
  rw [neg_one]; rfl
theorem u3 : rotN 3 unit = (zero false, one true) := by
  show rot (rotN 2 unit) = _
  rw [u2]
  show (negF (zero true), one true) = _
  rw [neg_zero]; rfl
theorem Nz.pp {p : Nat × Nat} (h : Nz p) : Pp p := by
  obtain ⟨⟨s, k, q, h1, e1⟩, ⟨t, l, r, h2, e2⟩⟩ := h
  exact ⟨.inr ⟨s, k, q, h1, e1⟩, .inr ⟨t, l, r, h2, e2⟩⟩
theorem Nz.rot {p : Nat × Nat} (h : Nz p) : Nz (rot p) := by
  obtain ⟨⟨s, k, q, h1, e1⟩, ⟨t, l, r, h2, e2⟩⟩ := h
  exact ⟨⟨!t, l, r, h2, by show negF p.2 = _; rw [e2, neg_W t l r h2]⟩, ⟨s, k, q, h1, e1⟩⟩
theorem Nz.rotN {p : Nat × Nat} (h : Nz p) : ∀ n, Nz (rotN n p)
  | 0 => h
  | n + 1 => (Nz.rotN h n).rot
theorem times_unit {p : Nat × Nat} (h : Nz p) : ∀ n, n < 4 → ∃ m1 m2 m3 m4, Is p.1 p.2 (Rt.rotN n unit).1 (Rt.rotN n unit).2 (Rt.rotN n p).1 (Rt.rotN n p).2 m1 m2 m3 m4 := by
  obtain ⟨a, b⟩ := p
  obtain ⟨⟨s, k, q, h1, e1⟩, ⟨t, l, r, h2, e2⟩⟩ := h
  simp only at e1 e2
  subst e1 e2
  intro n hn
  match n, hn with
  | 0, _ =>
    rw [u0]
    exact ⟨_, _, _, _, mul_one_r s false k q h1, mul_zero_r t false l r h2, by rw [Bool.xor_false]; exact sub_zero_r s _ k q h1, mul_zero_r s false k q h1, mul_one_r t false l r h2, by simp only [Bool.xor_false]; exact add_zero_l t _ l r h2⟩
  | 1, _ =>
    rw [u1]
    refine ⟨_, _, _, _, mul_zero_r s true k q h1, mul_one_r t false l r h2, ?_, mul_one_r s false k q h1, mul_zero_r t true l r h2, ?_⟩
    · show _ = some (negF (W t l r))
      rw [neg_W t l r h2, Bool.xor_false]
      exact sub_zero_l t _ l r h2
    · show _ = some (W s k q)
      rw [Bool.xor_false]
      exact add_zero_r s _ k q h1
  | 2, _ =>
    rw [u2]
    refine ⟨_, _, _, _, mul_one_r s true k q h1, mul_zero_r t true l r h2, ?_, mul_zero_r s true k q h1, mul_one_r t true l r h2, ?_⟩
    · show _ = some (negF (W s k q))
      rw [neg_W s k q h1, Bool.xor_true]
      exact sub_zero_r _ _ k q h1
    · show _ = some (negF (W t l r))
      rw [neg_W t l r h2]
      simp only [Bool.xor_true]
      exact add_zero_l _ _ l r h2
  | 3, _ =>
    rw [u3]
    refine ⟨_, _, _, _, mul_zero_r s false k q h1, mul_one_r t true l r h2, ?_, mul_one_r s true k q h1, mul_zero_r t false l r h2, ?_⟩
    · show _ = some (negF (negF (W t l r)))
      rw [neg_W t l r h2, neg_W _ l r h2, Bool.xor_true]
      exact sub_zero_l _ _ l r h2
    · show _ = some (negF (W s k q))
      rw [neg_W s k q h1, Bool.xor_true]
      exact add_zero_r _ _ k q h1
theorem unit_times {p : Nat × Nat} (h : Nz p) : ∀ n, n < 4 → ∃ m1 m2 m3 m4, Is (Rt.rotN n unit).1 (Rt.rotN n unit).2 p.1 p.2 (Rt.rotN n p).1 (Rt.rotN n p).2 m1 m2 m3 m4 := by
  obtain ⟨a, b⟩ := p
  obtain ⟨⟨s, k, q, h1, e1⟩, ⟨t, l, r, h2, e2⟩⟩ := h
  simp only at e1 e2
  subst e1 e2
  intro n hn
  match n, hn with
  | 0, _ =>
    rw [u0]
    exact ⟨_, _, _, _, mul_one_l s false k q h1, mul_zero_l t false l r h2, by rw [Bool.false_xor]; exact sub_zero_r s _ k q h1, mul_one_l t false l r h2, mul_zero_l s false k q h1, by rw [Bool.false_xor]; exact add_zero_r t _ l r h2⟩
  | 1, _ =>
    rw [u1]
    refine ⟨_, _, _, _, mul_zero_l s true k q h1, mul_one_l t false l r h2, ?_, mul_zero_l t true l r h2, mul_one_l s false k q h1, ?_⟩
    · show _ = some (negF (W t l r))
      rw [neg_W t l r h2, Bool.false_xor]
      exact sub_zero_l t _ l r h2
    · show _ = some (W s k q)
      rw [Bool.false_xor]
      exact add_zero_l s _ k q h1
  | 2, _ =>
    rw [u2]
    refine ⟨_, _, _, _, mul_one_l s true k q h1, mul_zero_l t true l r h2, ?_, mul_one_l t true l r h2, mul_zero_l s true k q h1, ?_⟩
    · show _ = some (negF (W s k q))
      rw [neg_W s k q h1, Bool.true_xor]
      exact sub_zero_r _ _ k q h1
    · show _ = some (negF (W t l r))
      rw [neg_W t l r h2, Bool.true_xor]
      exact add_zero_r _ _ l r h2
  | 3, _ =>
    rw [u3]
    refine ⟨_, _, _, _, mul_zero_l s false k q h1, mul_one_l t true l r h2, ?_, mul_zero_l t false l r h2, mul_one_l s true k q h1, ?_⟩
    · show _ = some (negF (negF (W t l r)))
      rw [neg_W t l r h2, neg_W _ l r h2, Bool.true_xor]
      exact sub_zero_l _ _ l r h2
    · show _ = some (negF (W s k q))
      rw [neg_W s k q h1, Bool.true_xor]
      exact add_zero_l _ _ k q h1
end Go.Proofs.YtinocgngjhomcaaDoor.Rt
