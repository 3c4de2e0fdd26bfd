/- Quarter turns of words, as plain mathematics. -/
import Derived.Test.YtinocgngjhomcaaDoorRtM
import GoSem.Op.Unary
namespace Go.Proofs.YtinocgngjhomcaaDoor.Rt
open Ieee

def negF (x : Nat) : Nat := Op.negFloat .f64 x
theorem neg_word (s : Bool) (r : Nat) (h : r < 9223372036854775808) : negF (double.word s r) = double.word (!s) r := by
  show double.word s r ^^^ 2 ^ 63 = double.word (!s) r
  have key : r ^^^ 2 ^ 63 = 2 ^ 63 + r := by
    refine Nat.eq_of_testBit_eq fun i => ?_
    rw [Nat.testBit_xor, Nat.testBit_two_pow]
    by_cases hi : i = 63
    · subst hi
      rw [Nat.testBit_two_pow_add_eq, Nat.testBit_lt_two_pow (by simpa using h)]
      rfl
    · by_cases hl : i < 63
      · rw [Nat.testBit_two_pow_add_gt hl, show decide (63 = i) = false from decide_eq_false (by omega), Bool.xor_false]
      · have h1 : r.testBit i = false := Nat.testBit_lt_two_pow (Nat.lt_of_lt_of_le h (by rw [show (9223372036854775808 : Nat) = 2 ^ 63 by decide]; exact Nat.pow_le_pow_right (by decide) (by omega)))
        have h2 : (2 ^ 63 + r).testBit i = false := Nat.testBit_lt_two_pow (Nat.lt_of_lt_of_le (show 2 ^ 63 + r < 2 ^ 64 by simp; omega) (Nat.pow_le_pow_right (by decide) (by omega)))
        rw [h1, h2, show decide (63 = i) = false from decide_eq_false (by omega)]
        rfl
  rw [word_eq, word_eq]
  cases s
  · simp only [Bool.false_eq_true, if_false, Bool.not_false, if_true]
    rw [key]
  · simp only [if_true, Bool.not_true, Bool.false_eq_true, if_false]
    rw [show 9223372036854775808 + r = 2 ^ 63 + r from rfl, ← key, Nat.xor_assoc, Nat.xor_self, Nat.xor_zero]
/-- A nought or a number of 53 digits. -/
def Pt (x : Nat) : Prop := (∃ s, x = zero s) ∨ ∃ s k q, Ok k q ∧ x = W s k q
theorem neg_W (s : Bool) (k q : Nat) (h : Ok k q) : negF (W s k q) = W (!s) k q := neg_word s _ (by have := h.hi; have := h.q; omega)
theorem neg_zero (s : Bool) : negF (zero s) = zero (!s) := neg_word s 0 (by omega)
theorem Pt.neg {x : Nat} (h : Pt x) : Pt (negF x) := by
  rcases h with ⟨s, rfl⟩ | ⟨s, k, q, h, rfl⟩
  · exact .inl ⟨!s, neg_zero s⟩
  · exact .inr ⟨!s, k, q, h, neg_W s k q h⟩
theorem Pt.negneg {x : Nat} (h : Pt x) : negF (negF x) = x := by
  rcases h with ⟨s, rfl⟩ | ⟨s, k, q, h, rfl⟩
  · rw [neg_zero, neg_zero, Bool.not_not]
  · rw [neg_W s k q h, neg_W _ k q h, Bool.not_not]
def rot (p : Nat × Nat) : Nat × Nat := (negF p.2, p.1)
def rotN : Nat → Nat × Nat → Nat × Nat
  | 0, p => p
  | n + 1, p => rot (rotN n p)
def Pp (p : Nat × Nat) : Prop := Pt p.1 ∧ Pt p.2
theorem Pp.rot {p : Nat × Nat} (h : Pp p) : Pp (rot p) := ⟨h.2.neg, h.1⟩
theorem Pp.rotN {p : Nat × Nat} (h : Pp p) : ∀ n, Pp (rotN n p)
  | 0 => h
  | n + 1 => (Pp.rotN h n).rot
theorem rotN_add (m n : Nat) (p : Nat × Nat) : Rt.rotN (m + n) p = Rt.rotN m (Rt.rotN n p) := by
  induction m with
  | zero => rw [Nat.zero_add]; rfl
  | succ m ih => rw [show m + 1 + n = (m + n) + 1 by omega]; show Rt.rot _ = Rt.rot _; rw [ih]
theorem rot4 {p : Nat × Nat} (h : Pp p) : Rt.rotN 4 p = p := by
  show (negF (negF p.1), negF (negF p.2)) = p
  rw [h.1.negneg, h.2.negneg]
theorem rot_mod {p : Nat × Nat} (h : Pp p) (n : Nat) : Rt.rotN n p = Rt.rotN (n % 4) p := by
  have key : ∀ d, Rt.rotN (4 * d + n % 4) p = Rt.rotN (n % 4) p := by
    intro d
    induction d with
    | zero => rw [Nat.mul_zero, Nat.zero_add]
    | succ d ih =>
      rw [show 4 * (d + 1) + n % 4 = 4 + (4 * d + n % 4) by omega, rotN_add, rot4 (h.rotN _), ih]
  have := key (n / 4)
  rwa [Nat.div_add_mod] at this
theorem Pt.order {x : Nat} (h : Pt x) : double.order x x = some .eq := by
  have key : ∀ s m e, double.read x = .number s m e → double.order x x = some .eq := by
    intro s m e hr
    unfold Format.order
    rw [hr]
    show some (compare _ _) = _
    rw [show ∀ a : Int, compare a a = Ordering.eq from fun a => by simp]
  rcases h with ⟨s, rfl⟩ | ⟨s, k, q, h, rfl⟩
  · exact key _ _ _ (read_zero s)
  · exact key _ _ _ (read_W s k q h)
/-- A square's word: no NaN, not below 0. -/
def Sq (y : Nat) : Prop := (∃ m e, double.read y = .number false m e) ∨ double.read y = .infinity false
theorem read_pos (r : Nat) (h : r ≤ 9218868437227405312) : Sq (double.word false r) := by
  have e : double.word false r % double.signWeight = r := word_rung false r (by omega)
  have e2 := word_sign false r (by omega)
  unfold Sq Format.read
  rw [e, e2]
  by_cases h1 : r < double.binade
  · simp only [if_pos h1]
    exact .inl ⟨_, _, rfl⟩
  · simp only [if_neg h1]
    by_cases h2 : r < double.infRung
    · simp only [if_pos h2]
      exact .inl ⟨_, _, rfl⟩
    · have h3 : r = double.infRung := by
        have h4 : ¬ r < 9218868437227405312 := h2
        show r = 9218868437227405312
        omega
      simp only [if_neg h2, if_pos h3]
      exact .inr (by first | rfl | trivial)
theorem near_sq (m : Nat) (p : Int) : Sq (double.nearest false m p) := by
  unfold Format.nearest
  split
  · exact read_pos 0 (by omega)
  · exact read_pos _ (Nat.min_le_right _ _)
theorem Sq.add {a b : Nat} (ha : Sq a) (hb : Sq b) : ∃ t, double.add a b = some t ∧ Sq t := by
  unfold Format.add
  have hi : Sq (double.write (.infinity false)) := read_pos _ (Nat.le_refl _)
  rcases ha with ⟨m, e, ha⟩ | ha <;> rcases hb with ⟨n, f, hb⟩ | hb <;> rw [ha, hb]
  · refine ⟨_, rfl, ?_⟩
    have : ∀ X Y : Int, 0 ≤ X → 0 ≤ Y → (if X + Y = 0 then (false && false) else decide (X + Y < 0)) = false := by
      intro X Y hx hy
      split
      · rfl
      · exact decide_eq_false (by omega)
    show Sq (double.nearest _ _ _)
    rw [this _ _ (by show (0 : Int) ≤ ((_ : Nat) : Int); exact Int.natCast_nonneg _) (by show (0 : Int) ≤ ((_ : Nat) : Int); exact Int.natCast_nonneg _)]
    exact near_sq _ _
  · exact ⟨_, rfl, hi⟩
  · exact ⟨_, rfl, hi⟩
  · exact ⟨_, rfl, hi⟩
theorem Sq.order {t : Nat} (h : Sq t) : double.order t t = some .eq := by
  unfold Format.order
  rcases h with ⟨m, e, h⟩ | h <;> rw [h]
  · show some (compare _ _) = _
    rw [show ∀ a : Int, compare a a = Ordering.eq from fun a => by simp]
  · rfl
theorem Pt.sq {x : Nat} (h : Pt x) : ∃ y, double.mul x x = some y ∧ double.mul (negF x) (negF x) = some y ∧ Sq y := by
  rcases h with ⟨s, rfl⟩ | ⟨s, k, q, h, rfl⟩
  · rw [neg_zero]
    unfold Format.mul
    rw [read_zero, read_zero]
    refine ⟨double.nearest false (0 * 0) (-1074 + -1074), ?_, ?_, near_sq _ _⟩ <;> cases s <;> rfl
  · rw [neg_W s k q h]
    unfold Format.mul
    rw [read_W s k q h, read_W _ k q h]
    refine ⟨double.nearest false (k * k) (((q : Int) - 1074) + ((q : Int) - 1074)), ?_, ?_, near_sq _ _⟩ <;> cases s <;> rfl
end Go.Proofs.YtinocgngjhomcaaDoor.Rt
