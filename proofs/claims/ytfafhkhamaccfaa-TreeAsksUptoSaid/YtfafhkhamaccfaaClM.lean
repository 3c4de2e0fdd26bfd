/- Bytes and numbers, without a program: what bytes are as one number, the highest first; where the first byte 00 stands. -/
import Derived.Lib.Strings
import Derived.Lib.Bytealg
import Derived.Lib.Hide
import Derived.Laws.BitsAllLaws
import Derived.Laws.BitsLemmas
namespace Go.Proofs.Ytfafhkhamaccfaa.Cl

/-- What bytes are as one number, the highest first. -/
def num (l : List UInt8) : Nat := l.foldl (fun n c => n * 256 + c.toNat) 0
theorem num_nil : num [] = 0 := rfl
theorem num_snoc (l : List UInt8) (c : UInt8) : num (l ++ [c]) = num l * 256 + c.toNat := by unfold num; rw [List.foldl_append]; rfl
theorem foldl_num (l : List UInt8) : ∀ n : Nat, l.foldl (fun n c => n * 256 + c.toNat) n = n * 256 ^ l.length + num l := by
  induction l with
  | nil => intro n; simp [num]
  | cons c l ih =>
    intro n
    have h : num (c :: l) = c.toNat * 256 ^ l.length + num l := by
      have h1 : num (c :: l) = l.foldl (fun n c => n * 256 + c.toNat) (0 * 256 + c.toNat) := rfl
      rw [h1, ih, Nat.zero_mul, Nat.zero_add]
    rw [List.foldl_cons, ih, h, List.length_cons, Nat.pow_succ, Nat.add_mul, Nat.mul_assoc, Nat.mul_comm 256, Nat.add_assoc]
theorem num_append (a b : List UInt8) : num (a ++ b) = num a * 256 ^ b.length + num b := by
  unfold num; rw [List.foldl_append, foldl_num]; rfl
theorem num_lt (l : List UInt8) : num l < 256 ^ l.length := by
  induction l with
  | nil => simp [num]
  | cons c l ih =>
    have h : num (c :: l) = c.toNat * 256 ^ l.length + num l := by
      have := num_append [c] l
      simpa [num] using this
    rw [h, List.length_cons, Nat.pow_succ]
    have hc := c.toNat_lt
    have : c.toNat * 256 ^ l.length ≤ 255 * 256 ^ l.length := Nat.mul_le_mul_right _ (by omega)
    omega
theorem num4 (a b c d : UInt8) : num [a, b, c, d] = ((a.toNat * 256 + b.toNat) * 256 + c.toNat) * 256 + d.toNat := by simp [num]

/-- The steps of the program's way of reading four bytes. -/
theorem or8 (x c : Nat) (hx : x < 16777216) (hc : c < 256) : bits .or .u32 ((x * 256 : Nat) : Int) (c : Int) = ((x * 256 + c : Nat) : Int) := by
  rw [u32_or_nat _ _ (by omega) (by omega), nat_join 8 (x * 256) c (by omega) (by omega)]
theorem or32 (x c : Nat) (hx : x < 4294967296) (hc : c < 4294967296) : bits .or .u64 ((x * 4294967296 : Nat) : Int) (c : Int) = ((x * 4294967296 + c : Nat) : Int) := by
  rw [u64_or_nat _ _ (by omega) (by omega), nat_join 32 (x * 4294967296) c (by omega) (by omega)]
theorem or8' (x : Int) (k c : Nat) (hx : x = (k : Int)) (hk : k < 16777216) (hc : c < 256) : bits .or .u32 (x * 256 % 4294967296) (c : Int) = ((k * 256 + c : Nat) : Int) := by
  have h : x * 256 % 4294967296 = ((k * 256 : Nat) : Int) := by omega
  rw [h, or8 k c hk hc]
theorem cell4 (a b c d : Nat) (ha : a < 256) (hb : b < 256) (hc : c < 256) (hd : d < 256) :
    bits .or .u32 (bits .or .u32 (bits .or .u32 (bits .or .u32 0 (a : Int) * 256 % 4294967296) (b : Int) * 256 % 4294967296) (c : Int) * 256 % 4294967296) (d : Int) = ((((a * 256 + b) * 256 + c) * 256 + d : Nat) : Int) := by
  have h1 : bits .or .u32 0 (a : Int) = (a : Int) := by
    have := or8 0 a (by omega) ha
    simpa using this
  exact or8' _ _ d (or8' _ _ c (or8' _ a b h1 (by omega) hb) (by omega) hc) (by omega) hd
theorem or32' (x y : Int) (k c : Nat) (hx : x = (k : Int)) (hy : y = (c : Int)) (hk : k < 4294967296) (hc : c < 4294967296) : bits .or .u64 (x * 4294967296 % 18446744073709551616) y = ((k * 4294967296 + c : Nat) : Int) := by
  have h : x * 4294967296 % 18446744073709551616 = ((k * 4294967296 : Nat) : Int) := by omega
  rw [h, hy, or32 k c hk hc]

/-- How many bytes stand ahead of the first byte 00 (all of them, if there is none). -/
def zat : List UInt8 → Nat
  | [] => 0
  | c :: l => if c = 0 then 0 else zat l + 1
theorem zat_le : ∀ l : List UInt8, zat l ≤ l.length
  | [] => Nat.le_refl _
  | c :: l => by
    have := zat_le l
    unfold zat
    split
    · omega
    · simp; omega
theorem indexByte_zat : ∀ l : List UInt8, Lib.indexByte l 0 = if zat l < l.length then (zat l : Int) else -1
  | [] => by simp [Lib.indexByte, zat]
  | c :: l => by
    have ih := indexByte_zat l
    have hz := zat_le l
    unfold Lib.indexByte zat
    by_cases hc : c = 0
    · simp [hc]
    · simp only [beq_iff_eq, hc, if_false, List.length_cons]
      rw [ih]
      by_cases hl : zat l < l.length
      · rw [if_pos hl, if_neg (by omega), if_pos (by omega)]
        omega
      · rw [if_neg hl, if_pos rfl, if_neg (by omega)]
theorem zat_step : ∀ (l : List UInt8) (k : Nat), k ≤ zat l → k < l.length → (l.getD k 0 = 0 → zat l = k) ∧ (l.getD k 0 ≠ 0 → k + 1 ≤ zat l)
  | [], k, _, h => by simp at h
  | c :: l, 0, _, _ => by
    unfold zat
    by_cases hc : c = 0
    · simp [hc]
    · simp [hc]
  | c :: l, k + 1, h1, h2 => by
    have hc : c ≠ 0 := by
      rintro rfl
      simp [zat] at h1
    unfold zat at h1 ⊢
    rw [if_neg hc] at h1 ⊢
    have := zat_step l k (by omega) (by simpa using h2)
    simp only [List.getD_cons_succ]
    exact ⟨fun h => by rw [this.1 h], fun h => by have := this.2 h; omega⟩
/-- What a reader of l answers that is asked for the next n cells, and what is left. -/
def wideV (l : List UInt8) (n : Int) : Nat × Int × List UInt8 :=
  if n < 0 ∨ 2 < n then (0, 1, l) else if l.length < 4 * n.toNat then (0, 4, l) else (num (l.take (4 * n.toNat)), 0, l.drop (4 * n.toNat))
/-- What a reader of l answers that is asked for the next text, and what is left. -/
def textV (l : List UInt8) : List UInt8 × Int × List UInt8 :=
  if zat l < l.length then (l.take (zat l), 0, l.drop (zat l + 1)) else ([], 4, l)
theorem wideV_arg {l : List UInt8} {n : Int} (h : n < 0 ∨ 2 < n) : wideV l n = (0, 1, l) := if_pos h
theorem wideV_form {l : List UInt8} {n : Nat} (h : n ≤ 2) (hl : l.length < 4 * n) : wideV l n = (0, 4, l) := by
  unfold wideV; rw [if_neg (by omega), if_pos (by omega)]
theorem wideV_ok {l : List UInt8} {n : Nat} (h : n ≤ 2) (hl : 4 * n ≤ l.length) : wideV l n = (num (l.take (4 * n)), 0, l.drop (4 * n)) := by
  unfold wideV; rw [if_neg (by omega), if_neg (by omega), Int.toNat_natCast]
theorem wideV_lt (l : List UInt8) (n : Int) : (wideV l n).1 < 18446744073709551616 := by
  unfold wideV
  split
  · simp
  · split
    · simp
    · refine Nat.lt_of_lt_of_le (num_lt _) (Nat.le_trans (Nat.pow_le_pow_right (by omega) (?_ : _ ≤ 8)) (by decide))
      simp
      omega
theorem wideV1_lt (l : List UInt8) : (wideV l 1).1 < 4294967296 := by
  unfold wideV
  split
  · simp
  · split
    · simp
    · refine Nat.lt_of_lt_of_le (num_lt _) (Nat.le_trans (Nat.pow_le_pow_right (by omega) (?_ : _ ≤ 4)) (by decide))
      simp
      omega
end Go.Proofs.Ytfafhkhamaccfaa.Cl
