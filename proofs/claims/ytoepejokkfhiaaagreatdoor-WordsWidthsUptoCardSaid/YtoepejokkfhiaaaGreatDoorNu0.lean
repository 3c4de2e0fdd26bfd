/- Plain facts: what is written of a number, to the base 10 and to the base 16, is read as that number. -/
import Derived.Lib.ItoaNum
import Derived.Lib.ParseIntB
import Derived.Lib.Strings
namespace Go.Proofs.YtoepejokkfhiaaaGreatDoor.Nums
open Go.Lib

theorem byte_of (k : Nat) (h : k < 256) : (UInt8.ofNat k).toNat = k := by
  rw [UInt8.toNat_ofNat']; exact Nat.mod_eq_of_lt h

theorem dec_read (u : Nat) : u ≤ 18446744073709551615 → ∀ r, parseUintM 18446744073709551615 0 (decDigits u ++ r) = parseUintM 18446744073709551615 u r := by
  induction u using Nat.strongRecOn with
  | _ u ih =>
    intro hu r
    rw [decDigits]
    by_cases h : u < 10
    · rw [dif_pos h]
      show parseUintM _ 0 (UInt8.ofNat (48 + u) :: r) = _
      rw [parseUintM, byte_of _ (by omega), if_pos (by omega), if_neg (by omega), if_neg (by omega)]
      congr 1
      omega
    · rw [dif_neg h, List.append_assoc, ih (u / 10) (by omega) (by omega)]
      show parseUintM _ (u / 10) (UInt8.ofNat (48 + u % 10) :: r) = _
      rw [parseUintM, byte_of _ (by omega), if_pos (by omega), if_neg (by omega), if_neg (by omega)]
      congr 1
      omega
theorem dec_head (u : Nat) : ∃ c r, decDigits u = c :: r ∧ 48 ≤ c.toNat ∧ c.toNat ≤ 57 := by
  induction u using Nat.strongRecOn with
  | _ u ih =>
    rw [decDigits]
    by_cases h : u < 10
    · rw [dif_pos h]
      exact ⟨_, _, rfl, by rw [byte_of _ (by omega)]; omega, by rw [byte_of _ (by omega)]; omega⟩
    · rw [dif_neg h]
      obtain ⟨c, r, e, h1, h2⟩ := ih (u / 10) (by omega)
      exact ⟨c, r ++ [UInt8.ofNat (48 + u % 10)], by rw [e]; rfl, h1, h2⟩
theorem dec_uint (u : Nat) (hu : u ≤ 18446744073709551615) : parseUintB 64 (decDigits u) = .ok u := by
  obtain ⟨c, r, e, _, _⟩ := dec_head u
  unfold parseUintB
  rw [if_neg (by rw [e]; exact List.cons_ne_nil c r)]
  have := dec_read u hu []
  rw [List.append_nil] at this
  exact this
theorem int_read (n : Int) (h0 : -9223372036854775808 ≤ n) (h1 : n ≤ 9223372036854775807) : parseIntB 64 (itoa n) = .ok n := by
  unfold itoa
  by_cases h : n < 0
  · rw [if_pos h]
    unfold parseIntB
    simp only [show (45 : UInt8).toNat = 45 from rfl, or_true, if_true]
    rw [dec_uint n.natAbs (by omega)]
    simp only [not_true_eq_false, false_and, if_false, true_and]
    rw [if_neg (by omega)]
    congr 1
    omega
  · rw [if_neg h]
    obtain ⟨c, r, e, c1, c2⟩ := dec_head n.toNat
    have hd := dec_uint n.toNat (by omega)
    rw [e] at hd ⊢
    have n43 : ¬ (c.toNat = 43 ∨ c.toNat = 45) := by omega
    have n45 : ¬ c.toNat = 45 := by omega
    unfold parseIntB
    dsimp only
    rw [if_neg n43, hd]
    dsimp only
    rw [if_neg (by intro hh; have := hh.2; omega), if_neg (by intro hh; exact n45 hh.1), if_neg n45]
    congr 1
    omega
end Go.Proofs.YtoepejokkfhiaaaGreatDoor.Nums
