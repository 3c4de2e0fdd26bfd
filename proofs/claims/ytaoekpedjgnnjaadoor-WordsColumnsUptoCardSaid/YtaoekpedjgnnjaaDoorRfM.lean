/- What the document's way of reading a rune comes to: the rune whose form begins a text. Plain facts. -/
import Derived.Test.YtaoekpedjgnnjaaDoorWeS
namespace Go.Proofs.YtaoekpedjgnnjaaDoor.Wd
open Go.Lib Nums

/-- A number that has a form. -/
def Valid (r : Nat) : Prop := r ≤ 1114111 ∧ (r < 55296 ∨ 57343 < r)
theorem enc_two (r : Nat) (h0 : 128 ≤ r) (h1 : r ≤ 2047) : encodeRune (r : Int) = [UInt8.ofNat (192 + r / 64), UInt8.ofNat (128 + r % 64)] := by
  unfold encodeRune
  rw [encodeRuneZ_two (by omega) (by omega)]
  have e1 : ((192 : Int) + (r : Int) / 64).toNat = 192 + r / 64 := by omega
  have e2 : ((128 : Int) + (r : Int) % 64).toNat = 128 + r % 64 := by omega
  simp [e1, e2]
theorem enc_three (r : Nat) (h : (2048 ≤ r ∧ r < 55296) ∨ (57343 < r ∧ r ≤ 65535)) : encodeRune (r : Int) = [UInt8.ofNat (224 + r / 4096), UInt8.ofNat (128 + r / 64 % 64), UInt8.ofNat (128 + r % 64)] := by
  unfold encodeRune
  rw [encodeRuneZ_three (by omega)]
  have e1 : ((224 : Int) + (r : Int) / 4096).toNat = 224 + r / 4096 := by omega
  have e2 : ((128 : Int) + (r : Int) / 64 % 64).toNat = 128 + r / 64 % 64 := by omega
  have e3 : ((128 : Int) + (r : Int) % 64).toNat = 128 + r % 64 := by omega
  simp [e1, e2, e3]
theorem enc_four (r : Nat) (h0 : 65536 ≤ r) (h1 : r ≤ 1114111) : encodeRune (r : Int) = [UInt8.ofNat (240 + r / 262144), UInt8.ofNat (128 + r / 4096 % 64), UInt8.ofNat (128 + r / 64 % 64), UInt8.ofNat (128 + r % 64)] := by
  unfold encodeRune
  rw [encodeRuneZ_four (by omega) (by omega)]
  have e1 : ((240 : Int) + (r : Int) / 262144).toNat = 240 + r / 262144 := by omega
  have e2 : ((128 : Int) + (r : Int) / 4096 % 64).toNat = 128 + r / 4096 % 64 := by omega
  have e3 : ((128 : Int) + (r : Int) / 64 % 64).toNat = 128 + r / 64 % 64 := by omega
  have e4 : ((128 : Int) + (r : Int) % 64).toNat = 128 + r % 64 := by omega
  simp [e1, e2, e3, e4]
/-- The form of a rune, behind which anything may stand, is decoded as it. -/
theorem decode_encode (r : Nat) (hv : Valid r) (rest : List UInt8) : decodeL (encodeRune (r : Int) ++ rest) = (r, (encodeRune (r : Int)).length) := by
  obtain ⟨h1, h2⟩ := hv
  by_cases c1 : r < 128
  · rw [enc_low r c1]
    have e := u8_of r (by omega)
    have h := decodeL_ascii (UInt8.ofNat r) rest (by omega)
    rw [e] at h
    exact h
  · by_cases c2 : r ≤ 2047
    · rw [enc_two r (by omega) c2, decodeL_N]
      simp only [List.cons_append, List.nil_append, List.length_cons, List.getD_cons_zero, List.getD_cons_succ]
      rw [u8_of _ (by omega), u8_of _ (by omega)]
      unfold decodeN
      rw [if_neg (by omega), if_pos ⟨by omega, by omega, by omega⟩, if_pos (by omega)]
      congr 1
      omega
    · by_cases c3 : r ≤ 65535
      · rw [enc_three r (by omega), decodeL_N]
        simp only [List.cons_append, List.nil_append, List.length_cons, List.getD_cons_zero, List.getD_cons_succ]
        rw [u8_of _ (by omega), u8_of _ (by omega), u8_of _ (by omega)]
        unfold decodeN
        rw [if_neg (by omega), if_neg (by omega), if_pos ⟨by omega, ⟨by omega, by omega⟩, by omega, by omega⟩, if_pos (by omega)]
        congr 1
        omega
      · rw [enc_four r (by omega) h1, decodeL_N]
        simp only [List.cons_append, List.nil_append, List.length_cons, List.getD_cons_zero, List.getD_cons_succ]
        rw [u8_of _ (by omega), u8_of _ (by omega), u8_of _ (by omega), u8_of _ (by omega)]
        unfold decodeN
        rw [if_neg (by omega), if_neg (by omega), if_neg (by omega), if_pos ⟨by omega, ⟨by omega, by omega⟩, ⟨by omega, by omega⟩, by omega, by omega⟩, if_pos (by omega)]
        congr 1
        omega
/-- What the first n bytes of a text say, read as a form of n bytes: after i of them. -/
def headV (n b : Nat) : Nat := if n = 2 then b % 32 else if n = 3 then b % 16 else if n = 4 then b % 8 else b
def valN (l : List UInt8) (n : Nat) : Nat → Nat
  | 0 => 0
  | 1 => headV n (l.getD 0 0).toNat
  | i + 2 => 64 * valN l n (i + 1) + (l.getD (i + 1) 0).toNat % 64
/-- Do the first n bytes of a text have that form? -/
def Fits (l : List UInt8) (n : Nat) : Prop := Valid (valN l n n) ∧ encodeRune (valN l n n : Int) = l.take n
theorem fits_decode {l : List UInt8} {n : Nat} (h : Fits l n) (hn : n ≤ l.length) : decodeL l = (valN l n n, n) ∧ ¬ (valN l n n = 65533 ∧ n = 1) := by
  obtain ⟨hv, he⟩ := h
  have hd := decode_encode (valN l n n) hv (l.drop n)
  rw [he, List.take_append_drop, List.length_take, Nat.min_eq_left hn] at hd
  refine ⟨hd, fun hh => ?_⟩
  rw [hh.1] at he
  have e1 := congrArg List.length he
  rw [List.length_take, hh.2] at e1
  rw [hh.2] at hn
  have e2 : (encodeRune ((65533 : Nat) : Int)).length = 3 := by decide
  omega
theorem decode_fits {l : List UInt8} (hne : l ≠ []) (hv : ¬ ((decodeL l).1 = 65533 ∧ (decodeL l).2 = 1)) : 1 ≤ (decodeL l).2 ∧ (decodeL l).2 ≤ 4 ∧ (decodeL l).2 ≤ l.length ∧ valN l (decodeL l).2 (decodeL l).2 = (decodeL l).1 ∧ Fits l (decodeL l).2 := by
  have he := encode_decode l hne hv
  have hle := decodeL_le l hne
  have key : 1 ≤ (decodeL l).2 ∧ (decodeL l).2 ≤ 4 ∧ valN l (decodeL l).2 (decodeL l).2 = (decodeL l).1 ∧ Valid (decodeL l).1 := by
    rw [decodeL_N] at hv ⊢
    have b0 := (l.getD 0 0).toNat_lt
    have b1 := (l.getD 1 0).toNat_lt
    have b2 := (l.getD 2 0).toNat_lt
    have b3 := (l.getD 3 0).toNat_lt
    unfold decodeN Valid at *
    by_cases k0 : (l.getD 0 0).toNat < 128
    · simp only [if_pos k0]
      refine ⟨by omega, by omega, ?_, by omega, by omega⟩
      simp [valN, headV]
    · simp only [if_neg k0] at *
      split at hv
      · split at hv
        · rename_i k2 q
          simp only [if_pos k2, if_pos q]
          refine ⟨by omega, by omega, ?_, by omega, by omega⟩
          simp only [valN, headV]
          simp
          omega
        · simp at hv
      · rename_i k2
        simp only [if_neg k2] at *
        split at hv
        · split at hv
          · rename_i k3 q
            simp only [if_pos k3, if_pos q]
            refine ⟨by omega, by omega, ?_, by omega, by omega⟩
            simp only [valN, headV]
            simp
            omega
          · simp at hv
        · rename_i k3
          simp only [if_neg k3] at *
          split at hv
          · split at hv
            · rename_i k4 q
              simp only [if_pos k4, if_pos q]
              refine ⟨by omega, by omega, ?_, by omega, by omega⟩
              simp only [valN, headV]
              simp
              omega
            · simp at hv
          · simp at hv
  obtain ⟨k1, k2, k3, k4⟩ := key
  refine ⟨k1, k2, hle, k3, ?_, ?_⟩
  · rw [k3]; exact k4
  · rw [k3]; exact he
/-- What begins says of a text. -/
def begW (l : List UInt8) : Nat × Nat := if (decodeL l).1 = 65533 ∧ (decodeL l).2 = 1 then (0, 0) else decodeL l
theorem beg_fits {l : List UInt8} {n : Nat} (h : Fits l n) (hn : n ≤ l.length) : begW l = (valN l n n, n) := by
  obtain ⟨h1, h2⟩ := fits_decode h hn
  unfold begW
  rw [h1, if_neg h2]
theorem beg_none {l : List UInt8} (hne : l ≠ []) (h : ∀ n, 1 ≤ n → n ≤ 4 → n ≤ l.length → ¬ Fits l n) : begW l = (0, 0) := by
  unfold begW
  by_cases hv : (decodeL l).1 = 65533 ∧ (decodeL l).2 = 1
  · rw [if_pos hv]
  · obtain ⟨a, b, c, _, e⟩ := decode_fits hne hv
    exact absurd e (h _ a b c)
theorem valN_lt (l : List UInt8) (n : Nat) (hn : 1 ≤ n) (hn4 : n ≤ 4) : ∀ i, 1 ≤ i → i ≤ n → valN l n i < 2097152 := by
  intro i h1 h2
  have b0 := (l.getD 0 0).toNat_lt
  have b1 := (l.getD 1 0).toNat_lt
  have b2 := (l.getD 2 0).toNat_lt
  have b3 := (l.getD 3 0).toNat_lt
  have hh : headV n (l.getD 0 0).toNat < 256 ∧ (n = 2 → headV n (l.getD 0 0).toNat < 32) ∧ (n = 3 → headV n (l.getD 0 0).toNat < 16) ∧ (n = 4 → headV n (l.getD 0 0).toNat < 8) := by
    unfold headV
    refine ⟨by split <;> (try split) <;> (try split) <;> omega, fun h => by rw [if_pos h]; omega, fun h => by rw [if_neg (by omega), if_pos h]; omega, fun h => by rw [if_neg (by omega), if_neg (by omega), if_pos h]; omega⟩
  match i, h1 with
  | 1, _ => show headV n _ < _; omega
  | 2, _ => show 64 * headV n _ + _ < _; omega
  | 3, _ => show 64 * (64 * headV n _ + _) + _ < _; omega
  | 4, _ => show 64 * (64 * (64 * headV n _ + _) + _) + _ < _; omega
  | k + 5, _ => omega
end Go.Proofs.YtaoekpedjgnnjaaDoor.Wd
