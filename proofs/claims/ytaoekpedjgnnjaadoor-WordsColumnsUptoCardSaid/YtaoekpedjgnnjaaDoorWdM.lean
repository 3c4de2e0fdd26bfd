/- What a text is shown as, byte by byte: the mathematics of words' Show. No program. -/
import Derived.Lib.MapLaws
import Derived.Lib.TrimUEq
import Derived.Lib.RuneCountTail
namespace Go.Proofs.YtaoekpedjgnnjaaDoor.Wd
open Go.Lib

def hd (n : Nat) : UInt8 := if n < 10 then UInt8.ofNat (48 + n) else UInt8.ofNat (87 + n)
/-- A byte that is shown by its number. -/
def escB (b : UInt8) : List UInt8 := [92, 120, hd (b.toNat / 16), hd (b.toNat % 16)]
/-- Is this part, with rune r in it, shown by its bytes? -/
def hidn (p : List UInt8) (r : Nat) : Bool := (decide (r = 65533) && decide (p.length = 1)) || decide (r < 32) || (decide (127 ≤ r) && decide (r ≤ 159))
def shownP (p : List UInt8) (r : Nat) : List UInt8 := if hidn p r then p.flatMap escB else if r = 92 then [92, 92] else p
/-- How many runes a part is shown in. -/
def widthP (p : List UInt8) (r : Nat) : Nat := if hidn p r then 4 * p.length else if r = 92 then 2 else 1
def showF : Nat → List UInt8 → List UInt8
  | 0, _ => []
  | f + 1, l => if l = [] then [] else shownP (l.take (decodeL l).2) (decodeL l).1 ++ showF f (l.drop (decodeL l).2)
def widthF : Nat → List UInt8 → Nat
  | 0, _ => 0
  | f + 1, l => if l = [] then 0 else widthP (l.take (decodeL l).2) (decodeL l).1 + widthF f (l.drop (decodeL l).2)
def showW (l : List UInt8) : List UInt8 := showF l.length l
def widthW (l : List UInt8) : Nat := widthF l.length l
theorem drop_less (l : List UInt8) (h : l ≠ []) : (l.drop (decodeL l).2).length < l.length := by
  have h1 := decodeL_width l
  have h2 := List.length_pos_iff.2 h
  rw [List.length_drop]
  omega
theorem showF_fuel : ∀ (f : Nat) (l : List UInt8), l.length ≤ f → showF f l = showW l
  | 0, l, h => by
    rw [List.eq_nil_of_length_eq_zero (by omega : l.length = 0)]
    rfl
  | f + 1, l, h => by
    by_cases hl : l = []
    · subst hl
      rfl
    · have hd := drop_less l hl
      obtain ⟨n, hn⟩ : ∃ n, l.length = n + 1 := ⟨l.length - 1, by have := List.length_pos_iff.2 hl; omega⟩
      unfold showW
      rw [hn, showF, showF, if_neg hl, if_neg hl, showF_fuel f _ (by omega), showF_fuel n _ (by omega)]
theorem showW_nil : showW [] = [] := rfl
theorem showW_step (l : List UInt8) (hl : l ≠ []) : showW l = shownP (l.take (decodeL l).2) (decodeL l).1 ++ showW (l.drop (decodeL l).2) := by
  have hd := drop_less l hl
  obtain ⟨n, hn⟩ : ∃ n, l.length = n + 1 := ⟨l.length - 1, by have := List.length_pos_iff.2 hl; omega⟩
  rw [← showF_fuel (n + 1) l (by omega), showF, if_neg hl, showF_fuel n _ (by omega)]
theorem widthF_fuel : ∀ (f : Nat) (l : List UInt8), l.length ≤ f → widthF f l = widthW l
  | 0, l, h => by
    rw [List.eq_nil_of_length_eq_zero (by omega : l.length = 0)]
    rfl
  | f + 1, l, h => by
    by_cases hl : l = []
    · subst hl
      rfl
    · have hd := drop_less l hl
      obtain ⟨n, hn⟩ : ∃ n, l.length = n + 1 := ⟨l.length - 1, by have := List.length_pos_iff.2 hl; omega⟩
      unfold widthW
      rw [hn, widthF, widthF, if_neg hl, if_neg hl, widthF_fuel f _ (by omega), widthF_fuel n _ (by omega)]
theorem widthW_step (l : List UInt8) (hl : l ≠ []) : widthW l = widthP (l.take (decodeL l).2) (decodeL l).1 + widthW (l.drop (decodeL l).2) := by
  have hd := drop_less l hl
  obtain ⟨n, hn⟩ : ∃ n, l.length = n + 1 := ⟨l.length - 1, by have := List.length_pos_iff.2 hl; omega⟩
  rw [← widthF_fuel (n + 1) l (by omega), widthF, if_neg hl, widthF_fuel n _ (by omega)]
theorem escs_len : ∀ p : List UInt8, (p.flatMap escB).length = 4 * p.length
  | [] => rfl
  | c :: p => by
    simp only [List.flatMap_cons, List.length_append, escs_len p, List.length_cons]
    simp [escB]
    omega
theorem shownP_len (p : List UInt8) (r : Nat) (hp : 1 ≤ p.length) : (shownP p r).length ≤ 4 * p.length := by
  unfold shownP
  split
  · rw [escs_len]; omega
  · split
    · simp; omega
    · omega
theorem widthP_le (p : List UInt8) (r : Nat) (hp : 1 ≤ p.length) : widthP p r ≤ 4 * p.length := by
  unfold widthP
  split
  · omega
  · split <;> omega
theorem part_len (l : List UInt8) (hl : l ≠ []) : (l.take (decodeL l).2).length = (decodeL l).2 := by
  have := decodeL_le l hl
  simp
  omega
theorem showW_len : ∀ (n : Nat) (l : List UInt8), l.length ≤ n → (showW l).length ≤ 4 * l.length
  | 0, l, h => by
    rw [List.eq_nil_of_length_eq_zero (by omega : l.length = 0)]
    simp [showW_nil]
  | n + 1, l, h => by
    by_cases hl : l = []
    · subst hl; simp [showW_nil]
    · have hd := drop_less l hl
      have h1 := showW_len n (l.drop (decodeL l).2) (by omega)
      have h2 := part_len l hl
      have h3 := shownP_len (l.take (decodeL l).2) (decodeL l).1 (by rw [h2]; exact decodeL_width l)
      have h4 := decodeL_le l hl
      rw [showW_step l hl, List.length_append]
      rw [List.length_drop] at h1 hd
      omega
theorem widthW_len : ∀ (n : Nat) (l : List UInt8), l.length ≤ n → widthW l ≤ 4 * l.length
  | 0, l, h => by
    rw [List.eq_nil_of_length_eq_zero (by omega : l.length = 0)]
    simp [widthW, widthF]
  | n + 1, l, h => by
    by_cases hl : l = []
    · subst hl; simp [widthW, widthF]
    · have hd := drop_less l hl
      have h1 := widthW_len n (l.drop (decodeL l).2) (by omega)
      have h2 := part_len l hl
      have h3 := widthP_le (l.take (decodeL l).2) (decodeL l).1 (by rw [h2]; exact decodeL_width l)
      have h4 := decodeL_le l hl
      rw [widthW_step l hl]
      rw [List.length_drop] at h1 hd
      omega
end Go.Proofs.YtaoekpedjgnnjaaDoor.Wd
