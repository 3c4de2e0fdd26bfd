/- What is shown is a row of runes, none of which breaks a line; as many as the width. Plain facts. -/
import Derived.Test.YtaoekpedjgnnjaaDoorWeM
import Derived.Lib.TrimAscii
namespace Go.Proofs.YtaoekpedjgnnjaaDoor.Wd
open Go.Lib Nums

/-- A rune as it is shown. -/
def Tok (p : List UInt8) : Prop := p ≠ [] ∧ ∃ r : Nat, (∀ rest, decodeL (p ++ rest) = (r, p.length)) ∧ 32 ≤ r ∧ ¬ (127 ≤ r ∧ r ≤ 159) ∧ (r = 65533 → p.getD 0 0 = 239)
theorem tok_byte (c : UInt8) (h1 : 32 ≤ c.toNat) (h2 : c.toNat ≤ 126) : Tok [c] :=
  ⟨by simp, c.toNat, fun rest => decodeL_ascii c rest (by omega), h1, by omega, fun h => by omega⟩
theorem esc_clear0 : ∀ k : Fin 256, ∀ d ∈ escB (UInt8.ofNat k.val), 32 ≤ d.toNat ∧ d.toNat ≤ 126 := by decide +kernel
theorem esc_clear (c : UInt8) : ∀ d ∈ escB c, 32 ≤ d.toNat ∧ d.toNat ≤ 126 := by
  have h := esc_clear0 ⟨c.toNat, c.toNat_lt⟩
  simpa using h
theorem flat_one : ∀ l : List UInt8, (l.map fun d => [d]).flatten = l
  | [] => rfl
  | c :: l => by
    show [c] ++ (l.map fun d => [d]).flatten = _
    rw [flat_one l]
    rfl
theorem toks_part (l : List UInt8) (hne : l ≠ []) : ∃ ps : List (List UInt8), shownP (l.take (decodeL l).2) (decodeL l).1 = ps.flatten ∧ (∀ q ∈ ps, Tok q) ∧ ps.length = widthP (l.take (decodeL l).2) (decodeL l).1 := by
  have hpl := part_len l hne
  have hw := decodeL_width l
  unfold shownP widthP
  by_cases hh : hidn (l.take (decodeL l).2) (decodeL l).1 = true
  · rw [if_pos hh, if_pos hh]
    refine ⟨((l.take (decodeL l).2).flatMap escB).map fun d => [d], (flat_one _).symm, fun q hq => ?_, by rw [List.length_map, escs_len]⟩
    obtain ⟨d, hd, rfl⟩ := List.mem_map.1 hq
    obtain ⟨c, _, hdc⟩ := List.mem_flatMap.1 hd
    obtain ⟨h1, h2⟩ := esc_clear c d hdc
    exact tok_byte d h1 h2
  · have hh' : hidn (l.take (decodeL l).2) (decodeL l).1 = false := by simpa using hh
    obtain ⟨hv, h32, h127⟩ := hidn_off hh'
    rw [hpl] at hv
    rw [if_neg hh, if_neg hh]
    by_cases h92 : (decodeL l).1 = 92
    · rw [if_pos h92, if_pos h92]
      refine ⟨[[92], [92]], rfl, fun q hq => ?_, rfl⟩
      have : q = [92] := by simpa using hq
      subst this
      exact tok_byte 92 (by decide) (by decide)
    · rw [if_neg h92, if_neg h92]
      refine ⟨[l.take (decodeL l).2], by simp, fun q hq => ?_, rfl⟩
      have : q = l.take (decodeL l).2 := by simpa using hq
      subst this
      refine ⟨fun e => by rw [e] at hpl; simp at hpl; omega, (decodeL l).1, fun rest => by rw [dec_local l rest hne hv, hpl], h32, h127, fun h => ?_⟩
      have he := encode_decode l hne hv
      rw [h] at he
      rw [← he]
      decide
theorem toks_show : ∀ (n : Nat) (l : List UInt8), l.length ≤ n → ∃ ps : List (List UInt8), showW l = ps.flatten ∧ (∀ q ∈ ps, Tok q) ∧ ps.length = widthW l
  | 0, l, h => by
    rw [List.eq_nil_of_length_eq_zero (by omega : l.length = 0)]
    exact ⟨[], rfl, fun q hq => absurd hq (by simp), rfl⟩
  | n + 1, l, h => by
    by_cases hl : l = []
    · subst hl
      exact ⟨[], rfl, fun q hq => absurd hq (by simp), rfl⟩
    · have hd := drop_less l hl
      obtain ⟨ps, e1, a1, n1⟩ := toks_part l hl
      obtain ⟨qs, e2, a2, n2⟩ := toks_show n (l.drop (decodeL l).2) (by omega)
      refine ⟨ps ++ qs, by rw [showW_step l hl, e1, e2, List.flatten_append], fun q hq => ?_, by rw [widthW_step l hl, List.length_append, n1, n2]⟩
      rcases List.mem_append.1 hq with h1 | h1
      · exact a1 q h1
      · exact a2 q h1
end Go.Proofs.YtaoekpedjgnnjaaDoor.Wd
