/- The runes that a text shows, one by one. Plain facts. -/
import Derived.Test.YtaoekpedjgnnjaaDoorWeT
namespace Go.Proofs.YtaoekpedjgnnjaaDoor.Wd
open Go.Lib Nums

def tokP (p : List UInt8) (r : Nat) : List (List UInt8) := if hidn p r then (p.flatMap escB).map (fun d => [d]) else if r = 92 then [[92], [92]] else [p]
def tokF : Nat → List UInt8 → List (List UInt8)
  | 0, _ => []
  | f + 1, l => if l = [] then [] else tokP (l.take (decodeL l).2) (decodeL l).1 ++ tokF f (l.drop (decodeL l).2)
/-- The runes that a text shows, each by its bytes. -/
def tokW (l : List UInt8) : List (List UInt8) := tokF l.length l
theorem tokF_fuel : ∀ (f : Nat) (l : List UInt8), l.length ≤ f → tokF f l = tokW l
  | 0, l, h => by
    rw [List.eq_nil_of_length_eq_zero (by omega : l.length = 0)]
    rfl
  | f + 1, l, h => by
    by_cases hl : l = []
    · subst hl
      rfl
    · have hd := drop_less l hl
      obtain ⟨n, hn⟩ : ∃ n, l.length = n + 1 := ⟨l.length - 1, by have := List.length_pos_iff.2 hl; omega⟩
      unfold tokW
      rw [hn, tokF, tokF, if_neg hl, if_neg hl, tokF_fuel f _ (by omega), tokF_fuel n _ (by omega)]
theorem tokW_nil : tokW [] = [] := rfl
theorem tokW_step (l : List UInt8) (hl : l ≠ []) : tokW l = tokP (l.take (decodeL l).2) (decodeL l).1 ++ tokW (l.drop (decodeL l).2) := by
  have hd := drop_less l hl
  obtain ⟨n, hn⟩ : ∃ n, l.length = n + 1 := ⟨l.length - 1, by have := List.length_pos_iff.2 hl; omega⟩
  rw [← tokF_fuel (n + 1) l (by omega), tokF, if_neg hl, tokF_fuel n _ (by omega)]
/-- A rune by its bytes. -/
def TokE (q : List UInt8) : Prop := q ≠ [] ∧ q.length ≤ 4 ∧ ∃ r : Nat, r ≤ 1114111 ∧ (∀ rest, decodeL (q ++ rest) = (r, q.length)) ∧ encodeRune (r : Int) = q
theorem byte_of_nat (c : UInt8) : UInt8.ofNat c.toNat = c := by simp
theorem tokE_byte (c : UInt8) (h2 : c.toNat < 128) : TokE [c] :=
  ⟨by simp, by simp, c.toNat, by omega, fun rest => decodeL_ascii c rest h2, by rw [enc_low _ h2, byte_of_nat]⟩
theorem tokP_all (l : List UInt8) (hne : l ≠ []) : (tokP (l.take (decodeL l).2) (decodeL l).1).flatten = shownP (l.take (decodeL l).2) (decodeL l).1 ∧ (∀ q ∈ tokP (l.take (decodeL l).2) (decodeL l).1, TokE q) ∧ (tokP (l.take (decodeL l).2) (decodeL l).1).length = widthP (l.take (decodeL l).2) (decodeL l).1 := by
  have hpl := part_len l hne
  have hw := decodeL_width l
  unfold tokP shownP widthP
  by_cases hh : hidn (l.take (decodeL l).2) (decodeL l).1 = true
  · rw [if_pos hh, if_pos hh, if_pos hh]
    refine ⟨flat_one _, fun q hq => ?_, by rw [List.length_map, escs_len]⟩
    obtain ⟨d, hd, rfl⟩ := List.mem_map.1 hq
    obtain ⟨c, _, hdc⟩ := List.mem_flatMap.1 hd
    obtain ⟨h1, h2⟩ := esc_clear c d hdc
    exact tokE_byte d (by omega)
  · have hh' : hidn (l.take (decodeL l).2) (decodeL l).1 = false := by simpa using hh
    obtain ⟨hv, h32, h127⟩ := hidn_off hh'
    rw [hpl] at hv
    rw [if_neg hh, if_neg hh, if_neg hh]
    by_cases h92 : (decodeL l).1 = 92
    · rw [if_pos h92, if_pos h92, if_pos h92]
      refine ⟨rfl, fun q hq => ?_, rfl⟩
      have : q = [92] := by simpa using hq
      subst this
      exact tokE_byte 92 (by decide)
    · rw [if_neg h92, if_neg h92, if_neg h92]
      refine ⟨by simp, fun q hq => ?_, rfl⟩
      have : q = l.take (decodeL l).2 := by simpa using hq
      subst this
      have he := encode_decode l hne hv
      refine ⟨fun e => by rw [e] at hpl; simp at hpl; omega, ?_, (decodeL l).1, decodeL_rune l, fun rest => by rw [dec_local l rest hne hv, hpl], he⟩
      rw [← he, encodeRune, List.length_map]
      exact (encodeRuneZ_length _).2
theorem tokW_all : ∀ (n : Nat) (l : List UInt8), l.length ≤ n → (tokW l).flatten = showW l ∧ (∀ q ∈ tokW l, TokE q) ∧ (tokW l).length = widthW l
  | 0, l, h => by
    rw [List.eq_nil_of_length_eq_zero (by omega : l.length = 0)]
    exact ⟨rfl, fun q hq => absurd hq (by simp [tokW_nil]), rfl⟩
  | n + 1, l, h => by
    by_cases hl : l = []
    · subst hl
      exact ⟨rfl, fun q hq => absurd hq (by simp [tokW_nil]), rfl⟩
    · have hd := drop_less l hl
      obtain ⟨e1, a1, n1⟩ := tokP_all l hl
      obtain ⟨e2, a2, n2⟩ := tokW_all n (l.drop (decodeL l).2) (by omega)
      rw [tokW_step l hl, showW_step l hl, widthW_step l hl]
      refine ⟨by rw [List.flatten_append, e1, e2], fun q hq => ?_, by rw [List.length_append, n1, n2]⟩
      rcases List.mem_append.1 hq with h1 | h1
      · exact a1 q h1
      · exact a2 q h1
theorem toks (l : List UInt8) : (tokW l).flatten = showW l ∧ (∀ q ∈ tokW l, TokE q) ∧ (tokW l).length = widthW l := tokW_all _ l (Nat.le_refl _)
theorem flat_len (T : List (List UInt8)) (h : ∀ q ∈ T, TokE q) : T.flatten.length ≤ 4 * T.length := by
  induction T with
  | nil => exact Nat.zero_le _
  | cons q T ih =>
    have h1 := (h q List.mem_cons_self).2.1
    have h2 := ih fun z hz => h z (List.mem_cons_of_mem _ hz)
    rw [List.flatten_cons, List.length_append, List.length_cons]
    omega
/-- A text in just n runes. -/
def fitW (l : List UInt8) (n : Nat) : List UInt8 := if widthW l ≤ n then showW l ++ List.replicate (n - widthW l) 32 else ((tokW l).take (n - 1)).flatten ++ [126]
end Go.Proofs.YtaoekpedjgnnjaaDoor.Wd
