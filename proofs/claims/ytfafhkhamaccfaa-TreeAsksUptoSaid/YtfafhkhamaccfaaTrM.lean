/- Trees as lists of nodes: what the document asks of one, and the list of those above a node. Plain facts. -/
import Derived.Test.YtfafhkhamaccfaaNm1
namespace Go.Proofs.Ytfafhkhamaccfaa.Tr
open wordsNames

/-- A node: its parent, its name, its props. -/
structure Nd where
  parent : Int
  name : List UInt8
  props : List (List UInt8 × List UInt8)
def nd0 : Nd := ⟨0, [], []⟩
/-- A node and those above it, from it on. -/
def aboveF (L : List Nd) : Nat → Int → List Nat
  | 0, _ => []
  | f + 1, i => if i < 0 then [] else i.toNat :: aboveF L f (L.getD i.toNat nd0).parent
def aboveN (L : List Nd) (j : Nat) : List Nat := aboveF L (j + 1) j
/-- Each of the first n nodes stands behind its parent. -/
def Behind (L : List Nd) (n : Nat) : Prop := ∀ k, k < n → (L.getD k nd0).parent < (k : Int)
theorem aboveF_neg (L : List Nd) (f : Nat) (i : Int) (h : i < 0) : aboveF L f i = [] := by
  cases f with
  | zero => rfl
  | succ f => rw [aboveF, if_pos h]
theorem aboveF_fuel (L : List Nd) (n : Nat) (hb : Behind L n) : ∀ (f g : Nat) (i : Int), i < (n : Int) → i < (f : Int) → i < (g : Int) → aboveF L f i = aboveF L g i
  | 0, g, i, _, h1, _ => by rw [aboveF_neg L 0 i (by omega), aboveF_neg L g i (by omega)]
  | f + 1, 0, i, _, _, h2 => by rw [aboveF_neg L (f + 1) i (by omega), aboveF_neg L 0 i (by omega)]
  | f + 1, g + 1, i, hn, h1, h2 => by
    by_cases hi : i < 0
    · rw [aboveF_neg L _ i hi, aboveF_neg L _ i hi]
    · rw [aboveF, aboveF, if_neg hi, if_neg hi]
      have h3 := hb i.toNat (by omega)
      rw [aboveF_fuel L n hb f g _ (by omega) (by omega) (by omega)]
theorem above_step (L : List Nd) (n : Nat) (hb : Behind L n) (j : Nat) (hj : j < n) : aboveN L j = j :: (if (L.getD j nd0).parent < 0 then [] else aboveN L (L.getD j nd0).parent.toNat) := by
  have h3 := hb j hj
  have e : aboveN L j = j :: aboveF L j (L.getD j nd0).parent := by
    unfold aboveN
    rw [aboveF, if_neg (by omega)]
    rfl
  rw [e]
  congr 1
  by_cases hp : (L.getD j nd0).parent < 0
  · rw [if_pos hp]
    exact aboveF_neg L _ _ hp
  · rw [if_neg hp]
    unfold aboveN
    rw [show ((L.getD j nd0).parent.toNat : Int) = (L.getD j nd0).parent by omega]
    exact aboveF_fuel L n hb _ _ _ (by omega) (by show _ < ((j : Nat) : Int); omega) (by omega)
theorem above_le (L : List Nd) (n : Nat) (hb : Behind L n) : ∀ (m j : Nat), j ≤ m → j < n → ∀ p ∈ aboveN L j, p ≤ j
  | m, j, hm, hj, p, hp => by
    rw [above_step L n hb j hj] at hp
    rcases List.mem_cons.1 hp with rfl | hp
    · exact Nat.le_refl _
    · split at hp
      · cases hp
      · rename_i hpos
        have h3 := hb j hj
        match m with
        | 0 => omega
        | m + 1 =>
          have := above_le L n hb m (L.getD j nd0).parent.toNat (by omega) (by omega) p hp
          omega
theorem above_self (L : List Nd) (j : Nat) : j ∈ aboveN L j := by
  unfold aboveN
  rw [aboveF, if_neg (by omega)]
  exact List.mem_cons_self
/-- Whoever is above a node: what is above the node is something ahead of what is above him. -/
theorem above_part (L : List Nd) (n : Nat) (hb : Behind L n) : ∀ (m j : Nat), j ≤ m → j < n → ∀ p ∈ aboveN L j, ∃ pre : List Nat, aboveN L j = pre ++ aboveN L p ∧ ∀ q ∈ pre, p < q
  | m, j, hm, hj, p, hp => by
    by_cases hpj : p = j
    · exact ⟨[], by rw [hpj]; rfl, fun q hq => by cases hq⟩
    · have hst := above_step L n hb j hj
      rw [hst] at hp
      rcases List.mem_cons.1 hp with h | hp
      · exact absurd h hpj
      · split at hp
        · cases hp
        · rename_i hpos
          have h3 := hb j hj
          match m with
          | 0 => omega
          | m + 1 =>
            obtain ⟨pre, h4, h5⟩ := above_part L n hb m (L.getD j nd0).parent.toNat (by omega) (by omega) p hp
            have h6 := above_le L n hb m (L.getD j nd0).parent.toNat (by omega) (by omega) p hp
            refine ⟨j :: pre, by rw [hst, if_neg hpos, h4]; rfl, fun q hq => ?_⟩
            rcases List.mem_cons.1 hq with rfl | hq
            · omega
            · exact h5 q hq

/-- The props that a node may have. -/
def propsOk (ps : List (List UInt8 × List UInt8)) : Prop :=
  ps.length ≤ 32 ∧ ∀ i, i < ps.length → (isName (ps.getD i ([], [])).1 = true ∧ (ps.getD i ([], [])).2.length ≤ 1024) ∧ ∀ k, k < i → (ps.getD k ([], [])).1 ≠ (ps.getD i ([], [])).1
/-- May the i-th node stand behind those ahead of it? -/
def nextOk (L : List Nd) (i : Nat) : Prop :=
  i < 512 ∧ propsOk (L.getD i nd0).props ∧ if i = 0 then (L.getD i nd0).parent = -1 ∧ (L.getD i nd0).name = [] else
    isName (L.getD i nd0).name = true ∧ 0 ≤ (L.getD i nd0).parent ∧ (L.getD i nd0).parent < (i : Int) ∧ (L.getD i nd0).parent.toNat ∈ aboveN L (i - 1) ∧ (aboveN L (L.getD i nd0).parent.toNat).length + 1 ≤ 16 ∧
      ∀ k, 1 ≤ k → k < i → ¬ ((L.getD k nd0).parent = (L.getD i nd0).parent ∧ (L.getD k nd0).name = (L.getD i nd0).name)
/-- What Check says of a list of nodes: a place, and an error. -/
def Chk (L : List Nd) (i : Nat) (er : Int) : Prop :=
  (i < L.length ∧ ¬ nextOk L i ∧ (∀ k, k < i → nextOk L k) ∧ er = 40) ∨ (L.length = 0 ∧ i = 0 ∧ er = 40) ∨ (0 < L.length ∧ (∀ k, k < L.length → nextOk L k) ∧ i = 0 ∧ er = 0)
theorem chk_ex (L : List Nd) : ∃ i er, Chk L i er := by
  by_cases h : ∀ k, k < L.length → nextOk L k
  · by_cases h0 : L.length = 0
    · exact ⟨0, 40, .inr (.inl ⟨h0, rfl, rfl⟩)⟩
    · exact ⟨0, 0, .inr (.inr ⟨by omega, h, rfl, rfl⟩)⟩
  · have key : ∀ n, (∃ k, k < n ∧ k < L.length ∧ ¬ nextOk L k) → ∃ i, i < L.length ∧ ¬ nextOk L i ∧ ∀ k, k < i → nextOk L k := by
      intro n
      induction n with
      | zero => rintro ⟨k, hk, _⟩; omega
      | succ n ih =>
        rintro ⟨k, hk, hl, hn⟩
        by_cases hs : ∃ k, k < n ∧ k < L.length ∧ ¬ nextOk L k
        · exact ih hs
        · refine ⟨k, hl, hn, fun m hm => ?_⟩
          exact Classical.byContradiction fun hc => hs ⟨m, by omega, by omega, hc⟩
    obtain ⟨k, hk⟩ := Classical.not_forall.1 h
    obtain ⟨hl, hn⟩ := Classical.not_imp.1 hk
    obtain ⟨i, h1, h2, h3⟩ := key (k + 1) ⟨k, by omega, hl, hn⟩
    exact ⟨i, 40, .inl ⟨h1, h2, h3, rfl⟩⟩
theorem chk_one {L : List Nd} {i i' : Nat} {er er' : Int} (h : Chk L i er) (h' : Chk L i' er') : i = i' ∧ er = er' := by
  rcases h with ⟨a1, a2, a3, rfl⟩ | ⟨a1, rfl, rfl⟩ | ⟨a1, a2, rfl, rfl⟩ <;> rcases h' with ⟨b1, b2, b3, rfl⟩ | ⟨b1, rfl, rfl⟩ | ⟨b1, b2, rfl, rfl⟩
  · refine ⟨?_, rfl⟩
    rcases Nat.lt_trichotomy i i' with h | h | h
    · exact absurd (b3 i h) a2
    · exact h
    · exact absurd (a3 i' h) b2
  · omega
  · exact absurd (b2 i a1) a2
  · omega
  · exact ⟨rfl, rfl⟩
  · omega
  · exact absurd (a2 i' b1) b2
  · omega
  · exact ⟨rfl, rfl⟩
theorem next_behind {L : List Nd} {n : Nat} (h : ∀ k, k < n → nextOk L k) : Behind L n := fun k hk => by
  obtain ⟨_, _, h3⟩ := h k hk
  split at h3
  · omega
  · omega
theorem next_parent {L : List Nd} {i : Nat} (h : nextOk L i) : -1 ≤ (L.getD i nd0).parent ∧ (L.getD i nd0).parent < (i : Int) := by
  obtain ⟨_, _, h3⟩ := h
  split at h3 <;> omega
/-- The way down to a node. -/
def way (L : List Nd) (j : Nat) : List Int := (aboveN L j).reverse.map fun (p : Nat) => (p : Int)
theorem way_zero {L : List Nd} (h : nextOk L 0) : way L 0 = [0] := by
  obtain ⟨_, _, h3⟩ := h
  rw [if_pos rfl] at h3
  unfold way aboveN
  rw [aboveF, if_neg (by omega), aboveF_neg L 0 _ (by show (L.getD 0 nd0).parent < 0; omega)]
  rfl
theorem way_len (L : List Nd) (j : Nat) : (way L j).length = (aboveN L j).length := by unfold way; rw [List.length_map, List.length_reverse]
/-- Where a number stands on the way, and how the way goes on from there. -/
theorem way_at {L : List Nd} {n j p : Nat} (hb : Behind L n) (hj : j < n) (hp : p ∈ aboveN L j) :
    ∃ post : List Int, way L j = way L p ++ post ∧ way L p = (way L p).dropLast ++ [(p : Int)] ∧ (∀ x ∈ (way L p).dropLast, x ≠ (p : Int)) ∧ 0 < (way L p).length := by
  obtain ⟨pre, h1, _⟩ := above_part L n hb j j (Nat.le_refl _) hj p hp
  have hpn : p < n := by have := above_le L n hb j j (Nat.le_refl _) hj p hp; omega
  have hst := above_step L n hb p hpn
  have hwp : way L p = (if (L.getD p nd0).parent < 0 then [] else way L (L.getD p nd0).parent.toNat) ++ [(p : Int)] := by
    unfold way
    rw [hst]
    split <;> simp
  refine ⟨pre.reverse.map fun (p : Nat) => (p : Int), by unfold way; rw [h1, List.reverse_append, List.map_append], ?_, ?_, ?_⟩
  · conv => rhs; rw [hwp]
    rw [List.dropLast_concat, ← hwp]
  · rw [hwp, List.dropLast_concat]
    intro x hx
    split at hx
    · cases hx
    · rename_i hpos
      unfold way at hx
      obtain ⟨q, hq, rfl⟩ := List.mem_map.1 hx
      have h3 := hb p hpn
      have h4 := above_le L n hb _ _ (Nat.le_refl _) (by omega) q (List.mem_reverse.1 hq)
      omega
  · rw [hwp]
    simp
theorem way_next {L : List Nd} {n i p : Nat} (hb : Behind L n) (hi : i < n) (hp : (L.getD i nd0).parent = (p : Int)) : way L i = way L p ++ [(i : Int)] := by
  unfold way
  rw [above_step L n hb i hi, if_neg (by omega), hp]
  simp
theorem way_mem {L : List Nd} {j : Nat} {x : Int} : x ∈ way L j ↔ 0 ≤ x ∧ x.toNat ∈ aboveN L j := by
  unfold way
  constructor
  · intro h
    obtain ⟨q, hq, rfl⟩ := List.mem_map.1 h
    exact ⟨by omega, by simpa using hq⟩
  · rintro ⟨h0, h⟩
    exact List.mem_map.2 ⟨x.toNat, List.mem_reverse.2 h, by omega⟩
end Go.Proofs.Ytfafhkhamaccfaa.Tr
