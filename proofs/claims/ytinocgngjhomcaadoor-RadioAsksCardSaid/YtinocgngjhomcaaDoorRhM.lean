/- Rows of twenty that change places, as plain mathematics: what Hops are (P12.2, P12.6). No program in it. -/
import Derived.Sort.LotD5
namespace Go.Proofs.YtinocgngjhomcaaDoor.Rh
open Go.Sort

/-- Two places change what they have. -/
def sw (l : List Nat) (i j : Nat) : List Nat := (l.set i (l.getD j 0)).set j (l.getD i 0)
theorem sw_len (l : List Nat) (i j : Nat) : (sw l i j).length = l.length := by simp [sw]
theorem sw_get (l : List Nat) (i j m : Nat) (hi : i < l.length) (hj : j < l.length) : (sw l i j).getD m 0 = l.getD (if m = j then i else if m = i then j else m) 0 := by
  unfold sw
  simp only [List.getD_eq_getElem?_getD, List.getElem?_set, List.length_set]
  by_cases h1 : m = j
  · subst h1
    rw [if_pos rfl, if_pos hj, if_pos rfl, List.getElem?_eq_getElem hi]
    rfl
  · rw [if_neg (fun h => h1 h.symm), if_neg h1]
    by_cases h2 : m = i
    · subst h2
      rw [if_pos rfl, if_pos hi, if_pos rfl, List.getElem?_eq_getElem hj]
      rfl
    · rw [if_neg (fun h => h2 h.symm), if_neg h2]
/-- Twenty places, each number below twenty once. -/
structure Good (l : List Nat) : Prop where
  len : l.length = 20
  lt : ∀ m, m < 20 → l.getD m 0 < 20
  inj : ∀ a b, a < 20 → b < 20 → l.getD a 0 = l.getD b 0 → a = b
theorem Good.sw {l : List Nat} (h : Good l) {i j : Nat} (hi : i < 20) (hj : j < 20) : Good (sw l i j) := by
  have h1 := h.len
  refine ⟨by rw [sw_len, h1], fun m hm => ?_, fun a b ha hb he => ?_⟩
  · rw [sw_get l i j m (by omega) (by omega)]
    split
    · exact h.lt _ hi
    · split
      · exact h.lt _ hj
      · exact h.lt _ hm
  · rw [sw_get l i j a (by omega) (by omega), sw_get l i j b (by omega) (by omega)] at he
    have := h.inj _ _ (by split; exact hi; split; exact hj; exact ha) (by split; exact hi; split; exact hj; exact hb) he
    split at this <;> split at this <;> (try split at this) <;> (try split at this) <;> omega
/-- The places from k down change with others, by the numbers that follow x. -/
def mixS : Nat → List Nat × Nat → List Nat × Nat
  | 0, s => s
  | k + 1, s => mixS k (sw s.1 (k + 1) (xorNextN s.2 % (k + 2)), xorNextN s.2)
theorem mixS_good (k : Nat) (hk : k < 20) : ∀ s : List Nat × Nat, Good s.1 → Good (mixS k s).1 := by
  induction k with
  | zero => exact fun s h => h
  | succ k ih =>
    intro s h
    refine ih (by omega) _ (h.sw hk ?_)
    have := Nat.mod_lt (xorNextN s.2) (show 0 < k + 2 by omega)
    omega
theorem mixS_lt (k : Nat) : ∀ s : List Nat × Nat, s.2 < 18446744073709551616 → (mixS k s).2 < 18446744073709551616 := by
  induction k with
  | zero => exact fun s h => h
  | succ k ih => exact fun s h => ih _ (xorNextN_lt _ h)
/-- A row behind a mixing, held against the last one that was told. -/
def fix (b : Bool) (p : Nat) (l : List Nat) : List Nat := if b = true ∧ l.getD 0 0 = p then sw l 0 1 else l
theorem fix_good {l : List Nat} (h : Good l) (b : Bool) (p : Nat) : Good (fix b p l) := by
  unfold fix
  split
  · exact h.sw (by omega) (by omega)
  · exact h
theorem fix_ne {l : List Nat} (h : Good l) (p : Nat) : (fix true p l).getD 0 0 ≠ p := by
  unfold fix
  split
  · rename_i hc
    rw [sw_get l 0 1 0 (by rw [h.len]; omega) (by rw [h.len]; omega)]
    intro he
    have := h.inj 0 1 (by omega) (by omega) (hc.2.trans (by rw [if_neg (by omega), if_pos rfl] at he; exact he.symm))
    omega
  · rename_i hc
    exact fun he => hc ⟨rfl, he⟩
/-- The row and the number behind so many rounds. -/
def st (x : Nat) : Nat → List Nat × Nat
  | 0 => (List.range 20, x)
  | r + 1 => (fix (decide (0 < r)) ((st x r).1.getD 19 0) (mixS 19 (st x r)).1, (mixS 19 (st x r)).2)
theorem st_succ (x r : Nat) : st x (r + 1) = (fix (decide (0 < r)) ((st x r).1.getD 19 0) (mixS 19 (st x r)).1, (mixS 19 (st x r)).2) := by rw [st]
theorem good_range : Good (List.range 20) := by
  refine ⟨by simp, fun m hm => ?_, fun a b ha hb he => ?_⟩
  · simp [List.getD_eq_getElem?_getD, hm]
  · simpa [List.getD_eq_getElem?_getD, ha, hb] using he
theorem st_good (x : Nat) : ∀ r, Good (st x r).1
  | 0 => good_range
  | r + 1 => by
    have h := mixS_good 19 (by omega) _ (st_good x r)
    rw [st_succ]
    generalize mixS 19 (st x r) = m at h ⊢
    exact fix_good h _ _
theorem st_lt (x : Nat) (hx : x < 18446744073709551616) : ∀ r, (st x r).2 < 18446744073709551616
  | 0 => hx
  | r + 1 => by
    have h := mixS_lt 19 _ (st_lt x hx r)
    rw [st_succ]
    generalize mixS 19 (st x r) = m at h ⊢
    exact h
/-- What is told behind so many rounds. -/
def hops (x : Nat) : Nat → List Nat
  | 0 => []
  | r + 1 => hops x r ++ (st x (r + 1)).1
theorem hops_len (x : Nat) : ∀ r, (hops x r).length = 20 * r
  | 0 => rfl
  | r + 1 => by
    rw [hops, List.length_append, hops_len x r, (st_good x (r + 1)).len]
    omega
theorem hops_at (x : Nat) (r : Nat) : ∀ i, i < 20 * r → (hops x r).getD i 0 = (st x (i / 20 + 1)).1.getD (i % 20) 0 := by
  induction r with
  | zero => intro i h; omega
  | succ r ih =>
    intro i h
    rw [hops]
    by_cases hi : i < 20 * r
    · rw [List.getD_eq_getElem?_getD, List.getElem?_append_left (by rw [hops_len]; exact hi), ← List.getD_eq_getElem?_getD]
      exact ih i hi
    · rw [List.getD_eq_getElem?_getD, List.getElem?_append_right (by rw [hops_len]; omega), ← List.getD_eq_getElem?_getD, hops_len]
      rw [show i / 20 = r by omega, show i - 20 * r = i % 20 by omega]
theorem hops_pre (x : Nat) (r : Nat) : ∀ q, (hops x r).take (20 * r) = (hops x (r + q)).take (20 * r)
  | 0 => rfl
  | q + 1 => by
    rw [hops_pre x r q, show r + (q + 1) = r + q + 1 by omega, hops]
    rw [List.take_append_of_le_length (by rw [hops_len]; omega)]
theorem hops_take (x : Nat) (n r q : Nat) (h : n ≤ 20 * r) (hq : r ≤ q) : (hops x r).take n = (hops x q).take n := by
  obtain ⟨d, rfl⟩ : ∃ d, q = r + d := ⟨q - r, by omega⟩
  have := congrArg (List.take n) (hops_pre x r d)
  rw [List.take_take, List.take_take, Nat.min_eq_left h] at this
  exact this
theorem hops_succ (x r : Nat) : hops x (r + 1) = hops x r ++ (st x (r + 1)).1 := by rw [hops]
/-- The first n hops. -/
def hopN (x n : Nat) : List Nat := (hops x 205).take n
theorem hopN_len (x n : Nat) (h : n ≤ 4096) : (hopN x n).length = n := by
  unfold hopN
  rw [List.length_take, hops_len]
  omega
theorem hopN_take (x n k : Nat) (h : k ≤ n) : (hopN x n).take k = hopN x k := by
  unfold hopN
  rw [List.take_take, Nat.min_eq_left h]
theorem hopN_at (x n i : Nat) (h : n ≤ 4096) (hi : i < n) : (hopN x n).getD i 0 = (st x (i / 20 + 1)).1.getD (i % 20) 0 := by
  rw [← hops_at x 205 i (by omega)]
  unfold hopN
  rw [List.getD_eq_getElem?_getD, List.getElem?_take, if_pos hi, ← List.getD_eq_getElem?_getD]
theorem hopN_lt (x n i : Nat) (h : n ≤ 4096) (hi : i < n) : (hopN x n).getD i 0 < 20 := by
  rw [hopN_at x n i h hi]
  exact (st_good x _).lt _ (Nat.mod_lt _ (by omega))
theorem hopN_round (x n i j : Nat) (h : n ≤ 4096) (hi : i < n) (hj : i - i % 20 ≤ j) (hji : j < i) : (hopN x n).getD j 0 ≠ (hopN x n).getD i 0 := by
  rw [hopN_at x n i h hi, hopN_at x n j h (by omega), show j / 20 = i / 20 by omega]
  intro he
  have := (st_good x _).inj _ _ (Nat.mod_lt j (by omega)) (Nat.mod_lt i (by omega)) he
  omega
theorem hopN_next (x n i : Nat) (h : n ≤ 4096) (hi : i < n) (h0 : 0 < i) : (hopN x n).getD i 0 ≠ (hopN x n).getD (i - 1) 0 := by
  by_cases h1 : i % 20 = 0
  · rw [hopN_at x n i h hi, hopN_at x n (i - 1) h (by omega), h1]
    obtain ⟨r, hr⟩ : ∃ r, i / 20 = r + 1 := ⟨i / 20 - 1, by omega⟩
    rw [hr, show (i - 1) / 20 + 1 = r + 1 by omega, show (i - 1) % 20 = 19 by omega]
    have h := mixS_good 19 (by omega) _ (st_good x (r + 1))
    rw [st_succ x (r + 1), show decide (0 < r + 1) = true by simp]
    generalize mixS 19 (st x (r + 1)) = m at h ⊢
    exact fix_ne h _
  · exact fun he => hopN_round x n i (i - 1) h hi (by omega) (by omega) he.symm
/-- One more round, cut off at n: what is behind it. -/
theorem hops_more (x n r : Nat) (h : 20 * r < n) (hn : n ≤ 4096) : hopN x (20 * r) ++ (st x (r + 1)).1.take (min 20 (n - 20 * r)) = hopN x (min (20 * (r + 1)) n) := by
  have h1 : hopN x (20 * r) = hops x r := by
    unfold hopN
    rw [← hops_take x (20 * r) r 205 (by omega) (by omega), List.take_of_length_le (by rw [hops_len]; omega)]
  have h2 : hopN x (min (20 * (r + 1)) n) = (hops x r ++ (st x (r + 1)).1).take (min (20 * (r + 1)) n) := by
    unfold hopN
    rw [← hops_take x (min (20 * (r + 1)) n) (r + 1) 205 (by omega) (by omega), hops_succ]
  rw [h1, h2, List.take_append, hops_len, List.take_of_length_le (l := hops x r) (by rw [hops_len]; omega)]
  rw [show min (20 * (r + 1)) n - 20 * r = min 20 (n - 20 * r) by omega]
/-- The last hop that was told. -/
theorem hopN_last (x r : Nat) (h : 20 * (r + 1) ≤ 4096) : (hopN x (20 * (r + 1))).getD (20 * (r + 1) - 1) 0 = (st x (r + 1)).1.getD 19 0 := by
  rw [hopN_at x _ _ h (by omega), show (20 * (r + 1) - 1) / 20 = r by omega, show (20 * (r + 1) - 1) % 20 = 19 by omega]
end Go.Proofs.YtinocgngjhomcaaDoor.Rh
