/- Marks and middles, plain: what SensorParts asks of them. -/
import Derived.Test.YtjpimamjcckieaaDoorSeY
import Derived.Test.YtjpimamjcckieaaDoorPqK
namespace Go.Proofs.YtjpimamjcckieaaDoor.Se
open Go.Sort

theorem zr_facts {xs : List Int} {deg : Int} : ∀ {k r : Nat}, zr xs deg k = some r → r ≤ k ∧ (∀ i, i < r → xs[i]! ≤ deg) ∧ (∀ i, r ≤ i → i < k → deg < xs[i]!) := by
  intro k
  induction k with
  | zero =>
    intro r h
    obtain rfl : 0 = r := Option.some.inj h
    exact ⟨Nat.le_refl _, fun i hi => absurd hi (Nat.not_lt_zero _), fun i _ hi => absurd hi (Nat.not_lt_zero _)⟩
  | succ k ih =>
    intro r h
    cases e : zr xs deg k with
    | none => rw [zr_none e (Nat.le_succ k)] at h; cases h
    | some r0 =>
      obtain ⟨h1, h2, h3⟩ := ih e
      by_cases hl : 0 < k ∧ xs[k]! ≤ xs[k - 1]!
      · rw [zr_stop e hl.1 hl.2] at h; cases h
      · rw [zr_go e hl] at h
        by_cases hd : xs[k]! ≤ deg
        · rw [if_pos hd] at h
          obtain rfl : k + 1 = r := Option.some.inj h
          have hr : r0 = k := by
            by_cases c : r0 = k
            · exact c
            · have h4 := h3 (k - 1) (by omega) (by omega)
              have h5 : ¬ xs[k]! ≤ xs[k - 1]! := fun q => hl ⟨by omega, q⟩
              omega
          refine ⟨Nat.le_refl _, fun i hi => ?_, fun i hi hi' => by omega⟩
          by_cases c : i = k
          · rw [c]; exact hd
          · exact h2 i (by omega)
        · rw [if_neg hd] at h
          obtain rfl : r0 = r := Option.some.inj h
          refine ⟨by omega, h2, fun i hi hi' => ?_⟩
          by_cases c : i = k
          · rw [c]; omega
          · exact h3 i hi (by omega)
/-- Of the first k marks as many are reached as of all of them, or all k. -/
theorem zr_min {xs : List Int} {deg : Int} {n z k : Nat} (h : zr xs deg n = some z) (hk : k ≤ n) : zr xs deg k = some (min z k) := by
  obtain ⟨h1, h2, h3⟩ := zr_facts h
  cases e : zr xs deg k with
  | none => rw [zr_none e hk] at h; cases h
  | some r =>
    obtain ⟨g1, g2, g3⟩ := zr_facts e
    have a1 : r < z → r < k → False := fun p q => by have := g3 r (Nat.le_refl _) q; have := h2 r p; omega
    have a2 : z < r → False := fun p => by have := h3 z (Nat.le_refl _) (by omega); have := g2 z p; omega
    have : r = min z k := by
      rcases Nat.lt_trichotomy r z with c | c | c
      · have q : ¬ r < k := fun q => a1 c q
        omega
      · omega
      · exact (a2 c).elim
    rw [this]
theorem take_get {xs : List Int} {k i : Nat} (h : i < k) : (xs.take k)[i]! = xs[i]! := by
  by_cases c : i < xs.length
  · rw [getElem!_pos _ i (by rw [List.length_take]; omega), getElem!_pos _ i c, List.getElem_take]
  · rw [getElem!_neg _ i (by rw [List.length_take]; omega), getElem!_neg _ i c]
theorem zr_take {xs : List Int} {deg : Int} {k : Nat} : ∀ j, j ≤ k → zr (xs.take k) deg j = zr xs deg j := by
  intro j
  induction j with
  | zero => intro _; rfl
  | succ j ih =>
    intro hj
    cases e : zr xs deg j with
    | none => rw [zr_none e (Nat.le_succ j), zr_none ((ih (by omega)).trans e) (Nat.le_succ j)]
    | some r =>
      have e2 := (ih (by omega)).trans e
      have q1 : (xs.take k)[j]! = xs[j]! := take_get (by omega)
      have q2 : (xs.take k)[j - 1]! = xs[j - 1]! := take_get (by omega)
      by_cases hl : 0 < j ∧ xs[j]! ≤ xs[j - 1]!
      · rw [zr_stop e hl.1 hl.2, zr_stop e2 hl.1 (by rw [q1, q2]; exact hl.2)]
      · rw [zr_go e hl, zr_go e2 (by rw [q1, q2]; exact hl), q1]

theorem sort_len (L : List Int) : (sort ltInt L.toArray).size = L.length := by
  have := (sort_sorts ltInt swo_ltInt L.toArray).1.1
  simpa using this
theorem sort_perm (L : List Int) : (sort ltInt L.toArray).toList.Perm L := by
  have h := (sort_sorts ltInt swo_ltInt L.toArray).1.2.2
  have e : L.toArray.size = (sort ltInt L.toArray).size := by rw [sort_len]; simp
  rw [e, Array.extract_size, ← e, Array.extract_size] at h
  exact h
theorem sort_le (L : List Int) {i j : Nat} (h : i ≤ j) (hj : j < L.length) : (sort ltInt L.toArray)[i]! ≤ (sort ltInt L.toArray)[j]! := by
  by_cases c : i = j
  · rw [c]; exact Int.le_refl _
  · have := (sort_sorts ltInt swo_ltInt L.toArray).2 i j (Nat.zero_le _) (by omega) (by simpa using hj)
    have q : ¬ (sort ltInt L.toArray)[j]! < (sort ltInt L.toArray)[i]! := of_decide_eq_false this
    omega
theorem count_all {p : Int → Bool} : ∀ (l : List Int), (∀ i, i < l.length → p l[i]! = true) → l.countP p = l.length := by
  intro l h
  rw [List.countP_eq_length]
  intro x hx
  obtain ⟨i, hi, rfl⟩ := List.getElem_of_mem hx
  have := h i hi
  rwa [getElem!_pos l i hi] at this
theorem get_list (d : Array Int) (i : Nat) : d.toList[i]! = d[i]! := by
  by_cases c : i < d.size
  · rw [getElem!_pos _ i (by simpa using c), getElem!_pos _ i c, Array.getElem_toList]
  · rw [getElem!_neg _ i (by simpa using c), getElem!_neg _ i c]
theorem mid_low (L : List Int) (h : 0 < L.length) : L.length ≤ 2 * L.countP (fun x => decide (x ≤ Pq.midV L)) := by
  have hn := sort_len L
  rw [← (sort_perm L).countP_eq]
  have hl : (sort ltInt L.toArray).toList.length = L.length := by simpa using hn
  have e := List.take_append_drop ((L.length - 1) / 2 + 1) (sort ltInt L.toArray).toList
  rw [← e, List.countP_append]
  have := count_all (p := fun x => decide (x ≤ Pq.midV L)) ((sort ltInt L.toArray).toList.take ((L.length - 1) / 2 + 1)) (fun i hi => by
    rw [List.length_take, hl] at hi
    rw [take_get (by omega), get_list]
    exact decide_eq_true (sort_le L (by omega) (by omega)))
  rw [List.length_take, hl] at this
  omega
theorem drop_get {xs : List Int} {k i : Nat} : (xs.drop k)[i]! = xs[k + i]! := by
  by_cases c : k + i < xs.length
  · rw [getElem!_pos _ i (by rw [List.length_drop]; omega), getElem!_pos _ (k + i) c, List.getElem_drop]
  · rw [getElem!_neg _ i (by rw [List.length_drop]; omega), getElem!_neg _ (k + i) c]
theorem mid_high (L : List Int) (h : 0 < L.length) : L.length ≤ 2 * L.countP (fun x => decide (Pq.midV L ≤ x)) := by
  have hn := sort_len L
  rw [← (sort_perm L).countP_eq]
  have hl : (sort ltInt L.toArray).toList.length = L.length := by simpa using hn
  have e := List.take_append_drop ((L.length - 1) / 2) (sort ltInt L.toArray).toList
  rw [← e, List.countP_append]
  have := count_all (p := fun x => decide (Pq.midV L ≤ x)) ((sort ltInt L.toArray).toList.drop ((L.length - 1) / 2)) (fun i hi => by
    rw [List.length_drop, hl] at hi
    rw [drop_get, get_list]
    exact decide_eq_true (sort_le L (by omega) (by omega)))
  rw [List.length_drop, hl] at this
  omega
theorem count_none {p : Int → Bool} : ∀ (l : List Int), (∀ i, i < l.length → p l[i]! = false) → l.countP p = 0 := by
  intro l h
  rw [List.countP_eq_zero]
  intro x hx
  obtain ⟨i, hi, rfl⟩ := List.getElem_of_mem hx
  have := h i hi
  rw [getElem!_pos l i hi] at this
  rw [this]
  exact Bool.false_ne_true
/-- Below the middle lies less than half. -/
theorem mid_least (L : List Int) (h : 0 < L.length) {d : Int} (hd : d < Pq.midV L) : 2 * L.countP (fun x => decide (x ≤ d)) < L.length := by
  have hn := sort_len L
  rw [← (sort_perm L).countP_eq]
  have hl : (sort ltInt L.toArray).toList.length = L.length := by simpa using hn
  have e := List.take_append_drop ((L.length - 1) / 2) (sort ltInt L.toArray).toList
  rw [← e, List.countP_append]
  have h1 := List.countP_le_length (p := fun x => decide (x ≤ d)) (l := (sort ltInt L.toArray).toList.take ((L.length - 1) / 2))
  have h2 := count_none (p := fun x => decide (x ≤ d)) ((sort ltInt L.toArray).toList.drop ((L.length - 1) / 2)) (fun i hi => by
    rw [List.length_drop, hl] at hi
    rw [drop_get, get_list]
    have hq : Pq.midV L ≤ (sort ltInt L.toArray)[(L.length - 1) / 2 + i]! := sort_le L (by omega) (by omega)
    exact decide_eq_false (by omega))
  rw [List.length_take, hl] at h1
  omega
theorem mid_mem (L : List Int) (h : 0 < L.length) : Pq.midV L ∈ L := by
  rw [← (sort_perm L).mem_iff]
  have hn := sort_len L
  unfold Pq.midV
  rw [getElem!_pos _ _ (by omega)]
  exact Array.getElem_mem_toList _
/-- The order of the readings is of no account. -/
theorem mid_perm {L M : List Int} (h : M.Perm L) : Pq.midV M = Pq.midV L := by
  have hA : ∀ x y : Int, ltInt x y = false → ltInt y x = false → x = y := fun x y p q => by
    unfold ltInt at p q
    have := of_decide_eq_false p
    have := of_decide_eq_false q
    omega
  have hl := h.length_eq
  have u1 := sorted_unique_holds swo_ltInt hA L.toArray (sort ltInt L.toArray) (sort_sorts ltInt swo_ltInt L.toArray).1 (sort_sorts ltInt swo_ltInt L.toArray).2
  have e1 : L.toArray.size = L.length := by simp
  have e2 : M.toArray.size = M.length := by simp
  have s1 : (sort ltInt M.toArray).size = L.length := (sort_len M).trans hl
  have u2 := sorted_unique_holds swo_ltInt hA L.toArray (sort ltInt M.toArray) ⟨s1.trans e1.symm, fun i hi => by
      rw [getElem!_neg _ i (by omega), getElem!_neg _ i (by omega)], by
      rw [e1, ← s1, Array.extract_size, s1, ← e1, Array.extract_size]
      exact (sort_perm M).trans h⟩ (by
      have := (sort_sorts ltInt swo_ltInt M.toArray).2
      rw [e2, hl, ← e1] at this
      exact this)
  have e : sort ltInt M.toArray = sort ltInt L.toArray := Array.toList_inj.1 (u2.trans u1.symm)
  unfold Pq.midV
  rw [e, hl]
end Go.Proofs.YtjpimamjcckieaaDoor.Se
