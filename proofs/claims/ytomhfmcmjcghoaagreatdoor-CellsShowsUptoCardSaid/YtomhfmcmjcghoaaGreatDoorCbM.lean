/- The mathematics of there and back: cells, pairs and texts of the values made of them, and the other way round. -/
import Derived.Test.YtomhfmcmjcghoaaGreatDoorClP
import Derived.Test.YtomhfmcmjcghoaaGreatDoorClL
namespace Go.Proofs.YtomhfmcmjcghoaaGreatDoor.Cl
open Go.ChangeShapes Go.WideShapes Go.ChangeAt Go.RowKit Own

theorem num_be : ∀ (k n : Nat), num (be n k) = n % 256 ^ k
  | 0, n => by simp [be, num, Nat.mod_one]
  | k + 1, n => by
    rw [be, num_snoc, num_be k (n / 256)]
    have e : (UInt8.ofNat n).toNat = n % 256 := by simp
    rw [e, Nat.pow_succ, Nat.mul_comm (256 ^ k) 256, Nat.mod_mul]
    omega
theorem be_num : ∀ (l : List UInt8), be (num l) l.length = l := by
  intro l
  induction h : l.length generalizing l with
  | zero => rw [List.eq_nil_of_length_eq_zero h]; rfl
  | succ k ih =>
    have hd : l = l.take k ++ [l.getD k 0] := by
      have h2 := List.take_succ_eq_append_getElem (l := l) (i := k) (by omega)
      rw [List.getD_eq_getElem?_getD, List.getElem?_eq_getElem (by omega)]
      rw [List.take_of_length_le (by omega)] at h2
      exact h2
    have hl : (l.take k).length = k := by simp; omega
    generalize l.getD k 0 = c at hd
    generalize l.take k = a at hd hl
    subst hd
    rw [num_snoc, be, (by have := c.toNat_lt; omega : (num a * 256 + c.toNat) / 256 = num a), ih a hl]
    congr 2
    rw [ofNat_mod]
    apply UInt8.toNat_inj.1
    have := c.toNat_lt
    simp
theorem vOf_at (k : Nat) : ∀ (xs : List Nat) (i : Nat), i < xs.length → ((vOf k xs).drop (k * i)).take k = be (xs.getD i 0) k
  | [], i, h => by simp at h
  | x :: xs, 0, _ => by
    have : vOf k (x :: xs) = be x k ++ vOf k xs := by simp [vOf]
    rw [this, Nat.mul_zero, List.drop_zero, List.take_append_of_le_length (by rw [be_len]; omega), List.take_of_length_le (by rw [be_len]; omega)]
    rfl
  | x :: xs, i + 1, h => by
    have : vOf k (x :: xs) = be x k ++ vOf k xs := by simp [vOf]
    have hk : k * (i + 1) = (be x k).length + k * i := by rw [be_len, Nat.mul_succ]; omega
    rw [this, hk, List.drop_append, List.drop_of_length_le (by omega), List.nil_append, Nat.add_sub_cancel_left, vOf_at k xs i (by simp at h; omega)]
    rfl
theorem chunk_vOf (k b : Nat) (xs : List Nat) (hb : b = 256 ^ k) (hl : Lim b xs) : chunk k (vOf k xs) xs.length = xs := by
  apply List.ext_getElem
  · rw [chunk_len]
  · intro i h1 h2
    have hx := hl i h2
    simp only [chunk, List.getElem_map, List.getElem_range]
    rw [vOf_at k xs i h2, num_be, ← hb, Nat.mod_eq_of_lt hx, List.getD_eq_getElem?_getD, List.getElem?_eq_getElem h2]
    rfl
theorem c32_of (xs : List Nat) (hl : Lim 4294967296 xs) : c32 (vOf 4 xs) = xs ∧ e32 (vOf 4 xs) = 0 := by
  unfold c32 e32
  rw [vOf_len, if_pos (by omega), if_pos (by omega), (by omega : 4 * xs.length / 4 = xs.length), chunk_vOf 4 _ xs rfl hl]
  exact ⟨rfl, rfl⟩
theorem c64_of (xs : List Nat) (hl : Lim 18446744073709551616 xs) : c64 (vOf 8 xs) = xs ∧ e64 (vOf 8 xs) = 0 := by
  unfold c64 e64
  rw [vOf_len, if_pos (by omega), if_pos (by omega), (by omega : 8 * xs.length / 8 = xs.length), chunk_vOf 8 _ xs rfl hl]
  exact ⟨rfl, rfl⟩
theorem vOf_chunk (k : Nat) (hk : 0 < k) : ∀ (n : Nat) (l : List UInt8), l.length = k * n → vOf k (chunk k l n) = l
  | 0, l, h => by
    rw [Nat.mul_zero] at h
    rw [List.eq_nil_of_length_eq_zero h]; rfl
  | n + 1, l, h => by
    have hs : k * (n + 1) = k * n + k := Nat.mul_succ k n
    have h1 : (l.take (k * n)).length = k * n := by simp; omega
    have h2 : ((l.drop (k * n)).take k) = l.drop (k * n) := List.take_of_length_le (by simp; omega)
    have h3 : chunk k l n = chunk k (l.take (k * n)) n := by
      simp only [chunk]
      apply List.map_congr_left
      intro i hi
      have hi' : i < n := by simpa using hi
      have : k * (i + 1) ≤ k * n := Nat.mul_le_mul_left k hi'
      rw [Nat.mul_succ] at this
      rw [List.drop_take, List.take_take, Nat.min_eq_left (by omega)]
    rw [chunk_succ, vOf_snoc, h3, vOf_chunk k hk n _ h1, h2]
    have h4 : be (num (l.drop (k * n))) k = l.drop (k * n) := by
      have := be_num (l.drop (k * n))
      rw [List.length_drop, (by omega : l.length - k * n = k)] at this
      exact this
    rw [h4, List.take_append_drop]
theorem of_c32 (l : List UInt8) (h : l.length % 4 = 0) : vOf 4 (c32 l) = l := by
  unfold c32
  rw [if_pos h]
  exact vOf_chunk 4 (by omega) _ l (by omega)
theorem of_c64 (l : List UInt8) (h : l.length % 8 = 0) : vOf 8 (c64 l) = l := by
  unfold c64
  rw [if_pos h]
  exact vOf_chunk 8 (by omega) _ l (by omega)
theorem lim_chunk (k b : Nat) (l : List UInt8) (n : Nat) (hb : b = 256 ^ k) : Lim b (chunk k l n) := by
  intro i hi
  rw [chunk_len] at hi
  rw [List.getD_eq_getElem?_getD]
  simp only [chunk]
  rw [List.getElem?_map, List.getElem?_range hi, hb]
  exact num_take k _
theorem lim_nil (b : Nat) : Lim b [] := fun i hi => by simp at hi
theorem lim_c32 (l : List UInt8) : Lim 4294967296 (c32 l) := by
  unfold c32
  split
  · exact lim_chunk 4 _ l _ rfl
  · exact lim_nil _
theorem lim_c64 (l : List UInt8) : Lim 18446744073709551616 (c64 l) := by
  unfold c64
  split
  · exact lim_chunk 8 _ l _ rfl
  · exact lim_nil _
theorem c32_lim (l : List UInt8) : (c32 l).length ≤ l.length := by
  unfold c32
  split
  · rw [chunk_len]; omega
  · simp
theorem c64_lim (l : List UInt8) : (c64 l).length ≤ l.length := by
  unfold c64
  split
  · rw [chunk_len]; omega
  · simp
theorem zat_len_plain : ∀ (t : List UInt8), t.length ≤ zat t → ∀ i, i < t.length → t.getD i 0 ≠ 0 := fun t h i hi => zat_ahead t i (by omega)
theorem plain_zat : ∀ (t : List UInt8), (∀ i, i < t.length → t.getD i 0 ≠ 0) → t.length ≤ zat t
  | [], _ => by simp
  | c :: t, h => by
    have hc : c ≠ 0 := by have := h 0 (by simp); simpa using this
    unfold zat
    rw [if_neg hc]
    have := plain_zat t (fun i hi => by have := h (i + 1) (by simp; omega); simpa using this)
    simp
    omega
theorem split_vT : ∀ (xs : List ByteArray), xs.all zf = true → split [] (vT xs) = (xs.map (fun s => s.data.toList), [])
  | [], _ => rfl
  | s :: xs, h => by
    simp only [List.all_cons, Bool.and_eq_true] at h
    have hs : s.data.toList.length ≤ zat s.data.toList := by have := h.1; unfold zf at this; simpa using this
    have e : vT (s :: xs) = s.data.toList ++ ([0] ++ vT xs) := by simp [vT]
    rw [e, split_append, split_plain _ _ (zat_len_plain _ hs)]
    simp only [List.nil_append, List.cons_append, split, if_true, List.map_cons]
    rw [split_vT xs h.2]
theorem tx_vT (xs : List ByteArray) (h : xs.all zf = true) : tx (vT xs) = xs ∧ etx (vT xs) = 0 := by
  unfold tx etx
  rw [split_vT xs h]
  simp only [if_true, List.map_map]
  refine ⟨?_, trivial⟩
  have : (str ∘ fun s : ByteArray => s.data.toList) = id := by funext s; rfl
  rw [this, List.map_id]
theorem split_back : ∀ (l cur : List UInt8), (∀ i, i < cur.length → cur.getD i 0 ≠ 0) → vT ((split cur l).1.map str) ++ (split cur l).2 = cur ++ l ∧ ((split cur l).1.map str).all zf = true
  | [], cur, _ => by simp [split, vT]
  | c :: l, cur, h => by
    unfold split
    by_cases hc : c = 0
    · have ih := split_back l [] (fun i hi => by simp at hi)
      rw [if_pos hc]
      simp only [List.map_cons, List.all_cons]
      refine ⟨?_, ?_⟩
      · have e : vT (str cur :: ((split [] l).1.map str)) = cur ++ [0] ++ vT ((split [] l).1.map str) := by simp [vT, str]
        rw [e, List.append_assoc, ih.1, hc]
        simp
      · rw [ih.2, Bool.and_true]
        unfold zf
        exact decide_eq_true (plain_zat cur h)
    · rw [if_neg hc]
      have ih := split_back l (cur ++ [c]) (fun i hi => by
        by_cases hi2 : i < cur.length
        · have := h i hi2
          rw [List.getD_eq_getElem?_getD, List.getElem?_append_left hi2, ← List.getD_eq_getElem?_getD]
          exact this
        · have : i = cur.length := by simp at hi; omega
          subst this
          rw [List.getD_eq_getElem?_getD, List.getElem?_append_right (Nat.le_refl _), Nat.sub_self]
          simpa using hc)
      refine ⟨?_, ih.2⟩
      rw [ih.1]
      simp
theorem of_tx (l : List UInt8) (h : etx l = 0) : ofT (tx l) = (l, 0) := by
  have h2 : (split [] l).2 = [] := by
    unfold etx at h
    split at h
    · assumption
    · simp at h
  have hb := split_back l [] (fun i hi => by simp at hi)
  unfold tx ofT
  rw [if_pos h2, if_pos hb.2]
  rw [h2] at hb
  simp at hb
  rw [hb.1]
theorem tx_lim (l : List UInt8) : (tx l).length ≤ l.length := by
  unfold tx
  split
  · rw [List.length_map]; exact split_len l []
  · simp
theorem vT_tx (l : List UInt8) : (vT (tx l)).length ≤ l.length := by
  by_cases h : etx l = 0
  · have := of_tx l h
    unfold ofT at this
    split at this
    · have h2 := congrArg Prod.fst this
      simp only at h2
      rw [h2]; omega
    · simp at this
  · have : tx l = [] := by
      unfold tx
      unfold etx at h
      split at h
      · simp at h
      · rename_i h3; rw [if_neg h3]
    rw [this]; simp [vT]
end Go.Proofs.YtomhfmcmjcghoaaGreatDoor.Cl
