/- What the document reads of a line as words: byte by byte; it is what was told. Plain facts. -/
import Derived.Test.YtaoekpedjgnnjaaDoorRfE
import Derived.Test.YtaoekpedjgnnjaaDoorWeA
namespace Go.Proofs.YtaoekpedjgnnjaaDoor.Wd
open Go.Lib Nums

/-- What is read of a quoted text at one place: the bytes, and how many are passed over. -/
def qstep (c : UInt8) (t : List UInt8) : List UInt8 × Nat :=
  if c ≠ 92 then ([c], 1)
  else if 3 ≤ t.length ∧ t.getD 0 0 = 120 ∧ 0 ≤ digV (t.getD 1 0) ∧ 0 ≤ digV (t.getD 2 0) then ([UInt8.ofNat (16 * digV (t.getD 1 0) + digV (t.getD 2 0)).toNat], 4)
  else if 1 ≤ t.length then ([t.getD 0 0], 2) else ([], 1)
def qF : Nat → List UInt8 → List UInt8 × Nat
  | 0, _ => ([], 0)
  | _ + 1, [] => ([], 0)
  | f + 1, c :: t => if c = 34 then ([], 0) else ((qstep c t).1 ++ (qF f ((c :: t).drop (qstep c t).2)).1, (qstep c t).2 + (qF f ((c :: t).drop (qstep c t).2)).2)
def qW (l : List UInt8) : List UInt8 × Nat := qF l.length l
theorem qstep_bd (c : UInt8) (t : List UInt8) : 1 ≤ (qstep c t).2 ∧ (qstep c t).2 ≤ t.length + 1 ∧ (qstep c t).1.length ≤ 1 := by
  unfold qstep
  split
  · exact ⟨by simp, by simp, by simp⟩
  · split
    · rename_i h
      exact ⟨by simp, by simp; omega, by simp⟩
    · split
      · exact ⟨by simp, by simp; omega, by simp⟩
      · exact ⟨by simp, by simp, by simp⟩
theorem qF_fuel : ∀ (f : Nat) (l : List UInt8), l.length ≤ f → qF f l = qW l
  | 0, l, h => by
    rw [List.eq_nil_of_length_eq_zero (by omega : l.length = 0)]
    rfl
  | f + 1, [], _ => rfl
  | f + 1, c :: t, h => by
    obtain ⟨h1, h2, _⟩ := qstep_bd c t
    have hd : ((c :: t).drop (qstep c t).2).length ≤ t.length := by rw [List.length_drop, List.length_cons]; omega
    rw [List.length_cons] at h
    show _ = qF (t.length + 1) (c :: t)
    rw [qF, qF, qF_fuel f _ (by omega), qF_fuel t.length _ hd]
theorem qW_nil : qW [] = ([], 0) := rfl
theorem qW_end (t : List UInt8) : qW (34 :: t) = ([], 0) := by
  show qF (t.length + 1) (34 :: t) = _
  rw [qF, if_pos rfl]
theorem qW_step (c : UInt8) (t : List UInt8) (h : c ≠ 34) : qW (c :: t) = ((qstep c t).1 ++ (qW ((c :: t).drop (qstep c t).2)).1, (qstep c t).2 + (qW ((c :: t).drop (qstep c t).2)).2) := by
  obtain ⟨h1, h2, _⟩ := qstep_bd c t
  have hd : ((c :: t).drop (qstep c t).2).length ≤ t.length := by rw [List.length_drop, List.length_cons]; omega
  show qF (t.length + 1) (c :: t) = _
  rw [qF, if_neg h, qF_fuel t.length _ hd]
theorem qW_bd : ∀ (n : Nat) (l : List UInt8), l.length ≤ n → (qW l).1.length ≤ (qW l).2 ∧ (qW l).2 ≤ l.length
  | 0, l, h => by
    rw [List.eq_nil_of_length_eq_zero (by omega : l.length = 0)]
    exact ⟨Nat.le_refl _, Nat.le_refl _⟩
  | n + 1, [], _ => ⟨Nat.le_refl _, Nat.le_refl _⟩
  | n + 1, c :: t, h => by
    by_cases hc : c = 34
    · rw [hc, qW_end]
      exact ⟨Nat.le_refl _, Nat.zero_le _⟩
    · obtain ⟨h1, h2, h3⟩ := qstep_bd c t
      have hd : ((c :: t).drop (qstep c t).2).length = t.length + 1 - (qstep c t).2 := by rw [List.length_drop, List.length_cons]
      rw [List.length_cons] at h
      obtain ⟨i1, i2⟩ := qW_bd n ((c :: t).drop (qstep c t).2) (by omega)
      rw [qW_step c t hc, List.length_cons]
      simp only [List.length_append]
      omega
/-- The word at the front of a line, as it seems, and how many bytes it has. -/
def wordW (l : List UInt8) : List UInt8 × Nat :=
  if Lib.hasPrefix l [34] then ((qW (l.drop 1)).1, min (2 + (qW (l.drop 1)).2) l.length) else (bareW l, (bareW l).length)
theorem bare_len (l : List UInt8) : (bareW l).length ≤ l.length := (List.takeWhile_sublist _).length_le
theorem word_bd (l : List UInt8) : (wordW l).1.length ≤ (wordW l).2 ∧ (wordW l).2 ≤ l.length := by
  unfold wordW
  split
  · rename_i hp
    cases l with
    | nil => cases hp
    | cons c t =>
      have h := qW_bd _ t (Nat.le_refl _)
      show (qW t).1.length ≤ min (2 + (qW t).2) (t.length + 1) ∧ min (2 + (qW t).2) (t.length + 1) ≤ t.length + 1
      omega
  · exact ⟨Nat.le_refl _, bare_len l⟩
def wdsF : Nat → List UInt8 → List (List UInt8)
  | 0, _ => []
  | f + 1, l => if l = [] then [] else (wordW l).1 :: wdsF f (l.drop ((wordW l).2 + 1))
/-- The words that a line seems to have. -/
def wdsW (l : List UInt8) : List (List UInt8) := wdsF l.length l
theorem wdsF_fuel : ∀ (f : Nat) (l : List UInt8), l.length ≤ f → wdsF f l = wdsW l
  | 0, l, h => by
    rw [List.eq_nil_of_length_eq_zero (by omega : l.length = 0)]
    rfl
  | f + 1, [], _ => rfl
  | f + 1, c :: t, h => by
    have hd : ((c :: t).drop ((wordW (c :: t)).2 + 1)).length ≤ t.length := by rw [List.length_drop, List.length_cons]; omega
    rw [List.length_cons] at h
    show _ = wdsF (t.length + 1) (c :: t)
    rw [wdsF, wdsF, wdsF_fuel f _ (by omega), wdsF_fuel t.length _ hd]
theorem wdsW_step (l : List UInt8) (hl : l ≠ []) : wdsW l = (wordW l).1 :: wdsW (l.drop ((wordW l).2 + 1)) := by
  cases l with
  | nil => exact absurd rfl hl
  | cons c t =>
    have hd : ((c :: t).drop ((wordW (c :: t)).2 + 1)).length ≤ t.length := by rw [List.length_drop, List.length_cons]; omega
    show wdsF (t.length + 1) (c :: t) = _
    rw [wdsF, if_neg hl, wdsF_fuel t.length _ hd]
theorem wds_bulk : ∀ (n : Nat) (l : List UInt8), l.length ≤ n → bulkL (wdsW l) ≤ l.length + 1
  | 0, l, h => by
    rw [List.eq_nil_of_length_eq_zero (by omega : l.length = 0)]
    exact Nat.zero_le _
  | n + 1, l, h => by
    by_cases hl : l = []
    · subst hl
      exact Nat.zero_le _
    · obtain ⟨h1, h2⟩ := word_bd l
      have hp := List.length_pos_iff.2 hl
      have hd : (l.drop ((wordW l).2 + 1)).length = l.length - ((wordW l).2 + 1) := List.length_drop
      rw [wdsW_step l hl]
      show (wordW l).1.length + 1 + bulkL _ ≤ _
      by_cases hz : l.drop ((wordW l).2 + 1) = []
      · rw [hz]
        show _ + 1 + 0 ≤ _
        omega
      · have hp2 := List.length_pos_iff.2 hz
        have hi := wds_bulk n (l.drop ((wordW l).2 + 1)) (by omega)
        omega
theorem digV_hd0 : ∀ k : Fin 16, digV (hd k.val) = (k.val : Int) := by decide +kernel
theorem digV_hd (k : Nat) (h : k < 16) : digV (hd k) = (k : Int) := digV_hd0 ⟨k, h⟩
theorem qstep_un {c : UInt8} {q : List UInt8} (h : Un c q) : ∃ d t, q = d :: t ∧ d ≠ 34 ∧ ∀ r, qstep d (t ++ r) = ([c], q.length) := by
  rcases h with ⟨rfl, h1, h2⟩ | ⟨rfl, rfl⟩ | ⟨rfl, rfl⟩ | rfl
  · exact ⟨c, [], rfl, h2, fun r => by unfold qstep; rw [if_pos h1]; rfl⟩
  · exact ⟨92, [92], rfl, by decide, fun r => by
      unfold qstep
      rw [if_neg (by decide), if_neg (by rintro ⟨_, h, _⟩; exact absurd h (by show ¬ (92 : UInt8) = 120; decide)), if_pos (by simp)]
      rfl⟩
  · exact ⟨92, [34], rfl, by decide, fun r => by
      unfold qstep
      rw [if_neg (by decide), if_neg (by rintro ⟨_, h, _⟩; exact absurd h (by show ¬ (34 : UInt8) = 120; decide)), if_pos (by simp)]
      rfl⟩
  · have hb := c.toNat_lt
    have e1 := digV_hd (c.toNat / 16) (by omega)
    have e2 := digV_hd (c.toNat % 16) (by omega)
    refine ⟨92, [120, hd (c.toNat / 16), hd (c.toNat % 16)], rfl, by decide, fun r => ?_⟩
    unfold qstep
    rw [if_neg (by decide)]
    show (if 3 ≤ (120 :: hd (c.toNat / 16) :: hd (c.toNat % 16) :: r).length ∧ (120 : UInt8) = 120 ∧ 0 ≤ digV (hd (c.toNat / 16)) ∧ 0 ≤ digV (hd (c.toNat % 16)) then ([UInt8.ofNat (16 * digV (hd (c.toNat / 16)) + digV (hd (c.toNat % 16))).toNat], 4) else _) = _
    rw [e1, e2, if_pos ⟨by simp, rfl, by omega, by omega⟩]
    have e3 : (16 * ((c.toNat / 16 : Nat) : Int) + ((c.toNat % 16 : Nat) : Int)).toNat = c.toNat := by omega
    rw [e3, UInt8.ofNat_toNat]
    rfl
theorem q_cod (rest : List UInt8) : ∀ {x b : List UInt8}, Cod x b → qW (b ++ 34 :: rest) = (x, b.length)
  | [], b, h => by
    have : b = [] := h
    subst this
    exact qW_end _
  | c :: x, b, h => by
    obtain ⟨q, e, rfl, hu, hc⟩ := h
    obtain ⟨d, t, hq, hd, hs⟩ := qstep_un hu
    have hs' := hs (e ++ 34 :: rest)
    have hr : q ++ e ++ 34 :: rest = d :: (t ++ (e ++ 34 :: rest)) := by rw [hq]; simp
    have hr2 : (d :: (t ++ (e ++ 34 :: rest))).drop q.length = e ++ 34 :: rest := by rw [← hr, List.append_assoc, List.drop_left]
    rw [hr, qW_step _ _ hd, hs']
    simp only [hr2]
    rw [q_cod rest hc, List.length_append]
    rfl
theorem bare_in (x rest : List UInt8) (h32 : ∀ d ∈ x, d ≠ 32) (hr : rest = [] ∨ ∃ t, rest = 32 :: t) : bareW (x ++ rest) = x := by
  have h := bare_at (x ++ rest) x.length (by rw [List.take_left]; exact h32) (by rw [List.drop_left]; exact hr)
  rw [h, List.take_left]
theorem word_in (x rest : List UInt8) (hr : rest = [] ∨ ∃ t, rest = 32 :: t) : wordW (inW x ++ rest) = (x, (inW x).length) := by
  unfold inW
  by_cases hp : plainW x = true
  · rw [if_pos hp]
    obtain ⟨hne, hall⟩ := plain_all hp
    obtain ⟨c, x, rfl⟩ : ∃ c y, x = c :: y := by
      cases x with
      | nil => exact absurd rfl hne
      | cons c y => exact ⟨c, y, rfl⟩
    have hc := hall c List.mem_cons_self
    unfold wordW
    rw [if_neg (by rw [List.cons_append, pre_cons, decide_eq_false hc.1]; decide), bare_in _ _ (fun d hd => (hall d hd).2.2) hr]
  · rw [if_neg hp, quote_body]
    unfold wordW
    rw [List.cons_append, pre_cons, if_pos (by decide)]
    have e : (34 :: (bodyW x ++ [34] ++ rest)).drop 1 = bodyW x ++ 34 :: rest := by
      show bodyW x ++ [34] ++ rest = _
      simp
    rw [e, q_cod rest (cod_body x)]
    simp only [List.length_cons, List.length_append, List.length_nil]
    congr 1
    omega
theorem wds_in : ∀ (xs : List (List UInt8)) (x : List UInt8), wdsW (inW x ++ tailL xs) = x :: xs
  | xs, x => by
    have hne : inW x ++ tailL xs ≠ [] := by simp [in_ne x]
    rw [wdsW_step _ hne, word_in x _ (tail_head xs)]
    cases xs with
    | nil =>
      have e : (inW x ++ tailL []).drop ((inW x).length + 1) = [] := List.drop_of_length_le (by show (inW x ++ []).length ≤ _; rw [List.append_nil]; omega)
      simp only [e]
      rfl
    | cons y ys =>
      have e : (inW x ++ tailL (y :: ys)).drop ((inW x).length + 1) = inW y ++ tailL ys := by
        show (inW x ++ 32 :: (inW y ++ tailL ys)).drop ((inW x).length + 1) = _
        rw [← List.drop_drop, List.drop_left]
        rfl
      simp only [e]
      rw [wds_in ys y]
theorem wds_line (xs : List (List UInt8)) : wdsW (lineL xs) = xs := by
  cases xs with
  | nil => rfl
  | cons x xs => exact wds_in xs x
/-- What the document tells of a line. -/
theorem fld_doc (l : List UInt8) : fldR l = if lineL (wdsW l) = l then (wdsW l, 0) else ([], 4) := by
  by_cases h : lineL (wdsW l) = l
  · rw [if_pos h]
    have h2 := fields_line (wdsW l)
    rw [h] at h2
    unfold fldR
    rw [h2]
  · rw [if_neg h]
    unfold fldR
    cases hf : fieldsW l with
    | none => rfl
    | some m =>
      have e := line_fields hf
      exact absurd (by rw [← e, wds_line, e]) h
end Go.Proofs.YtaoekpedjgnnjaaDoor.Wd
