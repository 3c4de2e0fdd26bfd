/- What is told of words as a line is read as these words; what is shown has no rune that breaks a line. Plain facts. -/
import Derived.Test.YtaoekpedjgnnjaaDoorWdH
namespace Go.Proofs.YtaoekpedjgnnjaaDoor.Wd
open Go.Lib Nums

theorem decN_local (L a0 a1 a2 a3 M c1 c2 c3 : Nat) (hv : ¬ ((decodeN L a0 a1 a2 a3).1 = 65533 ∧ (decodeN L a0 a1 a2 a3).2 = 1)) (hM : (decodeN L a0 a1 a2 a3).2 ≤ M)
    (h1 : 1 < (decodeN L a0 a1 a2 a3).2 → c1 = a1) (h2 : 2 < (decodeN L a0 a1 a2 a3).2 → c2 = a2) (h3 : 3 < (decodeN L a0 a1 a2 a3).2 → c3 = a3) : decodeN M a0 c1 c2 c3 = decodeN L a0 a1 a2 a3 := by
  unfold decodeN at *
  by_cases k0 : a0 < 128
  · simp only [if_pos k0]
  · simp only [if_neg k0] at *
    by_cases k2 : a0 / 32 = 6 ∧ (1 < L ∧ a1 / 64 = 2)
    · simp only [if_pos k2] at *
      by_cases q : a0 % 32 * 64 + a1 % 64 ≥ 128
      · simp only [if_pos q] at *
        have e1 := h1 (by decide)
        subst e1
        rw [if_pos ⟨k2.1, by omega, k2.2.2⟩, if_pos q]
      · simp only [if_neg q] at hv
        simp at hv
    · simp only [if_neg k2] at *
      by_cases k3 : a0 / 16 = 14 ∧ (1 < L ∧ a1 / 64 = 2) ∧ (2 < L ∧ a2 / 64 = 2)
      · simp only [if_pos k3] at *
        split at hv
        · rename_i q
          simp only [if_pos q] at *
          have e1 := h1 (by decide)
          have e2 := h2 (by decide)
          subst e1 e2
          rw [if_neg (by omega), if_pos ⟨k3.1, ⟨by omega, k3.2.1.2⟩, by omega, k3.2.2.2⟩, if_pos q]
        · simp at hv
      · simp only [if_neg k3] at *
        by_cases k4 : a0 / 8 = 30 ∧ (1 < L ∧ a1 / 64 = 2) ∧ (2 < L ∧ a2 / 64 = 2) ∧ (3 < L ∧ a3 / 64 = 2)
        · simp only [if_pos k4] at *
          split at hv
          · rename_i q
            simp only [if_pos q] at *
            have e1 := h1 (by decide)
            have e2 := h2 (by decide)
            have e3 := h3 (by decide)
            subst e1 e2 e3
            rw [if_neg (by omega), if_neg (by omega), if_pos ⟨k4.1, ⟨by omega, k4.2.1.2⟩, ⟨by omega, k4.2.2.1.2⟩, by omega, k4.2.2.2.2⟩, if_pos q]
          · simp at hv
        · simp only [if_neg k4] at hv
          simp at hv
/-- What is decoded of a beginning is decoded of it whatever stands behind. -/
theorem dec_local (l rest : List UInt8) (hne : l ≠ []) (hv : ¬ ((decodeL l).1 = 65533 ∧ (decodeL l).2 = 1)) : decodeL (l.take (decodeL l).2 ++ rest) = decodeL l := by
  have hle := decodeL_le l hne
  have h1 := decodeL_width l
  obtain ⟨n, hn⟩ : ∃ n, (decodeL l).2 = n := ⟨_, rfl⟩
  rw [hn] at hle h1 ⊢
  have g : ∀ i, i < n → (l.take n ++ rest).getD i 0 = l.getD i 0 := fun i hi => by
    rw [List.getD_eq_getElem?_getD, List.getD_eq_getElem?_getD, List.getElem?_append_left (by rw [List.length_take]; omega), List.getElem?_take_of_lt hi]
  have hlen : (l.take n ++ rest).length = n + rest.length := by rw [List.length_append, List.length_take]; omega
  rw [decodeL_N (l.take n ++ rest), decodeL_N l, g 0 (by omega)]
  rw [decodeL_N l] at hn hv
  refine decN_local _ _ _ _ _ _ _ _ _ hv (by rw [hn, hlen]; omega) ?_ ?_ ?_
  · intro h; rw [hn] at h; rw [g 1 h]
  · intro h; rw [hn] at h; rw [g 2 h]
  · intro h; rw [hn] at h; rw [g 3 h]
theorem enc_high (r : Int) (h : 128 ≤ r) : ∀ c ∈ encodeRune r, 128 ≤ c.toNat := by
  have key : ∀ x ∈ encodeRuneZ r, 128 ≤ x := by
    by_cases h2 : r ≤ 2047
    · rw [encodeRuneZ_two h h2]; intro x hx; simp at hx; omega
    · by_cases h3 : (2048 ≤ r ∧ r < 55296) ∨ (57343 < r ∧ r ≤ 65535)
      · rw [encodeRuneZ_three h3]; intro x hx; simp at hx; omega
      · by_cases h4 : 65536 ≤ r ∧ r ≤ 1114111
        · rw [encodeRuneZ_four h4.1 h4.2]; intro x hx; simp at hx; omega
        · rw [encodeRuneZ_bad (by omega)]; intro x hx; simp at hx; omega
  intro c hc
  unfold encodeRune at hc
  obtain ⟨x, hx, e⟩ := List.mem_map.1 hc
  have h1 := key x hx
  have h2 := encodeRuneZ_byte r x hx
  rw [← e, UInt8.toNat_ofNat']
  omega
theorem enc_low (r : Nat) (h : r < 128) : encodeRune (r : Int) = [UInt8.ofNat r] := by
  unfold encodeRune
  rw [encodeRuneZ_one (by omega) (by omega)]
  simp
theorem u8_of (r : Nat) (h : r < 256) : (UInt8.ofNat r).toNat = r := by
  rw [UInt8.toNat_ofNat']; exact Nat.mod_eq_of_lt h

/-- How a byte stands in a text that is shown and quoted. -/
def Un (c : UInt8) (q : List UInt8) : Prop := (q = [c] ∧ c ≠ 92 ∧ c ≠ 34) ∨ (c = 92 ∧ q = [92, 92]) ∨ (c = 34 ∧ q = [92, 34]) ∨ q = escB c
def Cod : List UInt8 → List UInt8 → Prop
  | [], b => b = []
  | c :: x, b => ∃ q d, b = q ++ d ∧ Un c q ∧ Cod x d
theorem Cod.app : ∀ {x y b d : List UInt8}, Cod x b → Cod y d → Cod (x ++ y) (b ++ d)
  | [], y, b, d, h, h2 => by
    have : b = [] := h
    subst this
    exact h2
  | c :: x, y, b, d, h, h2 => by
    obtain ⟨q, e, rfl, hu, hc⟩ := h
    exact ⟨q, e ++ d, by rw [List.append_assoc], hu, hc.app h2⟩
theorem esc_qe0 : ∀ k : Fin 256, (escB (UInt8.ofNat k.val)).flatMap qe = escB (UInt8.ofNat k.val) := by decide +kernel
theorem esc_qe (c : UInt8) : (escB c).flatMap qe = escB c := by
  have h := esc_qe0 ⟨c.toNat, c.toNat_lt⟩
  simpa using h
theorem cod_esc : ∀ p : List UInt8, Cod p ((p.flatMap escB).flatMap qe)
  | [] => rfl
  | c :: p => by
    rw [List.flatMap_cons, List.flatMap_append, esc_qe]
    exact ⟨escB c, _, rfl, .inr (.inr (.inr rfl)), cod_esc p⟩
theorem cod_high : ∀ p : List UInt8, (∀ c ∈ p, 128 ≤ c.toNat) → Cod p (p.flatMap qe)
  | [], _ => rfl
  | c :: p, h => by
    have hc := h c List.mem_cons_self
    have h1 : c ≠ 34 := fun e => by rw [e] at hc; exact absurd hc (by decide)
    have h2 : c ≠ 92 := fun e => by rw [e] at hc; exact absurd hc (by decide)
    rw [List.flatMap_cons]
    exact ⟨[c], _, by unfold qe; rw [if_neg h1], .inl ⟨rfl, h2, h1⟩, cod_high p fun d hd => h d (List.mem_cons_of_mem _ hd)⟩
theorem hidn_off {p : List UInt8} {r : Nat} (h : hidn p r = false) : ¬ (r = 65533 ∧ p.length = 1) ∧ 32 ≤ r ∧ ¬ (127 ≤ r ∧ r ≤ 159) := by
  unfold hidn at h
  simp only [Bool.or_eq_false_iff, Bool.and_eq_false_iff, decide_eq_false_iff_not] at h
  omega
theorem cod_part (l : List UInt8) (hne : l ≠ []) : Cod (l.take (decodeL l).2) ((shownP (l.take (decodeL l).2) (decodeL l).1).flatMap qe) := by
  have hpl := part_len l hne
  unfold shownP
  by_cases hh : hidn (l.take (decodeL l).2) (decodeL l).1 = true
  · rw [if_pos hh]
    exact cod_esc _
  · have hh' : hidn (l.take (decodeL l).2) (decodeL l).1 = false := by simpa using hh
    obtain ⟨hv, _, _⟩ := hidn_off hh'
    rw [hpl] at hv
    have he := encode_decode l hne hv
    rw [if_neg hh]
    by_cases hlow : (decodeL l).1 < 128
    · rw [enc_low _ hlow] at he
      have ht := u8_of (decodeL l).1 (by omega)
      rw [← he]
      generalize (decodeL l).1 = r at hlow ht ⊢
      by_cases h92 : r = 92
      · subst h92
        exact ⟨[92, 92], [], rfl, .inr (.inl ⟨rfl, rfl⟩), rfl⟩
      · rw [if_neg h92]
        by_cases h34 : r = 34
        · subst h34
          exact ⟨[92, 34], [], rfl, .inr (.inr (.inl ⟨rfl, rfl⟩)), rfl⟩
        · have n92 : UInt8.ofNat r ≠ 92 := fun e => h92 (by rw [e] at ht; exact ht.symm)
          have n34 : UInt8.ofNat r ≠ 34 := fun e => h34 (by rw [e] at ht; exact ht.symm)
          exact ⟨[UInt8.ofNat r], [], by simp [qe, n34], .inl ⟨rfl, n92, n34⟩, rfl⟩
    · rw [if_neg (by omega), ← he]
      exact cod_high _ (enc_high _ (by omega))
theorem cod_show : ∀ (n : Nat) (l : List UInt8), l.length ≤ n → Cod l ((showW l).flatMap qe)
  | 0, l, h => by
    rw [List.eq_nil_of_length_eq_zero (by omega : l.length = 0)]
    rfl
  | n + 1, l, h => by
    by_cases hl : l = []
    · subst hl; rfl
    · have hd := drop_less l hl
      have h1 := cod_part l hl
      have h2 := cod_show n (l.drop (decodeL l).2) (by omega)
      rw [showW_step l hl, List.flatMap_append]
      have h3 := h1.app h2
      rw [List.take_append_drop] at h3
      exact h3
/-- What stands between the quotes. -/
def bodyW (l : List UInt8) : List UInt8 := (showW l).flatMap qe
theorem cod_body (l : List UInt8) : Cod l (bodyW l) := cod_show _ l (Nat.le_refl _)
theorem quote_body (l : List UInt8) : quoteW l = 34 :: (bodyW l ++ [34]) := by
  unfold quoteW bodyW
  rw [replaceAll_q]

theorem hd_read0 : ∀ k : Fin 256, readM 255 [hd (k.val / 16), hd (k.val % 16)] = some (some k.val) := by decide +kernel
theorem first_un {c : UInt8} {q : List UInt8} (h : Un c q) (d : List UInt8) : firstB (q ++ d) = (c, q.length) ∧ q ≠ [] := by
  rcases h with ⟨rfl, h1, h2⟩ | ⟨rfl, rfl⟩ | ⟨rfl, rfl⟩ | rfl
  · refine ⟨?_, by simp⟩
    unfold firstB
    rw [if_pos (.inl (by simpa using h1))]
    rfl
  · refine ⟨?_, by simp⟩
    unfold firstB
    rw [if_neg (by simp), if_neg (by simp)]
    rfl
  · refine ⟨?_, by simp⟩
    unfold firstB
    rw [if_neg (by simp), if_neg (by simp)]
    rfl
  · refine ⟨?_, by simp [escB]⟩
    have hr := hd_read0 ⟨c.toNat, c.toNat_lt⟩
    simp only at hr
    unfold firstB escB
    rw [if_neg (by simp), if_pos (by simp)]
    show (match readM 255 [hd (c.toNat / 16), hd (c.toNat % 16)] with
      | some (some n) => (UInt8.ofNat n, 4)
      | _ => _) = _
    rw [hr]
    simp
theorem un_cod : ∀ {x b : List UInt8}, Cod x b → unW b = x
  | [], b, h => by
    have : b = [] := h
    subst this
    rfl
  | c :: x, b, h => by
    obtain ⟨q, d, rfl, hu, hc⟩ := h
    obtain ⟨h1, h2⟩ := first_un hu d
    rw [unW_step _ (by simp [h2]), h1]
    show c :: unW ((q ++ d).drop q.length) = _
    rw [List.drop_left, un_cod hc]
theorem hd_plain0 : ∀ k : Fin 16, hd k.val ≠ 92 ∧ hd k.val ≠ 34 := by decide +kernel
theorem hd_plain (k : Nat) (h : k < 16) : hd k ≠ 92 ∧ hd k ≠ 34 := hd_plain0 ⟨k, h⟩
theorem we_cod (len : Nat) (rest : List UInt8) : ∀ {x b : List UInt8} (i : Nat), Cod x b → weQ len i (b ++ 34 :: rest) = i + b.length + 1
  | [], b, i, h => by
    have : b = [] := h
    subst this
    exact weQ_end _ _ _
  | c :: x, b, i, h => by
    obtain ⟨q, d, rfl, hu, hc⟩ := h
    rcases hu with ⟨rfl, h1, h2⟩ | ⟨rfl, rfl⟩ | ⟨rfl, rfl⟩ | rfl
    · show weQ len i (c :: (d ++ 34 :: rest)) = _
      rw [weQ_else _ _ _ _ h1 h2, we_cod len rest _ hc]
      simp only [List.length_append, List.length_singleton]
      omega
    · show weQ len i (92 :: 92 :: (d ++ 34 :: rest)) = _
      rw [weQ_esc]
      show weQ len (i + 2) (d ++ 34 :: rest) = _
      rw [we_cod len rest _ hc]
      simp only [List.length_append, List.length_cons, List.length_nil]
      omega
    · show weQ len i (92 :: 34 :: (d ++ 34 :: rest)) = _
      rw [weQ_esc]
      show weQ len (i + 2) (d ++ 34 :: rest) = _
      rw [we_cod len rest _ hc]
      simp only [List.length_append, List.length_cons, List.length_nil]
      omega
    · have hb := c.toNat_lt
      obtain ⟨p1, p2⟩ := hd_plain (c.toNat / 16) (by omega)
      obtain ⟨p3, p4⟩ := hd_plain (c.toNat % 16) (by omega)
      show weQ len i (92 :: 120 :: hd (c.toNat / 16) :: hd (c.toNat % 16) :: (d ++ 34 :: rest)) = _
      rw [weQ_esc]
      show weQ len (i + 2) (hd (c.toNat / 16) :: hd (c.toNat % 16) :: (d ++ 34 :: rest)) = _
      rw [weQ_else _ _ _ _ p1 p2, weQ_else _ _ _ _ p3 p4, we_cod len rest _ hc]
      simp only [List.length_append, escB, List.length_cons, List.length_nil]
      omega

/-- Unlike texts are shown unlike, and quoted unlike. -/
theorem body_inj {x y : List UInt8} (h : bodyW x = bodyW y) : x = y := by
  rw [← un_cod (cod_body x), h, un_cod (cod_body y)]
theorem show_inj {x y : List UInt8} (h : showW x = showW y) : x = y := body_inj (by unfold bodyW; rw [h])
theorem quote_inj {x y : List UInt8} (h : quoteW x = quoteW y) : x = y := by
  rw [quote_body, quote_body] at h
  injection h with _ h
  exact body_inj (List.append_cancel_right h)

theorem plain_all {x : List UInt8} (h : plainW x = true) : x ≠ [] ∧ ∀ c ∈ x, c ≠ 34 ∧ c ≠ 92 ∧ c ≠ 32 := by
  unfold plainW at h
  rw [Bool.and_eq_true] at h
  obtain ⟨h1, h2⟩ := h
  refine ⟨fun e => by rw [e] at h1; exact absurd h1 (by decide), fun c hc => ?_⟩
  have h3 := List.all_eq_true.1 h2 c hc
  unfold plainC at h3
  simp only [Bool.and_eq_true, decide_eq_true_eq] at h3
  obtain ⟨⟨⟨a, b⟩, d⟩, e⟩ := h3
  refine ⟨fun k => d (by rw [k]; rfl), fun k => e (by rw [k]; rfl), fun k => ?_⟩
  rw [k] at a
  exact absurd a (by decide)
theorem index_none : ∀ (l : List UInt8) (c : UInt8), (∀ d ∈ l, d ≠ c) → Lib.indexByte l c = -1
  | [], _, _ => rfl
  | b :: l, c, h => by
    have h1 := h b List.mem_cons_self
    have h2 := index_none l c fun d hd => h d (List.mem_cons_of_mem _ hd)
    unfold Lib.indexByte
    rw [h2]
    simp [h1]
theorem index_at : ∀ (l t : List UInt8) (c : UInt8), (∀ d ∈ l, d ≠ c) → Lib.indexByte (l ++ c :: t) c = (l.length : Int)
  | [], t, c, _ => by
    show Lib.indexByte (c :: t) c = 0
    unfold Lib.indexByte
    simp
  | b :: l, t, c, h => by
    have h1 := h b List.mem_cons_self
    have h2 := index_at l t c fun d hd => h d (List.mem_cons_of_mem _ hd)
    show Lib.indexByte (b :: (l ++ c :: t)) c = _
    unfold Lib.indexByte
    rw [h2]
    simp [h1]
    try omega
theorem in_ne (x : List UInt8) : inW x ≠ [] := by
  unfold inW
  split
  · rename_i h
    exact (plain_all h).1
  · unfold quoteW
    simp
theorem pre_cons (c d : UInt8) (l : List UInt8) : Lib.hasPrefix (c :: l) [d] = decide (c = d) := by
  by_cases h : c = d
  · subst h
    simp [Lib.hasPrefix, List.isPrefixOf]
  · rw [decide_eq_false h]
    simp [Lib.hasPrefix, List.isPrefixOf]
    exact fun e => h e.symm
theorem trim_last (b : List UInt8) (c : UInt8) : Lib.trimSuffix (b ++ [c]) [c] = b := by
  simp [Lib.trimSuffix, Lib.hasSuffix]
theorem end_in (x rest : List UInt8) (hr : rest = [] ∨ ∃ t, rest = 32 :: t) : endW (inW x ++ rest) = ((inW x).length : Int) := by
  unfold inW
  by_cases hp : plainW x = true
  · rw [if_pos hp]
    obtain ⟨hne, hall⟩ := plain_all hp
    obtain ⟨c, x, rfl⟩ : ∃ c y, x = c :: y := by
      cases x with
      | nil => exact absurd rfl hne
      | cons c y => exact ⟨c, y, rfl⟩
    have hc := hall c List.mem_cons_self
    have h32 : ∀ d ∈ c :: x, d ≠ 32 := fun d hd => (hall d hd).2.2
    unfold endW
    rw [if_neg (by rw [List.cons_append, pre_cons, decide_eq_false hc.1]; decide)]
    rcases hr with rfl | ⟨t, rfl⟩
    · rw [List.append_nil, index_none _ _ h32]
      rfl
    · rw [index_at _ _ _ h32, if_pos (by omega)]
  · rw [if_neg hp, quote_body]
    unfold endW
    rw [List.cons_append, pre_cons, if_pos (by decide)]
    show ((weQ _ 1 (bodyW x ++ [34] ++ rest) : Nat) : Int) = _
    rw [List.append_assoc, List.singleton_append, we_cod _ _ _ (cod_body x)]
    simp only [List.length_cons, List.length_append, List.length_nil]
    omega
theorem read_in (x : List UInt8) : readW (inW x) = (x, true) := by
  have key : (if Lib.hasPrefix (inW x) [34] then unW (Lib.trimSuffix ((inW x).drop 1) [34]) else inW x) = x := by
    unfold inW
    by_cases hp : plainW x = true
    · rw [if_pos hp]
      obtain ⟨hne, hall⟩ := plain_all hp
      obtain ⟨c, x, rfl⟩ : ∃ c y, x = c :: y := by
        cases x with
        | nil => exact absurd rfl hne
        | cons c y => exact ⟨c, y, rfl⟩
      have hc := hall c List.mem_cons_self
      rw [if_neg (by rw [pre_cons, decide_eq_false hc.1]; decide)]
    · rw [if_neg hp, quote_body, pre_cons, if_pos (by decide)]
      show unW (Lib.trimSuffix (bodyW x ++ [34]) [34]) = x
      rw [trim_last, un_cod (cod_body x)]
  unfold readW
  simp only
  rw [key]
  simp

/-- Words behind the first one, as they stand in a line. -/
def tailL (xs : List (List UInt8)) : List UInt8 := xs.flatMap fun x => 32 :: inW x
def lineL : List (List UInt8) → List UInt8
  | [] => []
  | x :: xs => inW x ++ tailL xs
theorem tail_head (xs : List (List UInt8)) : tailL xs = [] ∨ ∃ t, tailL xs = 32 :: t := by
  cases xs with
  | nil => exact .inl rfl
  | cons x xs => exact .inr ⟨inW x ++ tailL xs, rfl⟩
theorem fld_line : ∀ (xs : List (List UInt8)) (x : List UInt8) (f : Nat), (inW x ++ tailL xs).length < f → fldF f (inW x ++ tailL xs) = some (x :: xs)
  | xs, x, 0, h => absurd h (by omega)
  | xs, x, f + 1, h => by
    have he := end_in x (tailL xs) (tail_head xs)
    have ht : (endW (inW x ++ tailL xs)).toNat = (inW x).length := by rw [he]; omega
    rw [fldF, ht, List.take_left, read_in, if_neg (by simp)]
    cases xs with
    | nil =>
      rw [if_pos (by show (inW x).length = (inW x ++ []).length; rw [List.append_nil])]
    | cons y ys =>
      have e : inW x ++ tailL (y :: ys) = inW x ++ 32 :: (inW y ++ tailL ys) := rfl
      rw [e] at h ⊢
      rw [if_neg (by rw [List.length_append, List.length_cons]; omega)]
      have hg : (inW x ++ 32 :: (inW y ++ tailL ys)).getD (inW x).length 0 = 32 := by simp [List.getD_eq_getElem?_getD]
      have hdr : (inW x ++ 32 :: (inW y ++ tailL ys)).drop ((inW x).length + 1) = inW y ++ tailL ys := by
        rw [← List.drop_drop, List.drop_left]; rfl
      rw [hg, if_neg (by decide), hdr, fld_line ys y f (by rw [List.length_append, List.length_cons] at h; omega)]
      rfl
/-- What is told of words as a line is read as these words. -/
theorem fields_line (xs : List (List UInt8)) : fieldsW (lineL xs) = some xs := by
  cases xs with
  | nil => rfl
  | cons x xs =>
    have hne : inW x ++ tailL xs ≠ [] := by simp [in_ne x]
    show fieldsW (inW x ++ tailL xs) = _
    unfold fieldsW
    rw [if_neg hne, fld_line xs x _ (by omega)]
theorem fld_back : ∀ (f : Nat) (l : List UInt8) (m : List (List UInt8)), fldF f l = some m → ∃ x xs, m = x :: xs ∧ l = inW x ++ tailL xs
  | 0, l, m, h => by cases h
  | f + 1, l, m, h => by
    have hb := endW_bd l
    rw [fldF] at h
    split at h
    · cases h
    · rename_i hok
      have hr : (readW (l.take (endW l).toNat)).2 = true := by simpa using hok
      have hin : inW (readW (l.take (endW l).toNat)).1 = l.take (endW l).toNat := by
        have : (readW (l.take (endW l).toNat)).2 = decide (inW (readW (l.take (endW l).toNat)).1 = l.take (endW l).toNat) := rfl
        rw [this] at hr
        exact of_decide_eq_true hr
      generalize (readW (l.take (endW l).toNat)).1 = x at h hin
      split at h
      · rename_i he
        injection h with h
        subst h
        refine ⟨x, [], rfl, ?_⟩
        show l = inW x ++ []
        rw [List.append_nil, hin, he, List.take_length]
      · rename_i he
        split at h
        · cases h
        · rename_i hg
          have hlt : (endW l).toNat < l.length := by omega
          cases hf : fldF f (l.drop ((endW l).toNat + 1)) with
          | none => rw [hf] at h; cases h
          | some m' =>
            rw [hf] at h
            injection h with h
            subst h
            obtain ⟨y, ys, rfl, e⟩ := fld_back f _ _ hf
            refine ⟨x, y :: ys, rfl, ?_⟩
            show l = inW x ++ 32 :: (inW y ++ tailL ys)
            rw [← e, hin]
            have hg' : l.getD (endW l).toNat 0 = 32 := by simpa using hg
            rw [List.getD_eq_getElem?_getD, List.getElem?_eq_getElem hlt] at hg'
            have hg2 : l[(endW l).toNat] = 32 := hg'
            rw [← hg2, ← List.drop_eq_getElem_cons hlt, List.take_append_drop]
/-- Whatever line is read is told again. -/
theorem line_fields {l : List UInt8} {m : List (List UInt8)} (h : fieldsW l = some m) : lineL m = l := by
  unfold fieldsW at h
  split at h
  · rename_i e
    injection h with h
    subst h
    rw [e]
    rfl
  · obtain ⟨x, xs, rfl, e⟩ := fld_back _ _ _ h
    exact e.symm
theorem tail_app (a b : List (List UInt8)) : tailL (a ++ b) = tailL a ++ tailL b := by unfold tailL; rw [List.flatMap_append]
theorem line_snoc (x : List UInt8) (xs : List (List UInt8)) (y : List UInt8) : lineL ((x :: xs) ++ [y]) = lineL (x :: xs) ++ [32] ++ inW y := by
  show inW x ++ tailL (xs ++ [y]) = inW x ++ tailL xs ++ [32] ++ inW y
  rw [tail_app]
  show inW x ++ (tailL xs ++ (32 :: inW y ++ [])) = _
  simp
theorem in_len (x : List UInt8) : (inW x).length ≤ 8 * x.length + 2 := by
  unfold inW
  split
  · omega
  · rw [quote_body]
    have h1 := qe_len (showW x)
    have h2 := showW_len _ x (Nat.le_refl _)
    unfold bodyW
    simp only [List.length_cons, List.length_append, List.length_nil]
    omega
def bulkL (xs : List (List UInt8)) : Nat := xs.foldr (fun x n => x.length + 1 + n) 0
theorem tail_len : ∀ xs : List (List UInt8), (tailL xs).length ≤ 8 * bulkL xs
  | [] => Nat.zero_le _
  | x :: xs => by
    have h1 := tail_len xs
    have h2 := in_len x
    show ((32 :: inW x) ++ tailL xs).length ≤ 8 * (x.length + 1 + bulkL xs)
    rw [List.length_append, List.length_cons]
    omega
theorem line_len (xs : List (List UInt8)) : (lineL xs).length ≤ 8 * bulkL xs := by
  cases xs with
  | nil => exact Nat.zero_le _
  | cons x xs =>
    have h1 := tail_len xs
    have h2 := in_len x
    show (inW x ++ tailL xs).length ≤ 8 * (x.length + 1 + bulkL xs)
    rw [List.length_append]
    omega
end Go.Proofs.YtaoekpedjgnnjaaDoor.Wd
