/- The mathematics of the document's guess: what a text can show at most, and that it undoes what is shown. -/
import Derived.Test.YtomhfmcmjcghoaaGreatDoorCsE
namespace Go.Proofs.YtomhfmcmjcghoaaGreatDoor.Cl
open Go.ChangeShapes Go.WideShapes Go.ChangeAt Go.RowKit Own Nums

/-- What a digit of sixteen is worth; 0 of others. -/
def valV (c : UInt8) : Nat := if 48 ≤ c.toNat ∧ c.toNat ≤ 57 then c.toNat - 48 else if 97 ≤ c.toNat ∧ c.toNat ≤ 102 then c.toNat - 87 else 0
theorem val_facts0 : ∀ c : Fin 256, valV (UInt8.ofNat c.val) < 16 ∧ (valV (UInt8.ofNat c.val) ≠ 0 → dg (valV (UInt8.ofNat c.val)) = UInt8.ofNat c.val) := by decide +kernel
theorem val_facts (c : UInt8) : valV c < 16 ∧ (valV c ≠ 0 → dg (valV c) = c) := by
  have h := val_facts0 ⟨c.toNat, c.toNat_lt⟩
  have e : UInt8.ofNat c.toNat = c := by simp
  simp only [e] at h
  exact h
theorem val_dg : ∀ k : Fin 16, valV (dg k.val) = k.val := by decide +kernel
theorem val_none (c : UInt8) (h : ∀ k, k < 16 → dg k ≠ c) : valV c = 0 := Classical.byContradiction fun h0 => h _ (val_facts c).1 ((val_facts c).2 h0)
theorem val_some (c : UInt8) (k : Nat) (hk : k < 16) (h : dg k = c) : valV c = k := by rw [← h]; exact val_dg ⟨k, hk⟩

def g32 : Nat → List UInt8 → List UInt8
  | _, [] => []
  | n, c :: l => if c = 32 ∨ c = 62 then be n 4 ++ g32 0 l else if c = 120 then g32 0 l else g32 ((16 * n + valV c) % 18446744073709551616) l
def gb : List UInt8 → List UInt8
  | c :: d :: _ :: l => UInt8.ofNat (16 * valV c + valV d) :: gb l
  | [c, d] => [UInt8.ofNat (16 * valV c + valV d)]
  | _ => []
def gq : List UInt8 → List UInt8
  | [] => []
  | c :: l => if c = 92 then (match l with | d :: r => d :: gq r | [] => [92]) else if c = 34 then 0 :: gq (l.drop 3) else c :: gq l
termination_by l => l.length
decreasing_by all_goals (simp_wf; try omega)
def guessV (s : List UInt8) : List UInt8 :=
  if s = [] ∨ s = [45] then [] else if s.head? = some 34 then gq s.tail else if s.head? = some 60 then g32 0 s.tail else if s.head? = some 91 then gb s.tail else []
theorem gq_nil : gq [] = [] := by rw [gq]
theorem gq_esc (d : UInt8) (r : List UInt8) : gq (92 :: d :: r) = d :: gq r := by rw [gq]; simp
theorem gq_end (l : List UInt8) : gq (34 :: l) = 0 :: gq (l.drop 3) := by rw [gq.eq_def]; simp
theorem gq_else (c : UInt8) (l : List UInt8) (h34 : c ≠ 34) (h92 : c ≠ 92 ∨ l = []) : gq (c :: l) = c :: gq l := by
  rw [gq.eq_def]
  simp only
  by_cases h : c = 92
  · rcases h92 with h2 | rfl
    · exact absurd h h2
    · rw [if_pos h, h, gq_nil]
  · rw [if_neg h, if_neg h34]
theorem gb_step (c d : UInt8) (r : List UInt8) : gb (c :: d :: r) = UInt8.ofNat (16 * valV c + valV d) :: gb (r.drop 1) := by
  cases r with
  | nil => simp [gb]
  | cons e l => simp [gb]
theorem gb_short (l : List UInt8) (h : l.length ≤ 1) : gb l = [] := by
  match l, h with
  | [], _ => rfl
  | [c], _ => rfl

/-- Texts one behind the other, with something between each two. -/
def jc (sep : List UInt8) : List (List UInt8) → List UInt8
  | [] => []
  | [x] => x
  | x :: y :: r => x ++ sep ++ jc sep (y :: r)
theorem jc_snoc (sep : List UInt8) : ∀ (xs : List (List UInt8)) (y : List UInt8), jc sep (xs ++ [y]) = jc sep xs ++ (if xs = [] then [] else sep) ++ y
  | [], y => by simp [jc]
  | [x], y => by simp [jc]
  | x :: x2 :: xs, y => by
    have ih := jc_snoc sep (x2 :: xs) y
    simp only [List.cons_append, jc] at ih ⊢
    rw [ih]
    simp
theorem jn_jc (sep : List UInt8) (f : Nat → List UInt8) : ∀ n, jn sep f n = jc sep ((List.range n).map f)
  | 0 => rfl
  | n + 1 => by
    rw [jn, jn_jc sep f n, List.range_succ, List.map_append, List.map_cons, List.map_nil, jc_snoc]
    by_cases h : n = 0
    · subst h; simp
    · have : (List.range n).map f ≠ [] := by simp [h]
      rw [if_neg h, if_neg this]
theorem gq_quote : ∀ (t r : List UInt8), gq (t.flatMap esc ++ 34 :: r) = t ++ 0 :: gq (r.drop 3)
  | [], r => by
    simp only [List.flatMap_nil, List.nil_append]
    exact gq_end r
  | c :: t, r => by
    rw [List.flatMap_cons, List.append_assoc]
    have ih := gq_quote t r
    unfold esc
    by_cases h : c = 34 ∨ c = 92
    · rw [if_pos h]
      simp only [List.cons_append, List.nil_append]
      rw [gq_esc]
      congr 1
    · rw [if_neg h]
      simp only [List.cons_append, List.nil_append]
      rw [gq_else _ _ (fun e => h (.inl e)) (.inl fun e => h (.inr e))]
      congr 1
theorem gq_join : ∀ (ts : List ByteArray) (t : ByteArray), gq ((jc [44, 32] ((t :: ts).map fun s => quoted s.data.toList)).drop 1) = vT (t :: ts) ∧ ∃ r, jc [44, 32] ((t :: ts).map fun s => quoted s.data.toList) = 34 :: r
  | [], t => by
    refine ⟨?_, ⟨_, rfl⟩⟩
    show gq ((quoted t.data.toList).drop 1) = _
    have e : (quoted t.data.toList).drop 1 = t.data.toList.flatMap esc ++ 34 :: [] := by simp [quoted]
    rw [e, gq_quote]
    simp [gq_nil, vT]
  | u :: us, t => by
    obtain ⟨ih, r, hr⟩ := gq_join us u
    have e : jc [44, 32] ((t :: u :: us).map fun s => quoted s.data.toList) = 34 :: (t.data.toList.flatMap esc ++ 34 :: 44 :: 32 :: jc [44, 32] ((u :: us).map fun s => quoted s.data.toList)) := by
      simp only [List.map_cons, jc, quoted]
      simp
    refine ⟨?_, ⟨_, e⟩⟩
    rw [e]
    show gq (t.data.toList.flatMap esc ++ 34 :: 44 :: 32 :: _) = _
    rw [gq_quote]
    have e2 : (44 :: 32 :: jc [44, 32] ((u :: us).map fun s => quoted s.data.toList)).drop 3 = (jc [44, 32] ((u :: us).map fun s => quoted s.data.toList)).drop 1 := rfl
    rw [e2, ih]
    simp [vT]
theorem g32_hx : ∀ (f n : Nat), n < 16 ^ (f + 1) → n < 18446744073709551616 → ∀ r, g32 0 (hx (f + 1) n ++ r) = g32 n r
  | f, n, hf, hn, r => by
    by_cases h : n < 16
    · rw [hx_last _ _ h]
      show g32 0 (dg n :: r) = _
      have hw := val_dg ⟨n, h⟩
      have hd := dg_facts ⟨n, h⟩
      rw [g32, if_neg (by simp [hd.2.1, hd.2.2.2.1]), if_neg hd.2.2.2.2.2.2]
      congr 1
      simp only at hw
      rw [hw]
      omega
    · rcases f with _ | f
      · simp at hf; omega
      · rw [hx_step _ _ h, List.append_assoc, g32_hx f (n / 16) (div_lt _ _ hf) (by omega)]
        show g32 (n / 16) (dg (n % 16) :: r) = _
        have hm : n % 16 < 16 := by omega
        have hw := val_dg ⟨n % 16, hm⟩
        have hd := dg_facts ⟨n % 16, hm⟩
        rw [g32, if_neg (by simp [hd.2.1, hd.2.2.2.1]), if_neg hd.2.2.2.2.2.2]
        congr 1
        simp only at hw
        rw [hw]
        omega
theorem g32_cell (n : Nat) (hn : n < 4294967296) (c : UInt8) (hc : c = 32 ∨ c = 62) (r : List UInt8) : g32 0 (cellT n ++ c :: r) = be n 4 ++ g32 0 r := by
  have e : cellT n ++ c :: r = 48 :: 120 :: (hx (15 + 1) n ++ c :: r) := by simp [cellT]
  rw [e, g32, if_neg (by decide), if_neg (by decide), g32, if_neg (by decide), if_pos rfl, g32_hx 15 n (Nat.lt_trans hn (by decide)) (by omega), g32, if_pos hc]
theorem g32_join : ∀ (ns : List Nat) (n : Nat), (∀ x ∈ n :: ns, x < 4294967296) → g32 0 (jc [32] ((n :: ns).map cellT) ++ [62]) = vOf 4 (n :: ns)
  | [], n, h => by
    show g32 0 (cellT n ++ 62 :: []) = _
    rw [g32_cell n (h n (by simp)) 62 (.inr rfl)]
    simp [g32, vOf]
  | m :: ms, n, h => by
    have e : jc [32] ((n :: m :: ms).map cellT) ++ [62] = cellT n ++ 32 :: (jc [32] ((m :: ms).map cellT) ++ [62]) := by
      simp only [List.map_cons, jc]
      simp
    rw [e, g32_cell n (h n (by simp)) 32 (.inl rfl), g32_join ms m (fun x hx => h x (by simp only [List.mem_cons] at hx ⊢; exact .inr hx))]
    simp [vOf]
theorem gb_byte (b : UInt8) (r : List UInt8) : gb (byteT b.toNat ++ r) = b :: gb (r.drop 1) := by
  have hb := b.toNat_lt
  have h1 := val_dg ⟨b.toNat / 16, by omega⟩
  have h2 := val_dg ⟨b.toNat % 16, by omega⟩
  simp only at h1 h2
  show gb (dg (b.toNat / 16) :: dg (b.toNat % 16) :: r) = _
  rw [gb_step, h1, h2]
  congr 1
  have e : 16 * (b.toNat / 16) + b.toNat % 16 = b.toNat := by omega
  rw [e]
  simp
theorem gb_join : ∀ (bs : List UInt8) (b : UInt8), gb (jc [32] ((b :: bs).map fun c => byteT c.toNat) ++ [93]) = b :: bs
  | [], b => by
    show gb (byteT b.toNat ++ [93]) = _
    rw [gb_byte]
    simp [gb]
  | c :: cs, b => by
    have e : jc [32] ((b :: c :: cs).map fun c => byteT c.toNat) ++ [93] = byteT b.toNat ++ 32 :: (jc [32] ((c :: cs).map fun c => byteT c.toNat) ++ [93]) := by
      simp only [List.map_cons, jc]
      simp
    rw [e, gb_byte]
    show b :: gb (jc [32] ((c :: cs).map fun c => byteT c.toNat) ++ [93]) = _
    rw [gb_join cs c]
theorem range_map {α : Type} (xs : List α) (d : α) (f : α → List UInt8) : (List.range xs.length).map (fun i => f (xs.getD i d)) = xs.map f := by
  apply List.ext_getElem
  · simp
  · intro i h1 h2
    have h3 : i < xs.length := by simpa using h2
    simp [List.getD_eq_getElem?_getD, List.getElem?_eq_getElem h3]
/-- The guess undoes what is shown. -/
theorem guess_show (l : List UInt8) : guessV (showV l) = l := by
  unfold showV lookV
  by_cases h0 : l = []
  · rw [if_pos h0]
    simp only [if_true]
    rw [h0]
    simp [guessV]
  · rw [if_neg h0]
    by_cases h1 : plainB l = true
    · rw [if_pos h1, if_neg (by decide), if_pos rfl]
      have h2 := plain_tx l h1
      have h3 := of_tx l h2.1
      have h5 : vT (tx l) = l := by
        unfold ofT at h3
        split at h3
        · exact congrArg Prod.fst h3
        · simp at h3
      have e : textsT l = jc [44, 32] ((tx l).map fun s => quoted s.data.toList) := by
        unfold textsT
        rw [jn_jc, range_map (tx l) ByteArray.empty (fun s => quoted s.data.toList)]
      obtain ⟨t, ts, hts⟩ : ∃ t ts, tx l = t :: ts := by
        cases h : tx l with
        | nil => rw [h] at h2; simp at h2
        | cons t ts => exact ⟨t, ts, rfl⟩
      rw [e, hts]
      obtain ⟨g1, r, hr⟩ := gq_join ts t
      rw [hr] at g1 ⊢
      unfold guessV
      rw [if_neg (by simp), if_pos (by simp)]
      rw [hts] at h5
      rw [← h5]
      exact g1
    · rw [if_neg h1]
      by_cases h2 : l.length % 4 = 0
      · rw [if_pos h2, if_neg (by decide), if_neg (by decide), if_pos rfl]
        have h3 := of_c32 l h2
        have e : cellsT l = jc [32] ((c32 l).map cellT) := by
          unfold cellsT
          rw [jn_jc, range_map (c32 l) 0 cellT]
        obtain ⟨n, ns, hns⟩ : ∃ n ns, c32 l = n :: ns := by
          cases h : c32 l with
          | nil => rw [h] at h3; exact absurd h3.symm h0
          | cons n ns => exact ⟨n, ns, rfl⟩
        rw [e]
        unfold guessV
        rw [if_neg (by simp), if_neg (by simp), if_pos (by simp)]
        simp only [List.cons_append, List.nil_append, List.tail_cons]
        rw [hns, g32_join ns n (fun x hx => by
          rw [← hns] at hx
          obtain ⟨i, hi, rfl⟩ := List.getElem_of_mem hx
          have := lim_c32 l i hi
          rw [List.getD_eq_getElem?_getD, List.getElem?_eq_getElem hi] at this
          exact this), ← hns]
        exact h3
      · rw [if_neg h2, if_neg (by decide), if_neg (by decide), if_neg (by decide)]
        have e : bytesT l = jc [32] (l.map fun c => byteT c.toNat) := by
          unfold bytesT
          rw [jn_jc, range_map l 0 (fun c => byteT c.toNat)]
        obtain ⟨b, bs, hbs⟩ : ∃ b bs, l = b :: bs := by
          cases l with
          | nil => exact absurd rfl h0
          | cons b bs => exact ⟨b, bs, rfl⟩
        rw [e]
        unfold guessV
        rw [if_neg (by simp), if_neg (by simp), if_neg (by simp), if_pos (by simp)]
        simp only [List.cons_append, List.nil_append, List.tail_cons]
        rw [hbs]
        exact gb_join bs b
/-- The document's answer is the program's. -/
theorem parse_guess (s : List UInt8) : parseR s = if showV (guessV s) = s then (guessV s, 0) else ([], 4) := by
  unfold parseR
  by_cases h : showV (guessV s) = s
  · rw [if_pos h]
    have h2 := read_show (guessV s)
    rw [h] at h2
    rw [h2]
    simp only
    rw [if_pos h]
  · rw [if_neg h]
    cases hr : readV s with
    | none => rfl
    | some v =>
      simp only
      rw [if_neg]
      intro h2
      apply h
      have h3 := guess_show v
      rw [h2] at h3
      rw [h3]
      exact h2
theorem g32_len : ∀ (l : List UInt8) (n : Nat), (g32 n l).length ≤ 4 * l.length
  | [], n => by simp [g32]
  | c :: l, n => by
    unfold g32
    split
    · have := g32_len l 0
      rw [List.length_append, be_len, List.length_cons]
      omega
    · split
      · have := g32_len l 0
        simp; omega
      · have := g32_len l ((16 * n + valV c) % 18446744073709551616)
        simp only [List.length_cons]; omega
end Go.Proofs.YtomhfmcmjcghoaaGreatDoor.Cl
