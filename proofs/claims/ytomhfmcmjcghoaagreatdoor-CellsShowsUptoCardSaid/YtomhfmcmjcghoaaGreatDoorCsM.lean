/- The mathematics of what is shown and read back: what is shown as a text, what a text shows, and that the one undoes the other. -/
import Derived.Test.YtomhfmcmjcghoaaGreatDoorCbM
import Derived.Test.YtomhfmcmjcghoaaGreatDoorClT
import Derived.Test.YtomhfmcmjcghoaaGreatDoorPu
import Derived.Lib.SplitLaws
import Derived.Lib.SlTrimSet
namespace Go.Proofs.YtomhfmcmjcghoaaGreatDoor.Cl
open Go.ChangeShapes Go.WideShapes Go.ChangeAt Go.RowKit Own Nums

/-- A byte as two digits to the base 16. -/
def byteT (n : Nat) : List UInt8 := [dg (n / 16), dg (n % 16)]
def textsT (l : List UInt8) : List UInt8 := jn [44, 32] (fun i => quoted ((tx l).getD i ByteArray.empty).data.toList) (tx l).length
def cellsT (l : List UInt8) : List UInt8 := jn [32] (fun i => cellT ((c32 l).getD i 0)) (c32 l).length
def bytesT (l : List UInt8) : List UInt8 := jn [32] (fun i => byteT (l.getD i 0).toNat) l.length
/-- What a value is shown as. -/
def showV (l : List UInt8) : List UInt8 :=
  if lookV l = 0 then [45] else if lookV l = 1 then textsT l else if lookV l = 2 then [60] ++ cellsT l ++ [62] else [91] ++ bytesT l ++ [93]
/-- A text parted at its blanks. -/
def sp : List UInt8 → List UInt8 → List (List UInt8)
  | cur, [] => [cur]
  | cur, c :: l => if c = 32 then cur :: sp [] l else sp (cur ++ [c]) l
/-- What digits to the base 16 say, at most M. -/
def numM (M : Nat) (t : List UInt8) : Option Nat := if t = [] then none else parseM M 0 t
/-- What stands in quotes. -/
def rt : Bool → List UInt8 → List UInt8
  | _, [] => []
  | false, c :: l => rt (c == 34) l
  | true, [c] => if c = 34 then [0] else [c]
  | true, c :: d :: l => if c = 34 then 0 :: rt false (d :: l) else if c = 92 then d :: rt true l else c :: rt true (d :: l)
/-- Numbers to the base 16, at most M, each in k bytes. -/
def rn (M k : Nat) : List (List UInt8) → Option (List UInt8)
  | [] => some []
  | p :: ps => match numM M (Lib.trimPrefix p [48, 120]) with
    | none => none
    | some n => (rn M k ps).map (be n k ++ ·)
/-- The value that a text shows, if it shows one. -/
def readV (s : List UInt8) : Option (List UInt8) :=
  if s = [45] then some [] else if Lib.hasPrefix s [34] then some (rt false s) else if Lib.hasPrefix s [60] then rn 4294967295 4 (sp [] (Lib.trimS s [60, 62])) else if Lib.hasPrefix s [91] then rn 255 1 (sp [] (Lib.trimS s [91, 93])) else none

theorem jn_front (sep : List UInt8) (f : Nat → List UInt8) : ∀ k, ∃ r, jn sep f (k + 1) = f 0 ++ r
  | 0 => ⟨[], by simp [jn]⟩
  | k + 1 => by
    obtain ⟨r, h⟩ := jn_front sep f k
    exact ⟨r ++ sep ++ f (k + 1), by rw [jn, h]; simp⟩
theorem jn_mem (sep : List UInt8) (f : Nat → List UInt8) (c : UInt8) : ∀ k, c ∈ jn sep f k → c ∈ sep ∨ ∃ i, i < k ∧ c ∈ f i
  | 0, h => by simp [jn] at h
  | k + 1, h => by
    rw [jn] at h
    simp only [List.mem_append] at h
    rcases h with (h | h) | h
    · rcases jn_mem sep f c k h with h | ⟨i, hi, h⟩
      · exact .inl h
      · exact .inr ⟨i, by omega, h⟩
    · split at h
      · simp at h
      · exact .inl h
    · exact .inr ⟨k, by omega, h⟩
theorem sp_append : ∀ (a b cur : List UInt8), sp cur (a ++ 32 :: b) = sp cur a ++ sp [] b
  | [], b, cur => by simp [sp]
  | c :: a, b, cur => by
    simp only [List.cons_append, sp]
    by_cases hc : c = 32
    · simp only [hc, if_true, sp_append a b [], List.cons_append]
    · simp only [hc, if_false, sp_append a b (cur ++ [c])]
theorem sp_plain : ∀ (t cur : List UInt8), (∀ c ∈ t, c ≠ 32) → sp cur t = [cur ++ t]
  | [], cur, _ => by simp [sp]
  | c :: t, cur, h => by
    have hc : c ≠ 32 := h c (by simp)
    rw [sp, if_neg hc, sp_plain t (cur ++ [c]) (fun d hd => h d (by simp [hd]))]
    simp
theorem sp_jn (f : Nat → List UInt8) (h : ∀ i, ∀ c ∈ f i, c ≠ 32) : ∀ k, sp [] (jn [32] f (k + 1)) = (List.range (k + 1)).map f
  | 0 => by
    rw [show jn [32] f 1 = f 0 by simp [jn], sp_plain _ _ (h 0)]
    simp [List.range_succ]
  | k + 1 => by
    have e : jn [32] f (k + 2) = jn [32] f (k + 1) ++ 32 :: f (k + 1) := by rw [jn]; simp
    rw [e, sp_append, sp_jn f h k, sp_plain _ _ (h (k + 1)), List.range_succ (n := k + 1)]
    simp
theorem sp_len : ∀ (l cur : List UInt8), (sp cur l).length ≤ l.length + 1
  | [], cur => by simp [sp]
  | c :: l, cur => by
    unfold sp
    split
    · have := sp_len l []; simp; omega
    · have := sp_len l (cur ++ [c]); simp; omega
/-- The library's parting is this one. -/
theorem index_at : ∀ (cur r : List UInt8), (∀ c ∈ cur, c ≠ 32) → Lib.index (cur ++ 32 :: r) [32] = (cur.length : Int)
  | [], r, _ => by
    simp only [List.nil_append]
    rw [Lib.index]
    simp [List.isPrefixOf]
  | b :: cur, r, h => by
    have hb : b ≠ 32 := h b (by simp)
    have ih := index_at cur r (fun c hc => h c (by simp [hc]))
    have hp : ([32] : List UInt8).isPrefixOf (b :: (cur ++ 32 :: r)) = false := by simp [List.isPrefixOf, Ne.symm hb]
    rw [List.cons_append, Lib.index, hp, ih]
    simp
theorem count_plain (cur : List UInt8) (h : ∀ c ∈ cur, c ≠ 32) : cur.count 32 = 0 := List.count_eq_zero.2 fun hm => h 32 hm rfl
theorem splitK_sp : ∀ (l cur : List UInt8), (∀ c ∈ cur, c ≠ 32) → Lib.splitK [32] 0 ((cur ++ l).count 32) (cur ++ l) = sp cur l
  | [], cur, h => by
    rw [List.append_nil, count_plain cur h]
    rfl
  | c :: l, cur, h => by
    by_cases hc : c = 32
    · subst hc
      have hk : (cur ++ 32 :: l).count 32 = l.count 32 + 1 := by rw [List.count_append, count_plain cur h, List.count_cons_self]; omega
      have hi := index_at cur l h
      rw [hk, Lib.splitK, hi, sp, if_pos rfl]
      have hne : ¬ (((cur.length : Int)) == -1) = true := by
        rw [beq_iff_eq]; omega
      rw [if_neg hne]
      have e1 : ((cur.length : Int)).toNat = cur.length := by omega
      rw [e1]
      have ih := splitK_sp l [] (fun c hc => by simp at hc)
      simp only [List.nil_append] at ih
      have e2 : (cur ++ 32 :: l).take (cur.length + 0) = cur := by simp
      have e3 : (cur ++ 32 :: l).drop (cur.length + [(32 : UInt8)].length) = l := by
        rw [← List.drop_drop]
        simp
      rw [e2, e3, ih]
    · have e : cur ++ c :: l = (cur ++ [c]) ++ l := by simp
      rw [e, sp, if_neg hc]
      exact splitK_sp l (cur ++ [c]) (fun d hd => by
        rcases List.mem_append.1 hd with h1 | h1
        · exact h d h1
        · have : d = c := by simpa using h1
          rw [this]; exact hc)
theorem trim_wrap (a b : UInt8) (cs J : List UInt8) (ha : cs.contains a = true) (hb : cs.contains b = true) (hJ : ∀ c ∈ J, cs.contains c = false) (hne : J ≠ []) : Lib.trimS ([a] ++ J ++ [b]) cs = J := by
  have e : ([a] ++ J ++ [b]).reverse = b :: (J.reverse ++ [a]) := by simp
  obtain ⟨x, xs, hx⟩ : ∃ x xs, J.reverse = x :: xs := by
    cases h : J.reverse with
    | nil => exact absurd (by simpa using h) hne
    | cons x xs => exact ⟨x, xs, rfl⟩
  have hxc : cs.contains x = false := hJ x (by
    have : x ∈ J.reverse := by rw [hx]; simp
    simpa using this)
  have h1 : Lib.trimRightS ([a] ++ J ++ [b]) cs = [a] ++ J := by
    unfold Lib.trimRightS
    rw [e, List.dropWhile_cons_of_pos (by exact hb), hx, List.cons_append, List.dropWhile_cons_of_neg (by rw [hxc]; simp), ← List.cons_append, ← hx]
    simp
  unfold Lib.trimS
  rw [h1]
  unfold Lib.trimLeftS
  rw [List.singleton_append, List.dropWhile_cons_of_pos (by exact ha)]
  cases hJJ : J with
  | nil => exact absurd hJJ hne
  | cons y ys =>
    have hy : cs.contains y = false := hJ y (by rw [hJJ]; simp)
    rw [List.dropWhile_cons_of_neg (by rw [hy]; simp)]

theorem dg_facts : ∀ k : Fin 16, worth (dg k.val).toNat = (k.val : Int) ∧ dg k.val ≠ 32 ∧ dg k.val ≠ 60 ∧ dg k.val ≠ 62 ∧ dg k.val ≠ 91 ∧ dg k.val ≠ 93 ∧ dg k.val ≠ 120 := by decide +kernel
theorem hx_mem : ∀ (f n : Nat) (c : UInt8), c ∈ hx f n → ∃ k, k < 16 ∧ c = dg k
  | 0, n, c, h => by simp [hx] at h
  | f + 1, n, c, h => by
    by_cases hn : n < 16
    · rw [hx_last _ _ hn] at h
      exact ⟨n, hn, by simpa using h⟩
    · rw [hx_step _ _ hn] at h
      rcases List.mem_append.1 h with h | h
      · exact hx_mem f (n / 16) c h
      · exact ⟨n % 16, by omega, by simpa using h⟩
theorem hx_ne (f n : Nat) : hx (f + 1) n ≠ [] := by
  by_cases h : n < 16
  · rw [hx_last _ _ h]; exact List.cons_ne_nil _ _
  · rw [hx_step _ _ h]; simp
theorem hx_readM (M : Nat) : ∀ (f n : Nat), n < 16 ^ (f + 1) → n ≤ M → ∀ r, parseM M 0 (hx (f + 1) n ++ r) = parseM M n r
  | f, n, hf, hn, r => by
    by_cases h : n < 16
    · rw [hx_last _ _ h]
      show parseM M 0 (dg n :: r) = _
      have hw : worth (dg n).toNat = (n : Int) := (dg_facts ⟨n, h⟩).1
      rw [parseM, hw, if_neg (by omega), if_neg (by omega)]
      congr 1
      omega
    · rcases f with _ | f
      · simp at hf; omega
      · rw [hx_step _ _ h, List.append_assoc, hx_readM M f (n / 16) (div_lt _ _ hf) (by omega)]
        show parseM M (n / 16) (dg (n % 16) :: r) = _
        have hw : worth (dg (n % 16)).toNat = ((n % 16 : Nat) : Int) := (dg_facts ⟨n % 16, by omega⟩).1
        rw [parseM, hw, if_neg (by omega), if_neg (by omega)]
        congr 1
        omega
theorem cellT_mem (n : Nat) (c : UInt8) (h : c ∈ cellT n) : c ≠ 32 ∧ c ≠ 60 ∧ c ≠ 62 := by
  unfold cellT at h
  rcases List.mem_append.1 h with h | h
  · simp at h
    rcases h with rfl | rfl <;> decide
  · obtain ⟨k, hk, rfl⟩ := hx_mem _ _ _ h
    have := dg_facts ⟨k, hk⟩
    exact ⟨this.2.1, this.2.2.1, this.2.2.2.1⟩
theorem byteT_mem (n : Nat) (hn : n < 256) (c : UInt8) (h : c ∈ byteT n) : c ≠ 32 ∧ c ≠ 91 ∧ c ≠ 93 ∧ c ≠ 120 := by
  unfold byteT at h
  simp at h
  rcases h with rfl | rfl
  · have := dg_facts ⟨n / 16, by omega⟩
    exact ⟨this.2.1, this.2.2.2.2.1, this.2.2.2.2.2.1, this.2.2.2.2.2.2⟩
  · have := dg_facts ⟨n % 16, by omega⟩
    exact ⟨this.2.1, this.2.2.2.2.1, this.2.2.2.2.2.1, this.2.2.2.2.2.2⟩
theorem numM_cell (n : Nat) (hn : n < 4294967296) : numM 4294967295 (Lib.trimPrefix (cellT n) [48, 120]) = some n := by
  have e : Lib.trimPrefix (cellT n) [48, 120] = hx 16 n := by
    unfold Lib.trimPrefix Lib.hasPrefix cellT
    simp [List.isPrefixOf]
  rw [e]
  unfold numM
  rw [if_neg (hx_ne 15 n)]
  have := hx_readM 4294967295 15 n (Nat.lt_trans hn (by decide)) (by omega) []
  rw [List.append_nil] at this
  exact this
theorem numM_byte (n : Nat) (hn : n < 256) : numM 255 (Lib.trimPrefix (byteT n) [48, 120]) = some n := by
  have h2 := (byteT_mem n hn (dg (n % 16)) (by simp [byteT])).2.2.2
  have e : Lib.trimPrefix (byteT n) [48, 120] = byteT n := by
    unfold Lib.trimPrefix Lib.hasPrefix byteT
    simp [List.isPrefixOf, Ne.symm h2]
  rw [e]
  unfold numM byteT
  rw [if_neg (by simp)]
  have w1 : worth (dg (n / 16)).toNat = ((n / 16 : Nat) : Int) := (dg_facts ⟨n / 16, by omega⟩).1
  have w2 : worth (dg (n % 16)).toNat = ((n % 16 : Nat) : Int) := (dg_facts ⟨n % 16, by omega⟩).1
  rw [parseM, w1, if_neg (by omega), if_neg (by omega), parseM, w2, if_neg (by omega), if_neg (by omega), parseM]
  congr 1
  omega
theorem rn_map (M k : Nat) (f : Nat → List UInt8) (g : Nat → Nat) : ∀ (l : List Nat), (∀ i ∈ l, numM M (Lib.trimPrefix (f i) [48, 120]) = some (g i)) → rn M k (l.map f) = some (l.flatMap fun i => be (g i) k)
  | [], _ => rfl
  | i :: l, h => by
    rw [List.map_cons, rn, h i (by simp), rn_map M k f g l (fun j hj => h j (by simp [hj]))]
    simp
theorem range_getD (xs : List Nat) : (List.range xs.length).map (fun i => xs.getD i 0) = xs := by
  apply List.ext_getElem
  · simp
  · intro i h1 h2
    simp [List.getD_eq_getElem?_getD, List.getElem?_eq_getElem h2]
theorem esc_rt (c : UInt8) (r : List UInt8) (hr : r ≠ []) : rt true (esc c ++ r) = c :: rt true r := by
  obtain ⟨d, r', rfl⟩ : ∃ d r', r = d :: r' := by
    cases r with
    | nil => exact absurd rfl hr
    | cons d r' => exact ⟨d, r', rfl⟩
  unfold esc
  by_cases h : c = 34 ∨ c = 92
  · rw [if_pos h]
    simp [rt]
  · rw [if_neg h]
    have h1 : c ≠ 34 := fun e => h (.inl e)
    have h2 : c ≠ 92 := fun e => h (.inr e)
    simp [rt, h1, h2]
theorem rt_quote : ∀ (t r : List UInt8), rt true (t.flatMap esc ++ 34 :: r) = t ++ 0 :: rt false r
  | [], r => by
    cases r with
    | nil => simp [rt]
    | cons d r => simp [rt]
  | c :: t, r => by
    rw [List.flatMap_cons, List.append_assoc, esc_rt c _ (by simp), rt_quote t r]
    rfl
theorem rt_quoted (t r : List UInt8) : rt false (quoted t ++ r) = t ++ 0 :: rt false r := by
  have e : quoted t ++ r = 34 :: (t.flatMap esc ++ 34 :: r) := by simp [quoted]
  rw [e, rt]
  exact rt_quote t r
theorem rt_jn (xs : List ByteArray) (r : List UInt8) : ∀ k, k ≤ xs.length → rt false (jn [44, 32] (fun i => quoted (xs.getD i ByteArray.empty).data.toList) k ++ r) = vT (xs.take k) ++ rt false r := by
  intro k
  induction k generalizing r with
  | zero => intro _; simp [jn, vT]
  | succ k ih =>
    intro hk
    rw [jn, List.append_assoc, List.append_assoc, ih _ (by omega), take_getS xs k (by omega), vT_snoc]
    have e : rt false ((if k = 0 then ([] : List UInt8) else [44, 32]) ++ (quoted (xs.getD k ByteArray.empty).data.toList ++ r)) = (xs.getD k ByteArray.empty).data.toList ++ 0 :: rt false r := by
      split
      · rw [List.nil_append, rt_quoted]
      · have e2 : ∀ X : List UInt8, rt false ([44, 32] ++ X) = rt false X := fun X => by simp [rt]
        rw [e2]
        exact rt_quoted _ _
    rw [e]
    simp
theorem plain_tx (l : List UInt8) (h : plainB l = true) : etx l = 0 ∧ 0 < (tx l).length := by
  unfold plainB at h
  simp only [Bool.and_eq_true, Bool.not_eq_true', List.isEmpty_iff, List.isEmpty_eq_false_iff] at h
  unfold etx tx
  rw [if_pos h.1.1, if_pos h.1.1]
  refine ⟨rfl, ?_⟩
  rw [List.length_map]
  exact List.length_pos_iff.2 h.1.2
/-- What is shown is read back. -/
theorem read_show (l : List UInt8) : readV (showV l) = some l := by
  unfold showV lookV
  by_cases h0 : l = []
  · rw [if_pos h0]
    simp only [if_true]
    rw [h0]
    rfl
  · rw [if_neg h0]
    by_cases h1 : plainB l = true
    · rw [if_pos h1]
      have h2 := plain_tx l h1
      have h3 := of_tx l h2.1
      rw [if_neg (by decide), if_pos rfl]
      obtain ⟨k, hk⟩ : ∃ k, (tx l).length = k + 1 := ⟨(tx l).length - 1, by omega⟩
      have h4 := rt_jn (tx l) [] (tx l).length (Nat.le_refl _)
      have h5 : vT (tx l) = l := by
        unfold ofT at h3
        split at h3
        · exact congrArg Prod.fst h3
        · simp at h3
      rw [List.append_nil, List.take_of_length_le (Nat.le_refl _), h5] at h4
      obtain ⟨r, hr⟩ := jn_front [44, 32] (fun i => quoted ((tx l).getD i ByteArray.empty).data.toList) k
      have hq : textsT l = 34 :: ((((tx l).getD 0 ByteArray.empty).data.toList.flatMap esc ++ [34]) ++ r) := by
        unfold textsT
        rw [hk, hr]
        simp [quoted]
      have hp : Lib.hasPrefix (textsT l) [34] = true := by
        rw [hq]
        simp [Lib.hasPrefix, List.isPrefixOf]
      have hne : textsT l ≠ [45] := by
        rw [hq]
        simp
      unfold readV
      rw [if_neg hne, if_pos hp]
      unfold textsT
      rw [h4]
      simp [rt]
    · rw [if_neg h1]
      by_cases h2 : l.length % 4 = 0
      · rw [if_pos h2, if_neg (by decide), if_neg (by decide), if_pos rfl]
        have h3 := of_c32 l h2
        obtain ⟨k, hk⟩ : ∃ k, (c32 l).length = k + 1 := by
          refine ⟨(c32 l).length - 1, ?_⟩
          have : (c32 l).length ≠ 0 := fun h => by
            rw [List.eq_nil_of_length_eq_zero h] at h3
            exact h0 h3.symm
          omega
        have hJ : ∀ c ∈ cellsT l, ([60, 62] : List UInt8).contains c = false := fun c hc => by
          have h4 : c ≠ 60 ∧ c ≠ 62 := by
            rcases jn_mem _ _ _ _ hc with h | ⟨i, _, h⟩
            · have : c = 32 := by simpa using h
              subst this; decide
            · exact (cellT_mem _ _ h).2
          simp [h4.1, h4.2]
        obtain ⟨r, hr⟩ := jn_front [32] (fun i => cellT ((c32 l).getD i 0)) k
        have hne : cellsT l ≠ [] := by
          unfold cellsT
          rw [hk, hr]
          simp [cellT]
        unfold readV
        rw [if_neg (by simp), if_neg (by simp [Lib.hasPrefix, List.isPrefixOf]), if_pos (by simp [Lib.hasPrefix, List.isPrefixOf]), trim_wrap 60 62 _ _ (by decide) (by decide) hJ hne]
        unfold cellsT
        rw [hk, sp_jn _ (fun i c hc => (cellT_mem _ _ hc).1) k, rn_map 4294967295 4 _ (fun i => (c32 l).getD i 0) _ (fun i _ => numM_cell _ (c32_lt l i))]
        have h5 : ((List.range (k + 1)).flatMap fun i => be ((c32 l).getD i 0) 4) = vOf 4 (c32 l) := by
          unfold vOf
          rw [← hk]
          have : c32 l = (List.range (c32 l).length).map (fun i => (c32 l).getD i 0) := (range_getD _).symm
          conv => rhs; rw [this]
          rw [List.flatMap_map]
        rw [h5, h3]
      · rw [if_neg h2, if_neg (by decide), if_neg (by decide), if_neg (by decide)]
        obtain ⟨k, hk⟩ : ∃ k, l.length = k + 1 := ⟨l.length - 1, by have := List.length_pos_iff.2 h0; omega⟩
        have hJ : ∀ c ∈ bytesT l, ([91, 93] : List UInt8).contains c = false := fun c hc => by
          have h4 : c ≠ 91 ∧ c ≠ 93 := by
            rcases jn_mem _ _ _ _ hc with h | ⟨i, _, h⟩
            · have : c = 32 := by simpa using h
              subst this; decide
            · have := byteT_mem _ (UInt8.toNat_lt _) _ h
              exact ⟨this.2.1, this.2.2.1⟩
          simp [h4.1, h4.2]
        obtain ⟨r, hr⟩ := jn_front [32] (fun i => byteT (l.getD i 0).toNat) k
        have hne : bytesT l ≠ [] := by
          unfold bytesT
          rw [hk, hr]
          simp [byteT]
        unfold readV
        rw [if_neg (by simp), if_neg (by simp [Lib.hasPrefix, List.isPrefixOf]), if_neg (by simp [Lib.hasPrefix, List.isPrefixOf]), if_pos (by simp [Lib.hasPrefix, List.isPrefixOf]), trim_wrap 91 93 _ _ (by decide) (by decide) hJ hne]
        unfold bytesT
        rw [hk, sp_jn _ (fun i c hc => (byteT_mem _ (UInt8.toNat_lt _) _ hc).1) k, rn_map 255 1 _ (fun i => (l.getD i 0).toNat) _ (fun i _ => numM_byte _ (UInt8.toNat_lt _))]
        have h5 : ((List.range (k + 1)).flatMap fun i => be (l.getD i 0).toNat 1) = l := by
          rw [← hk]
          have e : ∀ i, be (l.getD i 0).toNat 1 = [l.getD i 0] := fun i => by simp [be]
          simp only [e]
          rw [← List.map_eq_flatMap]
          apply List.ext_getElem
          · simp
          · intro i h1 h2
            simp [List.getD_eq_getElem?_getD, List.getElem?_eq_getElem h2]
        rw [h5]
theorem show_inj {a b : List UInt8} (h : showV a = showV b) : a = b := by
  have h1 := read_show a
  rw [h, read_show b] at h1
  exact (Option.some.inj h1).symm
end Go.Proofs.YtomhfmcmjcghoaaGreatDoor.Cl
