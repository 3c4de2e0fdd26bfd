/- What Quote makes of a text, its length; the contract of read; lists of texts that a call makes. -/
import Derived.Test.YtaoekpedjgnnjaaDoorWdF
import Derived.Lib.SplitLaws
namespace Go.Proofs.YtaoekpedjgnnjaaDoor.Wd
open Go.ChangeShapes Go.WideShapes Go.ChangeAt Go.RowKit Own Bld Go.Lib Nums

/-- A quote with its bar ahead. -/
def qe (c : UInt8) : List UInt8 := if c = 34 then [92, 34] else [c]
theorem index_q : ∀ (cur r : List UInt8), (∀ c ∈ cur, c ≠ 34) → Lib.index (cur ++ 34 :: r) [34] = (cur.length : Int)
  | [], r, _ => by
    simp only [List.nil_append]
    rw [Lib.index]
    simp [List.isPrefixOf]
  | b :: cur, r, h => by
    have hb : b ≠ 34 := h b (by simp)
    have ih := index_q cur r (fun c hc => h c (by simp [hc]))
    have hp : ([34] : List UInt8).isPrefixOf (b :: (cur ++ 34 :: r)) = false := by simp [List.isPrefixOf, Ne.symm hb]
    rw [List.cons_append, Lib.index, hp, ih]
    simp
theorem count_q (cur : List UInt8) (h : ∀ c ∈ cur, c ≠ 34) : cur.count 34 = 0 := List.count_eq_zero.2 fun hm => h 34 hm rfl
theorem plain_qe : ∀ cur : List UInt8, (∀ c ∈ cur, c ≠ 34) → cur.flatMap qe = cur
  | [], _ => rfl
  | c :: cur, h => by
    have hc : qe c = [c] := if_neg (h c (by simp))
    rw [List.flatMap_cons, hc, plain_qe cur (fun d hd => h d (by simp [hd]))]
    rfl
theorem replaceK_q : ∀ (l cur : List UInt8), (∀ c ∈ cur, c ≠ 34) → Lib.replaceK [34] [92, 34] ((cur ++ l).count 34) (cur ++ l) = (cur ++ l).flatMap qe
  | [], cur, h => by
    rw [List.append_nil, count_q cur h, plain_qe cur h]
    rfl
  | c :: l, cur, h => by
    by_cases hc : c = 34
    · subst hc
      have hk : (cur ++ 34 :: l).count 34 = l.count 34 + 1 := by rw [List.count_append, count_q cur h, List.count_cons_self]; omega
      rw [hk, Lib.replaceK_hit _ _ _ _ cur.length (index_q cur l h)]
      have ih := replaceK_q l [] (fun c hc => by simp at hc)
      simp only [List.nil_append] at ih
      have e2 : (cur ++ 34 :: l).take cur.length = cur := by simp
      have e3 : (cur ++ 34 :: l).drop (cur.length + [(34 : UInt8)].length) = l := by
        rw [← List.drop_drop]
        simp
      rw [e2, e3, ih, List.flatMap_append, plain_qe cur h, List.flatMap_cons]
      simp [qe]
    · have e : cur ++ c :: l = (cur ++ [c]) ++ l := by simp
      rw [e]
      exact replaceK_q l (cur ++ [c]) (fun d hd => by
        rcases List.mem_append.1 hd with h1 | h1
        · exact h d h1
        · have : d = c := by simpa using h1
          rw [this]; exact hc)
theorem replaceAll_q (l : List UInt8) : Lib.replaceAll l [34] [92, 34] = l.flatMap qe := by
  have h := replaceK_q l [] (fun c hc => by simp at hc)
  simp only [List.nil_append] at h
  unfold Lib.replaceAll Lib.replace Lib.replaceNum
  rw [if_neg (by decide), if_pos (.inl (by decide)), Lib.count_one, h]
theorem qe_len : ∀ l : List UInt8, (l.flatMap qe).length ≤ 2 * l.length
  | [] => by simp
  | c :: l => by
    have h1 : (qe c).length ≤ 2 := by unfold qe; split <;> simp
    have h2 := qe_len l
    simp only [List.flatMap_cons, List.length_append, List.length_cons]
    omega
theorem quote_room (s : ByteArray) (hs : s.size ≤ 16777216) : (Lib.replaceAll (showW s.data.toList) [34] [92, 34]).length ≤ 268435456 := by
  have h1 := qe_len (showW s.data.toList)
  have h2 := showW_len _ s.data.toList (Nat.le_refl _)
  have h3 : s.data.toList.length = s.size := rfl
  rw [replaceAll_q]
  omega

def readW (l : List UInt8) : List UInt8 × Bool :=
  let s := if Lib.hasPrefix l [34] then unW (Lib.trimSuffix (l.drop 1) [34]) else l
  (s, decide (inW s = l))
theorem trimS_le (l p : List UInt8) : (Lib.trimSuffix l p).length ≤ l.length := by
  unfold Lib.trimSuffix
  split
  · simp
  · exact Nat.le_refl _
theorem readW_len (l : List UInt8) : (readW l).1.length ≤ l.length := by
  unfold readW
  simp only
  split
  · have h1 := unW_len _ (Lib.trimSuffix (l.drop 1) [34]) (Nat.le_refl _)
    have h2 := trimS_le (l.drop 1) [34]
    rw [List.length_drop] at h2
    omega
  · exact Nat.le_refl _
theorem eq_lists (a b : ByteArray) : (a.toList == b.toList) = decide (a.data.toList = b.data.toList) := by
  rw [Lib.toList_data, Lib.toList_data]
  by_cases h : a.data.toList = b.data.toList
  · rw [decide_eq_true h, beq_iff_eq]; exact h
  · rw [decide_eq_false h, beq_eq_false_iff_ne]; exact h
theorem ret_rd {a b : ByteArray} {x y : Bool} (h : a = b) (h2 : x = y) : Ending.returned (.tuple #[.string a, .bool x]) = .returned (.tuple #[.string b, .bool y]) := by rw [h, h2]

set_option maxRecDepth 100000 in
set_option maxHeartbeats 2000000 in
theorem read_any (s : ByteArray) (w : World) (hs : s.size ≤ 16777216) (he : En w) :
    Calls Tryd.prog 29 #[.string s] w fun e w' => e = .returned (.tuple #[.string (str (readW s.data.toList).1), .bool (readW s.data.toList).2]) ∧ Below w.heap.size w w' := by
  have HE := Lib.hid he
  have hz : s.data.toList.length = s.size := rfl
  clear he
  by_cases hp : Lib.hasPrefix s.data.toList [34] = true
  · have h1 : 1 ≤ s.size := by
      apply Nat.lt_of_not_le
      intro h
      have : s.data.toList = [] := List.eq_nil_of_length_eq_zero (by omega)
      rw [this] at hp
      cases hp
    have HP := Lib.hid hp
    have HX : Hid ((s.extract 1 s.size).data.toList = s.data.toList.drop 1) := Lib.hid (ext_drop s 1)
    have hxs : (s.extract 1 s.size).size ≤ 16777216 := by rw [ByteArray.size_extract]; omega
    obtain ⟨t, ht⟩ : ∃ t, Lib.trimSuffix (s.data.toList.drop 1) [34] = t := ⟨_, rfl⟩
    have htl : t.length ≤ s.size := by
      have h2 := trimS_le (s.data.toList.drop 1) [34]
      rw [ht, List.length_drop, hz] at h2
      omega
    have hul : (str (unW t)).size ≤ 16777216 := by
      have := unW_len _ t (Nat.le_refl _)
      rw [str_size]
      omega
    have HT := Lib.hid ht
    have HV : Hid (readW s.data.toList = (unW t, decide (inW (unW t) = s.data.toList))) := Lib.hid (by
      unfold readW
      simp only
      rw [if_pos hp, ht])
    have HQ : Hid (((str (inW (unW t))).toList == s.toList) = decide (inW (unW t) = s.data.toList)) := Lib.hid (eq_lists _ s)
    generalize decide (inW (unW t) = s.data.toList) = dB at HV HQ
    clear hp hz ht
    go_enter Tryd.func29, Tryd.ntmps29
    go_wp2_with fail
    refine (Tryd.strings_HasPrefix s ⟨#[34]⟩ _).mono ?_
    rintro e w1 ⟨rfl, rfl⟩
    rw [show Lib.hasPrefix s.data.toList (⟨#[34]⟩ : ByteArray).data.toList = true from HP.out]
    go_wp2_with fail
    refine (Tryd.strings_TrimSuffix (s.extract 1 s.size) ⟨#[34]⟩ _ (by omega)).mono ?_
    rw [HX.out, show (⟨#[34]⟩ : ByteArray).data.toList = [34] from rfl, HT.out]
    rintro e w1 ⟨rfl, rfl⟩
    go_wp2_with fail
    refine (unescaped_any ⟨t.toArray⟩ _ (by show t.length ≤ _; omega) HE.out).mono ?_
    rintro e w2 ⟨rfl, b2⟩
    have B2 := Lib.hid b2
    clear b2
    rw [show (⟨t.toArray⟩ : ByteArray).data.toList = t from rfl]
    go_wp2_with fail
    refine (inLine_any (str (unW t)) _ hul (quote_room _ hul) (HE.out.below B2.out)).mono ?_
    rw [str_list]
    rintro e w3 ⟨rfl, b3⟩
    have B3 := Lib.hid (B2.out.trans (b3.mono B2.out.size))
    clear b3
    generalize hK : str (inW (unW t)) = K at HQ ⊢
    clear hK
    go_wp2_with fail
    go_ret2
    rw [HV.out]
    exact ⟨ret_rd rfl HQ.out, B3.out⟩
  · have HP : Hid (Lib.hasPrefix s.data.toList [34] = false) := Lib.hid (by simpa using hp)
    have HV : Hid (readW s.data.toList = (s.data.toList, decide (inW s.data.toList = s.data.toList))) := Lib.hid (by
      unfold readW
      simp only
      rw [if_neg hp])
    have HQ : Hid (((str (inW s.data.toList)).toList == s.toList) = decide (inW s.data.toList = s.data.toList)) := Lib.hid (eq_lists _ s)
    generalize decide (inW s.data.toList = s.data.toList) = dB at HV HQ
    clear hp hz
    go_enter Tryd.func29, Tryd.ntmps29
    go_wp2_with fail
    refine (Tryd.strings_HasPrefix s ⟨#[34]⟩ _).mono ?_
    rintro e w1 ⟨rfl, rfl⟩
    rw [show Lib.hasPrefix s.data.toList (⟨#[34]⟩ : ByteArray).data.toList = false from HP.out]
    go_wp2_with fail
    refine (inLine_any s _ hs (quote_room _ hs) HE.out).mono ?_
    rintro e w3 ⟨rfl, b3⟩
    have B3 := Lib.hid b3
    clear b3
    generalize hK : str (inW s.data.toList) = K at HQ ⊢
    clear hK
    go_wp2_with fail
    go_ret2
    rw [HV.out]
    exact ⟨ret_rd rfl HQ.out, B3.out⟩
end Go.Proofs.YtaoekpedjgnnjaaDoor.Wd
