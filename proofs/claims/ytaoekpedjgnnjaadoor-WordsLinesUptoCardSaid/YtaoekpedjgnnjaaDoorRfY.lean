/- The document's own Fields. -/
import Derived.Test.YtaoekpedjgnnjaaDoorRfX
namespace Go.Proofs.YtaoekpedjgnnjaaDoor.Wd
open Go.ChangeShapes Go.WideShapes Go.ChangeAt Go.RowKit Own Bld Go.Lib Nums

theorem word_any (s : ByteArray) (w : World) (hs : s.size ≤ 268435456) :
    Calls Tryd.prog 27 #[.string s] w fun e w' => e = .returned (.tuple #[.string (str (wordW s.data.toList).1), .int .i64 ((wordW s.data.toList).2 : Int)]) ∧ Below w.heap.size w w' := by
  by_cases h : ∃ h0 : 0 < s.size, s[0] = 34
  · obtain ⟨h0, h1⟩ := h
    exact word_quoted s w hs h0 h1
  · have hb := word_bare s w hs fun h0 h1 => h ⟨h0, h1⟩
    have e : wordW s.data.toList = (bareW s.data.toList, (bareW s.data.toList).length) := by
      unfold wordW
      rw [if_neg]
      intro hp
      by_cases h0 : 0 < s.size
      · have e := drop_cons s 0 h0
        rw [List.drop_zero] at e
        rw [e, pre_cons] at hp
        exact h ⟨h0, of_decide_eq_true hp⟩
      · have hl : s.data.toList = [] := List.eq_nil_of_length_eq_zero (by show s.size = 0; omega)
        rw [hl] at hp
        exact absurd hp (by decide)
    rw [e]
    exact hb

/-- The words read up to a place of a line. -/
def FS (s : ByteArray) (k : Nat) (T : List (List UInt8)) : Prop := wdsW s.data.toList = T ++ wdsW (s.data.toList.drop k)
theorem FS.start (s : ByteArray) : FS s 0 [] := by unfold FS; rw [List.drop_zero]; rfl
theorem FS.next {s : ByteArray} {k : Nat} {T : List (List UInt8)} (h : FS s k T) (hk : k < s.size) : FS s (k + (wordW (s.data.toList.drop k)).2 + 1) (T ++ [(wordW (s.data.toList.drop k)).1]) := by
  have hne : s.data.toList.drop k ≠ [] := by rw [drop_cons s k hk]; simp
  unfold FS at h ⊢
  rw [wdsW_step _ hne, List.drop_drop] at h
  rw [h, List.append_assoc, Nat.add_assoc]
  rfl
theorem FS.done {s : ByteArray} {k : Nat} {T : List (List UInt8)} (h : FS s k T) (hk : s.size ≤ k) : T = wdsW s.data.toList := by
  unfold FS at h
  rw [List.drop_of_length_le (show s.data.toList.length ≤ k from hk)] at h
  rw [h]
  exact (List.append_nil T).symm
theorem ext_tail (s : ByteArray) (k : Nat) : (s.extract k s.size).data.toList = s.data.toList.drop k := ext_drop s k
theorem str_eq (a : List UInt8) (s : ByteArray) : ((str a).toList == s.toList) = decide (a = s.data.toList) := eq_lists (str a) s

set_option maxRecDepth 100000 in
set_option maxHeartbeats 8000000 in
theorem refFields_any (s : ByteArray) (w : World) (hs : s.size ≤ 1048576) :
    Calls Tryd.prog 13 #[.string s] w (Made (fldR s.data.toList).1 (fldR s.data.toList).2 w) := by
  go_enter Tryd.func13, Tryd.ntmps13
  go_wp2_with fail
  go_loopw [4, 5] (fun v4 v5 wr => ∃ (k n : Nat) (T : List (List UInt8)), k ≤ s.size + 1 ∧ v5 = .int .i64 k ∧ n ≤ k ∧ Hid (n = T.length) ∧ FS s k T ∧ wr.ownsRow w.heap.size 9 1 v4 n (strs T) ∧ Below w.heap.size w wr) (fun _ v5 _ => s.size + 1 - (RowKit.intOf v5).toNat)
  case atStart => exact ⟨0, 0, [], by omega, rfl, by omega, Lib.hid rfl, FS.start s, own_nil w _ _, Below.refl _ _⟩
  case round =>
    obtain ⟨k, n, T, hk, rfl, hnk, HN, hfs, hown, hbw⟩ := hrel
    have HO := Lib.hid hown
    have HB := Lib.hid hbw
    have HF := Lib.hid hfs
    have hsz := hbw.size
    clear hown hbw hfs
    by_cases hlt : k < s.size
    · have HF1 := Lib.hid (HF.out.next hlt)
      have hes : (s.extract k s.size).size = s.size - k := by rw [ByteArray.size_extract]; omega
      have HW := Lib.hid fun W => word_any (s.extract k s.size) W (by omega)
      have hbd := (word_bd (s.data.toList.drop k)).2
      have hdl : (s.data.toList.drop k).length = s.size - k := List.length_drop
      rw [hdl] at hbd
      rw [ext_tail s k] at HW
      clear hes hdl
      generalize wordW (s.data.toList.drop k) = p at HF1 HW hbd
      obtain ⟨x, m⟩ := p
      replace hbd : m ≤ s.size - k := hbd
      replace HW : Hid (∀ W, Calls Tryd.prog 27 #[.string (s.extract k s.size)] W fun e w' => e = .returned (.tuple #[.string (str x), .int .i64 (m : Int)]) ∧ Below W.heap.size W w') := HW
      replace HF1 : Hid (FS s (k + m + 1) (T ++ [x])) := HF1
      go_wp2_with fail
      refine (HW.out _).mono ?_
      rintro e w2 ⟨rfl, b2⟩
      have B2 := Lib.hid (HB.out.trans (b2.mono hsz))
      have O2 := Lib.hid (own_below HO.out b2 (Nat.le_refl _))
      have hsz2 : w.heap.size ≤ w2.heap.size := B2.out.size
      clear b2
      go_wp2_with (at_builtin; go_must (refine wpList_append_src rfl (.tmp 19) (.tmp 21) 25 rfl w.heap.size 9 (.string ByteArray.empty) 16 Tryd.underlying25 info_str rfl _ n (strs T) rfl (O2.out.alloc _) _ 1 1 [.string (str x)] rfl (src_new _ _ _) (by intro u hu; simp at hu; subst hu; rfl) (by omega) (by omega) (by simp; omega) ?_); intro v3 w3 ho3 hg3; rw [← strs_snoc] at ho3; have O3 := Lib.hid ho3; have B3 := Lib.hid (below_grown' B2.out hsz2 O2.out (Nat.le_refl _) hg3); clear ho3 hg3)
      go_wp2_with fail
      go_roundw
      case rel => exact ⟨k + m + 1, n + 1, T ++ [x], by omega, by go_num, by omega, Lib.hid (by rw [HN.out]; simp), HF1.out, O3.out, B3.out⟩
      case measure => simp [RowKit.intOf]; omega
    · have HT := Lib.hid (HF.out.done (by omega))
      have HBK : Hid (bulkL T ≤ 1048577) := Lib.hid (by
        rw [HT.out]
        have h1 := wds_bulk _ s.data.toList (Nat.le_refl _)
        have h2 : s.data.toList.length = s.size := rfl
        omega)
      have HFD := Lib.hid (fld_doc s.data.toList)
      have HO2 := Lib.hid HO.out
      obtain ⟨A, c, rfl, hsrc⟩ := own_src HO.out
      have HS := Lib.hid hsrc
      have HL := Lib.hid (refLine_big A c n T wr HN.out (by have := HBK.out; omega) HS.out)
      have HQ := Lib.hid (str_eq (lineL T) s)
      clear hsrc
      by_cases he : lineL T = s.data.toList
      · have HR : Hid (fldR s.data.toList = (T, 0)) := Lib.hid (by rw [HFD.out, ← HT.out, if_pos he])
        have t1 : ((str (lineL T)).toList == s.toList) = true := by rw [HQ.out, decide_eq_true he]
        clear he HQ
        generalize str (lineL T) = P at HL t1
        go_wp2_with fail
        refine HL.out.mono ?_
        rintro e w2 ⟨rfl, b2⟩
        have B2 := Lib.hid (HB.out.trans (b2.mono hsz))
        have O2 := Lib.hid (own_below HO.out b2 (Nat.le_refl _))
        clear b2
        go_wp2_with fail
        go_ret2
        rw [HR.out]
        exact made_own HN.out O2.out B2.out
      · have HR : Hid (fldR s.data.toList = ([], 4)) := Lib.hid (by rw [HFD.out, ← HT.out, if_neg he])
        have t1 : ((str (lineL T)).toList == s.toList) = false := by rw [HQ.out, decide_eq_false he]
        clear he HQ
        generalize str (lineL T) = P at HL t1
        go_wp2_with fail
        refine HL.out.mono ?_
        rintro e w2 ⟨rfl, b2⟩
        have B2 := Lib.hid (HB.out.trans (b2.mono hsz))
        clear b2
        go_wp2_with fail
        go_ret2
        rw [HR.out]
        exact made_none _ _ _ B2.out
end Go.Proofs.YtaoekpedjgnnjaaDoor.Wd
