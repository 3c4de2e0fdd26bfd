/- The contracts of read and Parse, at every text. -/
import Derived.Test.YtomhfmcmjcghoaaGreatDoorCsD
namespace Go.Proofs.YtomhfmcmjcghoaaGreatDoor.Cl
open Go.ChangeShapes Go.WideShapes Go.ChangeAt Go.RowKit Own Bld Nums

theorem trimS_len (l cs : List UInt8) : (Lib.trimS l cs).length ≤ l.length := by
  unfold Lib.trimS Lib.trimLeftS Lib.trimRightS
  have h1 := (List.dropWhile_sublist (cs.contains ·) (l := (l.reverse.dropWhile (cs.contains ·)).reverse)).length_le
  have h2 := (List.dropWhile_sublist (cs.contains ·) (l := l.reverse)).length_le
  simp only [List.length_reverse] at h1 h2
  exact Nat.le_trans h1 h2
theorem readV_len {l v : List UInt8} (h : readV l = some v) : v.length ≤ 4 * (l.length + 1) := by
  unfold readV at h
  split at h
  · injection h with h
    subst h
    simp
  · split at h
    · injection h with h
      subst h
      have := rt_len l.length false l (Nat.le_refl _)
      omega
    · split at h
      · have h1 := rn_len _ _ _ _ h
        have h2 := sp_len (Lib.trimS l [60, 62]) []
        have h3 := trimS_len l [60, 62]
        omega
      · split at h
        · have h1 := rn_len _ _ _ _ h
          have h2 := sp_len (Lib.trimS l [91, 93]) []
          have h3 := trimS_len l [91, 93]
          omega
        · cases h
def readR (l : List UInt8) : List UInt8 × Bool := match readV l with
  | some v => (v, true)
  | none => ([], false)
def parseR (l : List UInt8) : List UInt8 × Int := match readV l with
  | some v => if showV v = l then (v, 0) else ([], 4)
  | none => ([], 4)
theorem readR_rn {M k : Nat} {l p : List UInt8} (h : readV l = rn M k (sp [] p)) : readR l = rnR M k p := by unfold readR rnR; rw [h]; cases rn M k (sp [] p) <;> rfl
theorem asc91 : ∀ (j : Nat) (b : UInt8), (⟨#[91, 93]⟩ : ByteArray).data.toList[j]? = some b → b.toNat < 128 := fun j b h => by
  have h2 : b ∈ [(91 : UInt8), 93] := List.mem_of_getElem? h
  simp at h2
  rcases h2 with rfl | rfl <;> decide
theorem bytes_differ {a b : ByteArray} (h : a ≠ b) : (a.toList == b.toList) = false := by
  rw [Lib.toList_data, Lib.toList_data, beq_eq_false_iff_ne]
  intro h2
  exact h (bytes_ext h2)

set_option maxHeartbeats 2000000 in
theorem read_any (s : ByteArray) (w : World) (hs : s.size ≤ 4194306) (he : Env2 w) :
    Calls Tryz.prog 21 #[.string s] w fun e w' => e = .returned (.tuple #[.string (str (readR s.data.toList).1), .bool (readR s.data.toList).2]) ∧ Below w.heap.size w w' := by
  have HE := Lib.hid he
  clear he
  by_cases h0 : s = ⟨#[45]⟩
  · subst h0
    go_enter Tryz.func21, Tryz.ntmps21
    go_wp2_with fail
    go_ret2
    exact ⟨rfl, Below.refl _ _⟩
  · have hne := bytes_differ h0
    have hl : s.data.toList ≠ [45] := fun h => h0 (bytes_ext h)
    rw [show (⟨#[45]⟩ : ByteArray).toList = [45] from by decide +kernel] at hne
    by_cases h1 : Lib.hasPrefix s.data.toList [34] = true
    · have HR : Hid (readR s.data.toList = (rt false s.data.toList, true)) := Lib.hid (by unfold readR readV; rw [if_neg hl, if_pos h1])
      have H1 := Lib.hid h1
      clear h1 h0 hl
      go_enter Tryz.func21, Tryz.ntmps21
      go_wp2_with fail
      refine (Tryz.strings_HasPrefix s ⟨#[34]⟩ _).mono ?_
      rintro e w1 ⟨rfl, rfl⟩
      rw [show Lib.hasPrefix s.data.toList (⟨#[34]⟩ : ByteArray).data.toList = true from H1.out]
      go_wp2_with fail
      refine (readTexts_any s _ (by omega)).mono ?_
      rintro e w2 ⟨rfl, b2⟩
      have B2 := Lib.hid b2
      clear b2
      go_wp2_with fail
      go_ret2
      rw [HR.out]
      exact ⟨rfl, B2.out⟩
    · have h1' : Lib.hasPrefix s.data.toList [34] = false := by simpa using h1
      by_cases h2 : Lib.hasPrefix s.data.toList [60] = true
      · have HR : Hid (readR s.data.toList = rnR 4294967295 4 (Lib.trimS s.data.toList [60, 62])) := Lib.hid (readR_rn (by unfold readV; rw [if_neg hl, if_neg h1, if_pos h2]))
        have H1 := Lib.hid h1'
        have H2 := Lib.hid h2
        have HT := Lib.hid (trimS_len s.data.toList [60, 62])
        clear h1 h1' h2 h0 hl
        go_enter Tryz.func21, Tryz.ntmps21
        go_wp2_with fail
        refine (Tryz.strings_HasPrefix s ⟨#[34]⟩ _).mono ?_
        rintro e w1 ⟨rfl, rfl⟩
        rw [show Lib.hasPrefix s.data.toList (⟨#[34]⟩ : ByteArray).data.toList = false from H1.out]
        go_wp2_with fail
        refine (Tryz.strings_HasPrefix s ⟨#[60]⟩ _).mono ?_
        rintro e w1 ⟨rfl, rfl⟩
        rw [show Lib.hasPrefix s.data.toList (⟨#[60]⟩ : ByteArray).data.toList = true from H2.out]
        go_wp2_with fail
        refine (Any.strings_Trim_laid Tryz.lays160 (by kernel_rfl) s ⟨#[60, 62]⟩ _ (by omega) (by decide) asc2).mono ?_
        rintro e w2 ⟨rfl, b2⟩
        have B2 := Lib.hid b2
        clear b2
        go_wp2_with fail
        refine (readNumbers32_any _ _ (by show (Lib.trimS s.data.toList [60, 62]).length ≤ _; have := HT.out; have h : s.data.toList.length = s.size := rfl; omega) (HE.out.below B2.out)).mono ?_
        rintro e w3 ⟨rfl, b3⟩
        have B3 := Lib.hid (B2.out.trans (b3.mono B2.out.size))
        clear b3
        go_wp2_with fail
        go_ret2
        rw [HR.out]
        exact ⟨rfl, B3.out⟩
      · have h2' : Lib.hasPrefix s.data.toList [60] = false := by simpa using h2
        by_cases h3 : Lib.hasPrefix s.data.toList [91] = true
        · have HR : Hid (readR s.data.toList = rnR 255 1 (Lib.trimS s.data.toList [91, 93])) := Lib.hid (readR_rn (by unfold readV; rw [if_neg hl, if_neg h1, if_neg h2, if_pos h3]))
          have H1 := Lib.hid h1'
          have H2 := Lib.hid h2'
          have H3 := Lib.hid h3
          have HT := Lib.hid (trimS_len s.data.toList [91, 93])
          clear h1 h1' h2 h2' h3 h0 hl
          go_enter Tryz.func21, Tryz.ntmps21
          go_wp2_with fail
          refine (Tryz.strings_HasPrefix s ⟨#[34]⟩ _).mono ?_
          rintro e w1 ⟨rfl, rfl⟩
          rw [show Lib.hasPrefix s.data.toList (⟨#[34]⟩ : ByteArray).data.toList = false from H1.out]
          go_wp2_with fail
          refine (Tryz.strings_HasPrefix s ⟨#[60]⟩ _).mono ?_
          rintro e w1 ⟨rfl, rfl⟩
          rw [show Lib.hasPrefix s.data.toList (⟨#[60]⟩ : ByteArray).data.toList = false from H2.out]
          go_wp2_with fail
          refine (Tryz.strings_HasPrefix s ⟨#[91]⟩ _).mono ?_
          rintro e w1 ⟨rfl, rfl⟩
          rw [show Lib.hasPrefix s.data.toList (⟨#[91]⟩ : ByteArray).data.toList = true from H3.out]
          go_wp2_with fail
          refine (Any.strings_Trim_laid Tryz.lays160 (by kernel_rfl) s ⟨#[91, 93]⟩ _ (by omega) (by decide) asc91).mono ?_
          rintro e w2 ⟨rfl, b2⟩
          have B2 := Lib.hid b2
          clear b2
          go_wp2_with fail
          refine (readNumbers8_any _ _ (by show (Lib.trimS s.data.toList [91, 93]).length ≤ _; have := HT.out; have h : s.data.toList.length = s.size := rfl; omega) (HE.out.below B2.out)).mono ?_
          rintro e w3 ⟨rfl, b3⟩
          have B3 := Lib.hid (B2.out.trans (b3.mono B2.out.size))
          clear b3
          go_wp2_with fail
          go_ret2
          rw [HR.out]
          exact ⟨rfl, B3.out⟩
        · have h3' : Lib.hasPrefix s.data.toList [91] = false := by simpa using h3
          have HR : Hid (readR s.data.toList = ([], false)) := Lib.hid (by unfold readR readV; rw [if_neg hl, if_neg h1, if_neg h2, if_neg h3])
          have H1 := Lib.hid h1'
          have H2 := Lib.hid h2'
          have H3 := Lib.hid h3'
          clear h1 h1' h2 h2' h3 h3' h0 hl
          go_enter Tryz.func21, Tryz.ntmps21
          go_wp2_with fail
          refine (Tryz.strings_HasPrefix s ⟨#[34]⟩ _).mono ?_
          rintro e w1 ⟨rfl, rfl⟩
          rw [show Lib.hasPrefix s.data.toList (⟨#[34]⟩ : ByteArray).data.toList = false from H1.out]
          go_wp2_with fail
          refine (Tryz.strings_HasPrefix s ⟨#[60]⟩ _).mono ?_
          rintro e w1 ⟨rfl, rfl⟩
          rw [show Lib.hasPrefix s.data.toList (⟨#[60]⟩ : ByteArray).data.toList = false from H2.out]
          go_wp2_with fail
          refine (Tryz.strings_HasPrefix s ⟨#[91]⟩ _).mono ?_
          rintro e w1 ⟨rfl, rfl⟩
          rw [show Lib.hasPrefix s.data.toList (⟨#[91]⟩ : ByteArray).data.toList = false from H3.out]
          go_wp2_with fail
          go_ret2
          rw [HR.out]
          exact ⟨rfl, Below.refl _ _⟩

set_option maxHeartbeats 2000000 in
theorem parse_any (s : ByteArray) (w : World) (hs : s.size ≤ 4194306) (he : Env2 w) :
    Calls Tryz.prog 7 #[.string s] w fun e w' => e = .returned (.tuple #[.string (str (parseR s.data.toList).1), .int .i64 (parseR s.data.toList).2]) ∧ Below w.heap.size w w' := by
  have HE := Lib.hid he
  clear he
  have hz : s.data.toList.length = s.size := rfl
  match hr : readV s.data.toList with
  | none =>
    have HP : Hid (parseR s.data.toList = ([], 4)) := Lib.hid (by unfold parseR; rw [hr])
    have HR : Hid (readR s.data.toList = ([], false)) := Lib.hid (by unfold readR; rw [hr])
    clear hr hz
    go_enter Tryz.func7, Tryz.ntmps7
    go_wp2_with fail
    refine (read_any s _ hs HE.out).mono ?_
    rw [HR.out]
    rintro e w1 ⟨rfl, b1⟩
    have B1 := Lib.hid b1
    clear b1
    go_wp2_with fail
    go_ret2
    rw [HP.out]
    exact ⟨rfl, B1.out⟩
  | some v =>
    have HR : Hid (readR s.data.toList = (v, true)) := Lib.hid (by unfold readR; rw [hr])
    have hvl := readV_len hr
    have hvs : (str v).size ≤ 20000000 := by show v.length ≤ _; omega
    by_cases heq : showV v = s.data.toList
    · have HP : Hid (parseR s.data.toList = (v, 0)) := Lib.hid (by unfold parseR; rw [hr]; simp only; rw [if_pos heq])
      have HS : Hid (str (showV (str v).data.toList) = s) := Lib.hid (bytes_ext (by rw [str_list, str_list]; exact heq))
      clear hr hz heq hvl
      go_enter Tryz.func7, Tryz.ntmps7
      go_wp2_with fail
      refine (read_any s _ hs HE.out).mono ?_
      rw [HR.out]
      rintro e w1 ⟨rfl, b1⟩
      have B1 := Lib.hid b1
      clear b1
      go_wp2_with fail
      refine (show_any (str v) _ hvs (HE.out.below B1.out).deb).mono ?_
      rw [HS.out]
      rintro e w2 ⟨rfl, b2⟩
      have B2 := Lib.hid (B1.out.trans (b2.mono B1.out.size))
      clear b2
      go_wp2_with fail
      go_ret2
      rw [HP.out]
      exact ⟨rfl, B2.out⟩
    · have HP : Hid (parseR s.data.toList = ([], 4)) := Lib.hid (by unfold parseR; rw [hr]; simp only; rw [if_neg heq])
      have hd : str (showV (str v).data.toList) ≠ s := fun h => heq (by
        have h2 := congrArg (fun b : ByteArray => b.data.toList) h
        exact h2)
      have hdd := bytes_differ hd
      clear hr hz heq hvl hd
      go_enter Tryz.func7, Tryz.ntmps7
      go_wp2_with fail
      refine (read_any s _ hs HE.out).mono ?_
      rw [HR.out]
      rintro e w1 ⟨rfl, b1⟩
      have B1 := Lib.hid b1
      clear b1
      go_wp2_with fail
      refine (show_any (str v) _ hvs (HE.out.below B1.out).deb).mono ?_
      rintro e w2 ⟨rfl, b2⟩
      have B2 := Lib.hid (B1.out.trans (b2.mono B1.out.size))
      clear b2
      generalize str (showV (str v).data.toList) = z at hdd ⊢
      go_wp2_with fail
      go_ret2
      rw [HP.out]
      exact ⟨rfl, B2.out⟩
end Go.Proofs.YtomhfmcmjcghoaaGreatDoor.Cl
