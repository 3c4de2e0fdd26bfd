/- The walk of the law on what is shown and read back. -/
import Derived.Test.YtomhfmcmjcghoaaGreatDoorCsE
import Derived.Test.YtomhfmcmjcghoaaGreatDoorCbW
namespace Go.Proofs.YtomhfmcmjcghoaaGreatDoor.Cl
open Go.ChangeShapes Go.WideShapes Go.ChangeAt Go.RowKit Own Bld Nums

theorem parse_show (l : List UInt8) : parseR (showV l) = (l, 0) := by
  unfold parseR
  rw [read_show]
  simp
theorem parseR_ok {l v : List UInt8} {e : Int} (h : parseR l = (v, e)) : (e = 0 ∧ showV v = l) ∨ e = 4 := by
  unfold parseR at h
  split at h
  · split at h
    · rename_i hs
      simp only [Prod.mk.injEq] at h
      exact .inl ⟨h.2.symm, by rw [← h.1]; exact hs⟩
    · simp only [Prod.mk.injEq] at h
      exact .inr h.2.symm
  · simp only [Prod.mk.injEq] at h
    exact .inr h.2.symm
theorem parseR_len {l v : List UInt8} {e : Int} (h : parseR l = (v, e)) : v.length ≤ 4 * (l.length + 1) := by
  unfold parseR at h
  split at h
  · rename_i u hu
    have := readV_len hu
    split at h
    · simp only [Prod.mk.injEq] at h
      rw [← h.1]; exact this
    · simp only [Prod.mk.injEq] at h
      rw [← h.1]; simp
  · simp only [Prod.mk.injEq] at h
    rw [← h.1]; simp

set_option maxRecDepth 100000 in
set_option maxHeartbeats 8000000 in
theorem walkShown (v u s : ByteArray) (w : World) (hv : v.size ≤ 1048576) (hu : u.size ≤ 1048576) (hs : s.size ≤ 1048576) (he : Env2 w) :
    Calls Tryz.prog 5 #[.string v, .string u, .string s] w fun e w' => e = .returned (.bool true) ∧ Below w.heap.size w w' := by
  have HE := Lib.hid he
  clear he
  have hz : v.data.toList.length = v.size := rfl
  have HPS : Hid (parseR (str (showV v.data.toList)).data.toList = (v.data.toList, 0)) := Lib.hid (parse_show _)
  have HSZ : Hid ((str (showV v.data.toList)).size ≤ 4194306) := Lib.hid (by
    have := show_len v.data.toList
    show (showV v.data.toList).length ≤ _
    omega)
  have HV : Hid (str v.data.toList = v) := Lib.hid rfl
  have HUV : Hid (v ≠ u → str (showV v.data.toList) ≠ str (showV u.data.toList)) := Lib.hid fun h h2 => h (bytes_ext (show_inj (by
    have h3 := congrArg (fun b : ByteArray => b.data.toList) h2
    exact h3)))
  obtain ⟨pv, pe, hP⟩ : ∃ pv pe, parseR s.data.toList = (pv, pe) := ⟨_, _, rfl⟩
  have HOK := Lib.hid (parseR_ok hP)
  have HPL : Hid ((str pv).size ≤ 20000000) := Lib.hid (by
    have h1 := parseR_len hP
    have h2 : s.data.toList.length = s.size := rfl
    show pv.length ≤ _
    omega)
  have HP := Lib.hid hP
  clear hz hP
  go_enter Tryz.func5, Tryz.ntmps5
  go_wp2_with fail
  refine (awake_any _ HE.out.toEnv).mono ?_
  rintro e w0 ⟨rfl, b0⟩
  have B0 := Lib.hid b0
  clear b0
  go_wp2_with fail
  refine (show_any v _ (by omega) (HE.out.below B0.out).deb).mono ?_
  rintro e w1 ⟨rfl, b1⟩
  have B1 := Lib.hid (bt2 B0.out B0.out.size b1)
  clear b1 B0
  go_wp2_with fail
  refine (show_any u _ (by omega) (HE.out.below B1.out).deb).mono ?_
  rintro e w2 ⟨rfl, b2⟩
  have B2 := Lib.hid (bt2 B1.out B1.out.size b2)
  clear b2 B1
  go_wp2_with fail
  refine (parse_any (str (showV v.data.toList)) _ HSZ.out (HE.out.below B2.out)).mono ?_
  rw [HPS.out]
  rintro e w3 ⟨rfl, b3⟩
  have B3 := Lib.hid (bt2 B2.out B2.out.size b3)
  clear b3 B2 HSZ HPS
  rw [show str (v.data.toList, (0 : Int)).1 = v from HV.out]
  clear HV
  by_cases hvu : v = u
  · subst hvu
    clear HUV
    generalize str (showV v.data.toList) = t
    go_wp2_with fail
    refine (parse_any s _ (by omega) (HE.out.below B3.out)).mono ?_
    rw [HP.out]
    rintro e w4 ⟨rfl, b4⟩
    have B4 := Lib.hid (bt2 B3.out B3.out.size b4)
    clear b4 B3
    rcases HOK.out with ⟨rfl, hsh⟩ | rfl
    · have HSH : Hid (str (showV (str pv).data.toList) = s) := Lib.hid (bytes_ext (by rw [str_list, str_list]; exact hsh))
      clear hsh HOK
      go_wp2_with fail
      refine (show_any (str pv) _ HPL.out (HE.out.below B4.out).deb).mono ?_
      rw [HSH.out]
      rintro e w5 ⟨rfl, b5⟩
      have B5 := Lib.hid (bt2 B4.out B4.out.size b5)
      clear b5 B4
      go_wp2_with fail
      go_ret
      exact ⟨rfl, B5.out⟩
    · clear HOK
      go_wp2_with fail
      go_ret
      exact ⟨rfl, B4.out⟩
  · have ht := bytes_differ (HUV.out hvu)
    have hvv := bytes_differ hvu
    clear hvu HUV
    generalize str (showV v.data.toList) = t at ht ⊢
    generalize str (showV u.data.toList) = t2 at ht ⊢
    go_wp2_with fail
    refine (parse_any s _ (by omega) (HE.out.below B3.out)).mono ?_
    rw [HP.out]
    rintro e w4 ⟨rfl, b4⟩
    have B4 := Lib.hid (bt2 B3.out B3.out.size b4)
    clear b4 B3
    rcases HOK.out with ⟨rfl, hsh⟩ | rfl
    · have HSH : Hid (str (showV (str pv).data.toList) = s) := Lib.hid (bytes_ext (by rw [str_list, str_list]; exact hsh))
      clear hsh HOK
      go_wp2_with fail
      refine (show_any (str pv) _ HPL.out (HE.out.below B4.out).deb).mono ?_
      rw [HSH.out]
      rintro e w5 ⟨rfl, b5⟩
      have B5 := Lib.hid (bt2 B4.out B4.out.size b5)
      clear b5 B4
      go_wp2_with fail
      go_ret
      exact ⟨rfl, B5.out⟩
    · clear HOK
      go_wp2_with fail
      go_ret
      exact ⟨rfl, B4.out⟩
end Go.Proofs.YtomhfmcmjcghoaaGreatDoor.Cl
