/- Hex and Number of texts that no number is written as; Number of those that one is. -/
import Derived.Test.YtnnldhgjmlohmaaDoorNu4
namespace Go.Proofs.YtnnldhgjmlohmaaDoor.Nums
open Go.ChangeShapes Go.WideShapes Go.ChangeAt Go.RowKit

theorem trim_le (s : ByteArray) (p : List UInt8) : (⟨(Lib.trimPrefix s.data.toList p).toArray⟩ : ByteArray).size ≤ s.size := by
  rw [Lib.size_eq, Lib.size_eq s]
  unfold Lib.trimPrefix
  split
  · simp
  · simp

theorem bytes_ne {a b : ByteArray} (h : a ≠ b) : (a.toList == b.toList) = false := by
  rw [beq_eq_false_iff_ne, Lib.toList_data, Lib.toList_data]
  intro e
  apply h
  rw [← Lib.mk_data a, ← Lib.mk_data b, e]

set_option maxHeartbeats 400000 in
theorem hex_no (s : ByteArray) (hz : s.size ≤ 281474976710656) (hno : ∀ n, n < 18446744073709551616 → hexS n ≠ s) (w : World) (hv : Vars w) :
    Calls Tryd.prog 25 #[.string s] w fun e w' => e = .returned hexNo ∧ Below w.heap.size w w' := by
  have HV := Lib.hid hv
  have HNO := Lib.hid hno
  have hle := trim_le s (⟨#[48, 120]⟩ : ByteArray).data.toList
  generalize ht : (⟨(Lib.trimPrefix s.data.toList (⟨#[48, 120]⟩ : ByteArray).data.toList).toArray⟩ : ByteArray) = t at hle
  have HT := Lib.hid ht
  have hzt : t.size ≤ 281474976710656 := by omega
  clear hv hno ht
  rcases hr : read16 t.data.toList with _ | _ | m
  rotate_left 2
  ·
    have hm := read16_lt hr
    have HR := Lib.hid hr
    have hne := bytes_ne (HNO.out m hm)
    have HE := Lib.hid hne
    clear hr hne
    go_enter Tryd.func25, Tryd.ntmps25
    go_wp2_with fail
    refine (Tryd.strings_TrimPrefix _ _ _).mono ?_
    rw [HT.out]
    rintro e w1 ⟨rfl, rfl⟩
    go_wp2_with fail
    refine (uint_ok t hzt m HR.out _).mono ?_
    rintro e w2 ⟨rfl, hb2⟩
    have HB := Lib.hid hb2
    clear hb2
    go_wp2_with fail
    refine (digits_any m hm _ (HV.out.below HB.out)).mono ?_
    generalize hexS m = x at HE
    rintro e w3 ⟨rfl, hb3⟩
    have HB3 := Lib.hid hb3
    have hne := HE.out
    clear hb3
    go_wp2_with fail
    go_ret2
    exact ⟨rfl, HB.out.trans (HB3.out.mono HB.out.size)⟩
  ·
    have HR := Lib.hid hr
    clear hr
    go_enter Tryd.func25, Tryd.ntmps25
    go_wp2_with fail
    refine (Tryd.strings_TrimPrefix _ _ _).mono ?_
    rw [HT.out]
    rintro e w1 ⟨rfl, rfl⟩
    go_wp2_with fail
    refine (uint_bad t hzt HR.out _ HV.out).mono ?_
    rintro e w2 ⟨v, ⟨N, rfl⟩, rfl, hb2⟩
    have HB := Lib.hid hb2
    clear hb2
    go_wp2_with fail
    go_ret2
    exact ⟨rfl, HB.out⟩
  ·
    have HR := Lib.hid hr
    clear hr
    go_enter Tryd.func25, Tryd.ntmps25
    go_wp2_with fail
    refine (Tryd.strings_TrimPrefix _ _ _).mono ?_
    rw [HT.out]
    rintro e w1 ⟨rfl, rfl⟩
    go_wp2_with fail
    refine (uint_range t hzt HR.out _ HV.out).mono ?_
    rintro e w2 ⟨v, ⟨N, rfl⟩, rfl, hb2⟩
    have HB := Lib.hid hb2
    clear hb2
    go_wp2_with fail
    go_ret2
    exact ⟨rfl, HB.out⟩

set_option maxHeartbeats 800000 in
theorem refHex_no (s : ByteArray) (hz : s.size ≤ 281474976710656) (hno : ∀ n, n < 18446744073709551616 → hexS n ≠ s) (w : World) (hv : Vars w) :
    Calls Tryd.prog 26 #[.string s] w fun e w' => e = .returned hexNo ∧ Below w.heap.size w w' := by
  have HV := Lib.hid hv
  have HNO := Lib.hid hno
  clear hv hno
  by_cases h3 : s.size < 3
  · go_enter Tryd.func26, Tryd.ntmps26
    go_wp2_with fail
    go_ret2
    exact ⟨rfl, Below.refl _ _⟩
  have hzt : (s.extract 2 s.size).size ≤ 281474976710656 := by rw [ByteArray.size_extract]; omega
  have key : ∀ m : Nat, m < 18446744073709551616 → ((hexS m).toList == s.toList) = false := fun m hm => bytes_ne (HNO.out m hm)
  have HK := Lib.hid key
  clear key
  have HZ := Lib.hid hzt
  clear hzt
  rcases hr : read16 (s.extract 2 s.size).data.toList with _ | _ | m
  rotate_left 2
  ·
    have hm := read16_lt hr
    have HR := Lib.hid hr
    clear hr
    go_enter Tryd.func26, Tryd.ntmps26
    go_wp2_with fail
    refine (uint_ok _ HZ.out m HR.out _).mono ?_
    rintro e w2 ⟨rfl, hb2⟩
    have HB := Lib.hid hb2
    clear hb2
    go_wp2_with fail
    refine (refDigits_any m hm _ (HV.out.below HB.out)).mono ?_
    have hne := HK.out m hm
    generalize hexS m = x at hne
    rintro e w3 ⟨rfl, hb3⟩
    have HB3 := Lib.hid hb3
    clear hb3
    go_wp2_with fail
    go_ret2
    exact ⟨rfl, HB.out.trans (HB3.out.mono HB.out.size)⟩
  ·
    have HR := Lib.hid hr
    clear hr
    go_enter Tryd.func26, Tryd.ntmps26
    go_wp2_with fail
    refine (uint_bad _ HZ.out HR.out _ HV.out).mono ?_
    rintro e w2 ⟨v, ⟨N, rfl⟩, rfl, hb2⟩
    have HB := Lib.hid hb2
    clear hb2
    go_wp2_with fail
    refine (refDigits_any 0 (by omega) _ (HV.out.below HB.out)).mono ?_
    have hne := HK.out 0 (by omega)
    generalize hexS 0 = x at hne
    rintro e w3 ⟨rfl, hb3⟩
    have HB3 := Lib.hid hb3
    clear hb3
    go_wp2_with fail
    go_ret2
    exact ⟨rfl, HB.out.trans (HB3.out.mono HB.out.size)⟩
  ·
    have HR := Lib.hid hr
    clear hr
    go_enter Tryd.func26, Tryd.ntmps26
    go_wp2_with fail
    refine (uint_range _ HZ.out HR.out _ HV.out).mono ?_
    rintro e w2 ⟨v, ⟨N, rfl⟩, rfl, hb2⟩
    have HB := Lib.hid hb2
    clear hb2
    go_wp2_with fail
    refine (refDigits_any 18446744073709551615 (by omega) _ (HV.out.below HB.out)).mono ?_
    have hne := HK.out 18446744073709551615 (by omega)
    generalize hexS 18446744073709551615 = x at hne
    rintro e w3 ⟨rfl, hb3⟩
    have HB3 := Lib.hid hb3
    clear hb3
    go_wp2_with fail
    go_ret2
    exact ⟨rfl, HB.out.trans (HB3.out.mono HB.out.size)⟩
end Go.Proofs.YtnnldhgjmlohmaaDoor.Nums
