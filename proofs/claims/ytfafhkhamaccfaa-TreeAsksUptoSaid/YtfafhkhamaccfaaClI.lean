/- The contracts of One and Text, the document's and the program's: one and the same. -/
import Derived.Test.YtfafhkhamaccfaaClH
namespace Go.Proofs.Ytfafhkhamaccfaa.Cl
open Go.ChangeShapes Go.WideShapes Go.ChangeAt Go.RowKit Own

def oneV (l : List UInt8) : Nat × Int := if l.length = 4 then (num l, 0) else (0, 4)
def tOne (l : List UInt8) : List UInt8 × Int := if zat l + 1 = l.length then (l.take (zat l), 0) else ([], 4)

theorem refOne_any (v : ByteArray) (w : World) (hv : v.size ≤ 1048576) :
    Calls Try.prog 54 #[.string v] w fun e w' => e = .returned (.tuple #[.int .u32 ((oneV v.data.toList).1 : Int), .int .i64 (oneV v.data.toList).2]) ∧ Below w.heap.size w w' := by
  have hz : v.data.toList.length = v.size := rfl
  have HZ := Lib.hid hz
  clear hz
  by_cases h4 : v.size = 4
  · have HV : Hid (oneV v.data.toList = (num v.data.toList, 0)) := Lib.hid (if_pos (by rw [HZ.out, h4]))
    have hc : c32 v.data.toList = [num v.data.toList] := by
      unfold c32
      rw [HZ.out, h4]
      simp only [Nat.reduceMod, if_true]
      simp [chunk, List.range_succ]
      rw [List.take_of_length_le (by have := HZ.out; simp at this; simp; omega)]
    have HE : Hid (e32 v.data.toList = 0) := Lib.hid (by unfold e32; rw [HZ.out, h4]; rfl)
    have HC := Lib.hid hc
    clear hc h4
    go_enter Try.func54, Try.ntmps54
    go_wp2_with fail
    refine (ref32_any v _ (by omega)).mono ?_
    rw [HC.out, HE.out]
    rintro e w1 ⟨A, n, c, hn, rfl, ho, hb⟩
    obtain rfl : n = 1 := hn
    obtain ⟨A', c', hv', hs⟩ := own_src ho
    injection hv' with hA _ hcc
    subst hA hcc
    obtain ⟨b, off, rfl, _, hcell⟩ := src_get hs (by omega)
    have e0 : w1.cell? ⟨b, off, none⟩ = some (.int .u32 (num v.data.toList : Int)) := by
      have := hcell 0 _ rfl
      rw [Nat.add_zero] at this
      exact this
    have HB := Lib.hid hb
    clear hb hcell hs ho
    go_wp2
    go_ret2
    rw [HV.out]
    exact ⟨rfl, HB.out⟩
  · have HV : Hid (oneV v.data.toList = (0, 4)) := Lib.hid (if_neg (by rw [HZ.out]; exact h4))
    go_enter Try.func54, Try.ntmps54
    go_wp2_with fail
    refine (ref32_any v _ (by omega)).mono ?_
    rintro e w1 ⟨A, n, c, hn, rfl, ho, hb⟩
    have HB := Lib.hid hb
    clear hb ho
    by_cases hm : v.size % 4 = 0
    · have hn1 : n ≠ 1 := by
        rw [hn, nats_len]
        unfold c32
        rw [HZ.out, if_pos hm, chunk_len]
        omega
      have hE : e32 v.data.toList = 0 := by unfold e32; rw [HZ.out, if_pos hm]
      rw [hE]
      have hn2 : ((n : Int) != 1) = true := by rw [bne_iff_ne]; omega
      clear hn hm hE
      go_wp2
      go_ret2
      rw [HV.out]
      exact ⟨rfl, HB.out⟩
    · have hE : e32 v.data.toList = 4 := by unfold e32; rw [HZ.out, if_neg hm]
      rw [hE]
      clear hn hm hE
      go_wp2
      go_ret2
      rw [HV.out]
      exact ⟨rfl, HB.out⟩

theorem onlyCell_any (v : ByteArray) (w : World) :
    Calls Try.prog 65 #[.string v, .func (.func 66) #[] #[]] w fun e w' => e = .returned (.tuple #[.int .u32 ((oneV v.data.toList).1 : Int), .int .i64 (oneV v.data.toList).2]) ∧ Below w.heap.size w w' := by
  have hz : v.data.toList.length = v.size := rfl
  have HZ := Lib.hid hz
  clear hz
  go_enter Try.func65, Try.ntmps65
  go_wp2_with fail
  refine (new_ex v _).mono ?_
  rintro e w1 ⟨r, g, rfl, hr, hg, hr1, hb1⟩
  have HR1 := Lib.hid hr1
  have HB1 := Lib.hid hb1
  have hs1 := hb1.size
  clear hr1 hb1
  go_wp2_with fail
  refine (cell_any r g _ _ HR1.out).mono ?_
  by_cases h4 : v.size < 4
  · have HV : Hid (oneV v.data.toList = (0, 4)) := Lib.hid (if_neg (by rw [HZ.out]; omega))
    have hW : wideV v.data.toList 1 = (0, 4, v.data.toList) := wideV_form (n := 1) (by omega) (by rw [HZ.out]; omega)
    rw [hW]
    clear hW
    rintro e w2 ⟨rfl, _, hgr⟩
    have HG := Lib.hid hgr
    clear hgr
    go_wp2_with fail
    go_ret2
    rw [HV.out]
    exact ⟨rfl, HB1.out.trans (below_of_grown HG.out hs1 (fun q hq => by injection hq with hq; omega))⟩
  · have hW : wideV v.data.toList 1 = (num (v.data.toList.take 4), 0, v.data.toList.drop 4) := wideV_ok (n := 1) (by omega) (by rw [HZ.out]; omega)
    rw [hW]
    clear hW
    rintro e w2 ⟨rfl, hrd, hgr⟩
    have HG := Lib.hid hgr
    have HRD := Lib.hid hrd
    clear hgr hrd
    go_wp2_with fail
    refine (left_any r g _ _ HRD.out).mono ?_
    rintro e w3 ⟨rfl, rfl⟩
    rw [List.length_drop, HZ.out]
    by_cases h5 : v.size = 4
    · have HV : Hid (oneV v.data.toList = (num (v.data.toList.take 4), 0)) := Lib.hid (by
        unfold oneV; rw [if_pos (by rw [HZ.out, h5]), List.take_of_length_le (by rw [HZ.out]; omega)])
      have hle : v.size - 4 ≤ 0 := by omega
      clear h5
      go_wp2_with fail
      go_ret2
      rw [HV.out]
      exact ⟨rfl, HB1.out.trans (below_of_grown HG.out hs1 (fun q hq => by injection hq with hq; omega))⟩
    · have HV : Hid (oneV v.data.toList = (0, 4)) := Lib.hid (if_neg (by rw [HZ.out]; omega))
      have hgt : 0 < v.size - 4 := by omega
      clear h5
      go_wp2_with fail
      go_ret2
      rw [HV.out]
      exact ⟨rfl, HB1.out.trans (below_of_grown HG.out hs1 (fun q hq => by injection hq with hq; omega))⟩

theorem progOne_any (v : ByteArray) (w : World) :
    Calls Try.prog 53 #[.string v] w fun e w' => e = .returned (.tuple #[.int .u32 ((oneV v.data.toList).1 : Int), .int .i64 (oneV v.data.toList).2]) ∧ Below w.heap.size w w' := by
  go_enter Try.func53, Try.ntmps53
  go_wp2_with fail
  refine (onlyCell_any v _).mono ?_
  rintro e w1 ⟨rfl, hb⟩
  have HB := Lib.hid hb
  clear hb
  go_wp2
  go_ret2
  exact ⟨rfl, HB.out⟩

theorem split_one (l : List UInt8) (h : zat l + 1 = l.length) : split [] l = ([l.take (zat l)], []) := by
  have := split_next [] l [] rfl (by omega)
  rw [h, List.take_of_length_le (Nat.le_refl _)] at this
  simpa using this
theorem split_cons (l : List UInt8) (h : zat l < l.length) : split [] l = (l.take (zat l) :: (split [] (l.drop (zat l + 1))).1, (split [] (l.drop (zat l + 1))).2) := by
  have h1 := split_append (l.take (zat l + 1)) (l.drop (zat l + 1)) []
  rw [List.take_append_drop] at h1
  have h2 := split_next [] l [] rfl h
  simp only [List.nil_append] at h2
  rw [h1, h2]
  simp
theorem tx_one (l : List UInt8) (h : zat l + 1 ≠ l.length) : ¬ (etx l = 0 ∧ (tx l).length = 1) := by
  rintro ⟨he, hl⟩
  have hz := zat_le l
  have hr : (split [] l).2 = [] := by
    unfold etx at he
    by_cases hc : (split [] l).2 = []
    · exact hc
    · rw [if_neg hc] at he; cases he
  unfold tx at hl
  rw [if_pos hr, List.length_map] at hl
  by_cases h1 : zat l < l.length
  · rw [split_cons l h1] at hl hr
    simp at hl
    simp only at hr
    have h3 : 0 < (l.drop (zat l + 1)).length := by simp; omega
    generalize l.drop (zat l + 1) = q at hl hr h3
    by_cases h4 : zat q < q.length
    · rw [split_cons q h4] at hl; simp at hl
    · have := split_end [] q [] rfl (by omega)
      simp only [List.nil_append] at this
      rw [this] at hr
      simp only at hr
      rw [hr] at h3
      simp at h3
  · have := split_end [] l [] rfl (by omega)
    simp only [List.nil_append] at this
    rw [this] at hl
    simp at hl

theorem refText_any (v : ByteArray) (w : World) (hv : v.size ≤ 1048576) :
    Calls Try.prog 56 #[.string v] w fun e w' => e = .returned (.tuple #[.string (str (tOne v.data.toList).1), .int .i64 (tOne v.data.toList).2]) ∧ Below w.heap.size w w' := by
  have hz : v.data.toList.length = v.size := rfl
  have HZ := Lib.hid hz
  clear hz
  by_cases h4 : zat v.data.toList + 1 = v.data.toList.length
  · have HV : Hid (tOne v.data.toList = (v.data.toList.take (zat v.data.toList), 0)) := Lib.hid (if_pos h4)
    have HC : Hid (tx v.data.toList = [str (v.data.toList.take (zat v.data.toList))]) := Lib.hid (by unfold tx; rw [split_one _ h4]; simp)
    have HE : Hid (etx v.data.toList = 0) := Lib.hid (by unfold etx; rw [split_one _ h4]; simp)
    clear h4
    go_enter Try.func56, Try.ntmps56
    go_wp2_with fail
    refine (refTexts_any v _ (by omega)).mono ?_
    rw [HC.out, HE.out]
    rintro e w1 ⟨A, n, c, hn, rfl, ho, hb⟩
    obtain rfl : n = 1 := hn
    obtain ⟨A', c', hv', hs⟩ := own_src ho
    injection hv' with hA _ hcc
    subst hA hcc
    obtain ⟨b, off, rfl, _, hcell⟩ := src_get hs (by omega)
    have e0 : w1.cell? ⟨b, off, none⟩ = some (.string (str (v.data.toList.take (zat v.data.toList)))) := by
      have := hcell 0 _ rfl
      rw [Nat.add_zero] at this
      exact this
    have HB := Lib.hid hb
    clear hb hcell hs ho
    go_wp2
    go_ret2
    rw [HV.out]
    exact ⟨rfl, HB.out⟩
  · have HV : Hid (tOne v.data.toList = ([], 4)) := Lib.hid (if_neg h4)
    have HT := Lib.hid (tx_one v.data.toList h4)
    clear h4
    go_enter Try.func56, Try.ntmps56
    go_wp2_with fail
    refine (refTexts_any v _ (by omega)).mono ?_
    rintro e w1 ⟨A, n, c, hn, rfl, ho, hb⟩
    have HB := Lib.hid hb
    clear hb ho
    by_cases hm : etx v.data.toList = 0
    · have hn1 : n ≠ 1 := by
        intro h1
        refine HT.out ⟨hm, ?_⟩
        rw [hn, strs_len] at h1
        exact h1
      rw [hm]
      have hn2 : ((n : Int) != 1) = true := by rw [bne_iff_ne]; omega
      clear hn hm
      go_wp2
      go_ret2
      rw [HV.out]
      exact ⟨rfl, HB.out⟩
    · have hE : etx v.data.toList = 4 := by
        unfold etx at hm ⊢
        by_cases hc : (split [] v.data.toList).2 = []
        · rw [if_pos hc] at hm; exact absurd rfl hm
        · rw [if_neg hc]
      rw [hE]
      clear hn hm hE
      go_wp2
      go_ret2
      rw [HV.out]
      exact ⟨rfl, HB.out⟩

theorem onlyText_any (v : ByteArray) (w : World) (hv : v.size ≤ 1048576) :
    Calls Try.prog 68 #[.string v, .func (.func 58) #[] #[]] w fun e w' => e = .returned (.tuple #[.string (str (tOne v.data.toList).1), .int .i64 (tOne v.data.toList).2]) ∧ Below w.heap.size w w' := by
  have hz : v.data.toList.length = v.size := rfl
  have HZ := Lib.hid hz
  clear hz
  have hzl := zat_le v.data.toList
  rw [HZ.out] at hzl
  go_enter Try.func68, Try.ntmps68
  go_wp2_with fail
  refine (new_ex v _).mono ?_
  rintro e w1 ⟨r, g, rfl, hr, hg, hr1, hb1⟩
  have HR1 := Lib.hid hr1
  have HB1 := Lib.hid hb1
  have hs1 := hb1.size
  clear hr1 hb1
  go_wp2_with fail
  refine (text_any r g _ _ HR1.out (by rw [HZ.out]; unfold maxLen; omega)).mono ?_
  by_cases h4 : zat v.data.toList < v.size
  · rw [textV_yes (by rw [HZ.out]; exact h4)]
    rintro e w2 ⟨rfl, hrd, hgr⟩
    have HG := Lib.hid hgr
    have HRD := Lib.hid hrd
    clear hgr hrd
    go_wp2_with fail
    refine (left_any r g _ _ HRD.out).mono ?_
    rintro e w3 ⟨rfl, rfl⟩
    rw [List.length_drop, HZ.out]
    by_cases h5 : zat v.data.toList + 1 = v.size
    · have HV : Hid (tOne v.data.toList = (v.data.toList.take (zat v.data.toList), 0)) := Lib.hid (if_pos (by rw [HZ.out, h5]))
      have hle : v.size - (zat v.data.toList + 1) ≤ 0 := by omega
      clear h5
      go_wp2_with fail
      go_ret2
      rw [HV.out]
      exact ⟨rfl, HB1.out.trans (below_of_grown HG.out hs1 (fun q hq => by injection hq with hq; omega))⟩
    · have HV : Hid (tOne v.data.toList = ([], 4)) := Lib.hid (if_neg (by rw [HZ.out]; exact h5))
      have hgt : 0 < v.size - (zat v.data.toList + 1) := by omega
      clear h5
      go_wp2_with fail
      go_ret2
      rw [HV.out]
      exact ⟨rfl, HB1.out.trans (below_of_grown HG.out hs1 (fun q hq => by injection hq with hq; omega))⟩
  · have HV : Hid (tOne v.data.toList = ([], 4)) := Lib.hid (if_neg (by rw [HZ.out]; omega))
    rw [textV_no (by rw [HZ.out]; omega)]
    rintro e w2 ⟨rfl, _, hgr⟩
    have HG := Lib.hid hgr
    clear hgr
    go_wp2_with fail
    go_ret2
    rw [HV.out]
    exact ⟨rfl, HB1.out.trans (below_of_grown HG.out hs1 (fun q hq => by injection hq with hq; omega))⟩

theorem progText_any (v : ByteArray) (w : World) (hv : v.size ≤ 1048576) :
    Calls Try.prog 55 #[.string v] w fun e w' => e = .returned (.tuple #[.string (str (tOne v.data.toList).1), .int .i64 (tOne v.data.toList).2]) ∧ Below w.heap.size w w' := by
  go_enter Try.func55, Try.ntmps55
  go_wp2_with fail
  refine (onlyText_any v _ hv).mono ?_
  rintro e w1 ⟨rfl, hb⟩
  have HB := Lib.hid hb
  clear hb
  go_wp2
  go_ret2
  exact ⟨rfl, HB.out⟩
end Go.Proofs.Ytfafhkhamaccfaa.Cl
