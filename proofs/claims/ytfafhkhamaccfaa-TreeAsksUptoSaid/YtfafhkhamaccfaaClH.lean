/- The contracts of the program's Texts; of One and Text, the document's and the program's. -/
import Derived.Test.YtfafhkhamaccfaaClG
namespace Go.Proofs.Ytfafhkhamaccfaa.Cl
open Go.ChangeShapes Go.WideShapes Go.ChangeAt Go.RowKit Own

theorem textV_yes {l : List UInt8} (h : zat l < l.length) : textV l = (l.take (zat l), 0, l.drop (zat l + 1)) := if_pos h
theorem textV_no {l : List UInt8} (h : l.length ≤ zat l) : textV l = ([], 4, l) := if_neg (by omega)

set_option maxHeartbeats 1000000 in
theorem allTexts_any (v : ByteArray) (w : World) (hv : v.size ≤ 67108864) :
    Calls Try.prog 57 #[.string v, .func (.func 58) #[] #[]] w (Made 9 (strs (tx v.data.toList)) (etx v.data.toList) w) := by
  have hz : v.data.toList.length = v.size := rfl
  have HZ := Lib.hid hz
  clear hz
  go_enter Try.func57, Try.ntmps57
  go_wp2_with fail
  refine (new_ex v _).mono ?_
  rintro e w1 ⟨r, g, rfl, hr, hg, hr1, hb1⟩
  have HR1 := Lib.hid hr1
  have HB1 := Lib.hid hb1
  clear hr1 hb1
  go_wp2_with fail
  go_loopg [6] (v.size) (fun m s wr => ∃ (p : Nat) (ts : List (List UInt8)), p ≤ v.size ∧ m = v.size - p ∧ split [] (v.data.toList.take p) = (ts, []) ∧ Rd wr r g (v.data.toList.drop p) ∧ wr.ownsRow w1.heap.size 9 1 s ts.length (strs (ts.map str)) ∧ Below w.heap.size w wr ∧ w1.heap.size ≤ wr.heap.size)
  case atStart => exact ⟨0, [], by omega, by omega, rfl, HR1.out, own_nil _ _ _, HB1.out, Nat.le_refl _⟩
  case round =>
    obtain ⟨p, ts, hp, rfl, hsp, hrd, hown, hbw, hs1⟩ := hrel
    have HSP := Lib.hid hsp
    have HRD := Lib.hid hrd
    have HB := Lib.hid hbw
    have HO := Lib.hid hown
    have hsz := hbw.size
    have hsz1 := HB1.out.size
    have hrl := HR1.out.lt
    have hgl := HR1.out.glt
    have hll : Hid ((v.data.toList.drop p).length = v.size - p) := Lib.hid (by rw [List.length_drop, HZ.out])
    have htn : ts.length ≤ 67108864 := by
      have h1 := split_len (v.data.toList.take p) []
      rw [hsp] at h1
      simp at h1
      omega
    have HAP : Hid (v.data.toList.take p ++ v.data.toList.drop p = v.data.toList) := Lib.hid (List.take_append_drop p _)
    clear hsp hrd hbw hown
    go_wp2_with fail
    refine (left_any r g _ _ HRD.out).mono ?_
    rintro e w2 ⟨rfl, rfl⟩
    rw [hll.out]
    by_cases hend : p = v.size
    · have hT : split [] v.data.toList = (ts, []) := by
        have := HSP.out
        rw [List.take_of_length_le (by rw [HZ.out]; omega)] at this
        exact this
      have HC : Hid (tx v.data.toList = ts.map str) := Lib.hid (by unfold tx; rw [hT]; simp)
      have HE : Hid (etx v.data.toList = 0) := Lib.hid (by unfold etx; rw [hT]; simp)
      have hle : v.size - p ≤ 0 := by omega
      clear hend hT
      go_wp2_with fail
      go_ret2
      rw [HC.out, HE.out]
      exact made_own (by rw [strs_len, List.length_map]) (own_base HO.out hsz1) HB.out
    · by_cases hz : zat (v.data.toList.drop p) < v.size - p
      · have HW : Hid (textV (v.data.toList.drop p) = ((v.data.toList.drop p).take (zat (v.data.toList.drop p)), 0, v.data.toList.drop (p + (zat (v.data.toList.drop p) + 1)))) := Lib.hid (by
          rw [textV_yes (by rw [hll.out]; exact hz), List.drop_drop])
        have HSN : Hid (split [] (v.data.toList.take (p + (zat (v.data.toList.drop p) + 1))) = (ts ++ [(v.data.toList.drop p).take (zat (v.data.toList.drop p))], [])) := Lib.hid (by
          rw [List.take_add]
          exact split_next _ _ ts HSP.out (by rw [hll.out]; exact hz))
        go_wp2_with fail
        refine (text_any r g _ _ HRD.out (by rw [hll.out]; unfold maxLen; omega)).mono ?_
        rw [HW.out]
        rintro e w2 ⟨rfl, h2, hgr⟩
        have H2 := Lib.hid h2
        have hs2 := hgr.size
        have hbw2 := Lib.hid (HB.out.trans (below_of_grown hgr hsz (fun q hq => by injection hq with hq; omega)))
        have HO2 := Lib.hid (own_kept HO.out hgr hrl)
        clear h2 hgr HW
        generalize zat (v.data.toList.drop p) = z at hz H2 HSN ⊢
        generalize (v.data.toList.drop p).take z = t at HSN ⊢
        go_wp2_with (at_builtin; go_must (refine wpList_append_src rfl (.tmp 24) (.tmp 26) 49 rfl w1.heap.size 9 (.string ByteArray.empty) 16 Try.underlying49 info_str rfl _ ts.length (strs (ts.map str)) rfl (HO2.out.alloc _) _ 1 1 [.string ⟨t.toArray⟩] rfl (src_new _ _ _) (by intro u hu; simp at hu; subst hu; rfl) (by omega) (by omega) (by simp; omega) ?_); intro v1 w3 hown1 hg1)
        have HO3 := Lib.hid hown1
        have HB3 := Lib.hid (below_grown hbw2.out (by omega) HO2.out hsz1 hg1)
        have HR3 := Lib.hid (rd_grown H2.out HO2.out hrl hgl hg1)
        have hs3 := hg1.size
        clear hown1 hg1
        go_wp2_with fail
        go_roundg (v.size - (p + (z + 1)))
        case measure => omega
        case rel => exact ⟨p + (z + 1), ts ++ [t], by omega, rfl, HSN.out, HR3.out, by rw [strs_snoc, List.length_append]; exact HO3.out, HB3.out, by simp at hs3; omega⟩
      · have hT : split [] v.data.toList = (ts, v.data.toList.drop p) := by
          have := split_end _ (v.data.toList.drop p) ts HSP.out (by rw [hll.out]; omega)
          rw [HAP.out] at this
          exact this
        have hdn : v.data.toList.drop p ≠ [] := by
          intro h
          have := hll.out
          rw [h] at this
          simp at this
          omega
        have HC : Hid (tx v.data.toList = []) := Lib.hid (by unfold tx; rw [hT]; simp only; rw [if_neg hdn])
        have HE : Hid (etx v.data.toList = 4) := Lib.hid (by unfold etx; rw [hT]; simp only; rw [if_neg hdn])
        have HW : Hid (textV (v.data.toList.drop p) = ([], 4, v.data.toList.drop p)) := Lib.hid (textV_no (by rw [hll.out]; omega))
        clear hT hdn
        go_wp2_with fail
        refine (text_any r g _ _ HRD.out (by rw [hll.out]; unfold maxLen; omega)).mono ?_
        rw [HW.out]
        rintro e w2 ⟨rfl, _, hgr⟩
        have HGR := Lib.hid hgr
        clear hgr
        go_wp2_with fail
        go_ret2
        rw [HC.out, HE.out]
        exact made_none _ _ _ _ (HB.out.trans (below_of_grown HGR.out hsz (fun q hq => by injection hq with hq; omega)))

theorem progTexts_any (v : ByteArray) (w : World) (hv : v.size ≤ 67108864) :
    Calls Try.prog 47 #[.string v] w (Made 9 (strs (tx v.data.toList)) (etx v.data.toList) w) := by
  go_enter Try.func47, Try.ntmps47
  go_wp2_with fail
  refine (allTexts_any v _ hv).mono ?_
  rintro e w1 ⟨A, n, c, hn, rfl, ho, hb⟩
  have HN := Lib.hid hn
  have HO := Lib.hid ho
  have HB := Lib.hid hb
  clear hn ho hb
  go_wp2
  go_ret2
  exact ⟨A, n, c, HN.out, rfl, HO.out, HB.out⟩
end Go.Proofs.Ytfafhkhamaccfaa.Cl
