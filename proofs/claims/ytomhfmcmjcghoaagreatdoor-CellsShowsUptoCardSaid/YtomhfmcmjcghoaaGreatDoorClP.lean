/- The contracts of OfTexts, the program's and the document's: one and the same. -/
import Derived.Test.YtomhfmcmjcghoaaGreatDoorClO
namespace Go.Proofs.YtomhfmcmjcghoaaGreatDoor.Cl
open Go.ChangeShapes Go.WideShapes Go.ChangeAt Go.RowKit Own

/-- Has this text no byte 00? -/
def zf (s : ByteArray) : Bool := decide (s.size ≤ zat s.data.toList)
def vT (xs : List ByteArray) : List UInt8 := xs.flatMap fun s => s.data.toList ++ [0]
def ofT (xs : List ByteArray) : List UInt8 × Int := if xs.all zf then (vT xs, 0) else ([], 4)
theorem vT_snoc (xs : List ByteArray) (s : ByteArray) : vT (xs ++ [s]) = vT xs ++ s.data.toList ++ [0] := by simp [vT]
theorem take_getS (xs : List ByteArray) (i : Nat) (h : i < xs.length) : xs.take (i + 1) = xs.take i ++ [xs.getD i ByteArray.empty] := by
  rw [List.take_succ_eq_append_getElem h, List.getD_eq_getElem?_getD, List.getElem?_eq_getElem h]
  rfl
theorem vT_take (xs : List ByteArray) (i : Nat) : (vT (xs.take i)).length ≤ (vT xs).length := by
  have h2 : vT (xs.take i ++ xs.drop i) = vT (xs.take i) ++ vT (xs.drop i) := by simp only [vT, List.flatMap_append]
  rw [List.take_append_drop] at h2
  rw [h2, List.length_append]
  omega
theorem zf_false {xs : List ByteArray} {k : Nat} (hk : k < xs.length) (h : zf (xs.getD k ByteArray.empty) = false) : xs.all zf = false := by
  rw [List.all_eq_false]
  refine ⟨xs.getD k ByteArray.empty, ?_, by rw [h]; exact Bool.false_ne_true⟩
  rw [List.getD_eq_getElem?_getD, List.getElem?_eq_getElem hk]
  exact List.getElem_mem hk
theorem zf_step {xs : List ByteArray} {k : Nat} (hk : k < xs.length) (h : (xs.take k).all zf = true) (hg : zf (xs.getD k ByteArray.empty) = true) : (xs.take (k + 1)).all zf = true := by
  rw [take_getS xs k hk, List.all_append, h]
  simpa using hg
theorem part_size {xs : List ByteArray} {k : Nat} (hk : k < xs.length) : (vT (xs.take k)).length + (xs.getD k ByteArray.empty).size + 1 ≤ (vT xs).length := by
  have h := vT_take xs (k + 1)
  rw [take_getS xs k hk, vT_snoc] at h
  simp only [List.length_append, List.length_cons, List.length_nil] at h
  have : (xs.getD k ByteArray.empty).data.toList.length = (xs.getD k ByteArray.empty).size := rfl
  omega

set_option maxHeartbeats 1000000 in
theorem ofTexts_any (A : Option Addr) (c n : Nat) (xs : List ByteArray) (w : World) (hn : n = xs.length) (hx : (vT xs).length ≤ 4194304) (hnx : n ≤ 4194304) (hA : Src w A n c (strs xs)) :
    Calls Tryz.prog 17 #[.slice A n c] w fun e w' => e = .returned (.tuple #[.string (str (ofT xs).1), .int .i64 (ofT xs).2]) ∧ Below w.heap.size w w' := by
  obtain ⟨i0, hi, hz0, hz1, hz2⟩ := info_parts info_u8
  have HN := Lib.hid hn
  have GA := Lib.hid hA
  clear hn hA
  go_enter Tryz.func17, Tryz.ntmps17
  go_wp2_with fail
  go_loopw [4, 9] (fun s i wr => ∃ j m : Nat, j ≤ n ∧ i = .int .i64 j ∧ m = (vT (xs.take j)).length ∧ wr.ownsRow w.heap.size 5 1 s m (Lib.byteCells (vT (xs.take j))) ∧ (xs.take j).all zf = true ∧ Below w.heap.size w wr) (fun _ i _ => n - (intOf i).toNat)
  case atStart => exact ⟨0, 0, by omega, rfl, rfl, own_nil w _ _, rfl, Below.refl _ _⟩
  case round =>
    obtain ⟨j, m, hj, rfl, hm, hown, hall, hbw⟩ := hrel
    have HM := Lib.hid hm
    have HO := Lib.hid hown
    have HALL := Lib.hid hall
    have HB := Lib.hid hbw
    have hsz := hbw.size
    clear hm hown hall hbw
    by_cases hlt : j < n
    · obtain ⟨b, o, rfl, hbl, hc1⟩ := src_get (GA.out.below HB.out) (by omega)
      have hjx : j < xs.length := by rw [← HN.out]; exact hlt
      have e1 := hc1 j _ (strs_at xs j hjx)
      have hps : m + (xs.getD j ByteArray.empty).size + 1 ≤ 4194304 := by
        have := part_size hjx
        have := HM.out
        omega
      have HF := Lib.hid (fun h => zf_false hjx h)
      have HS := Lib.hid (fun h => zf_step hjx HALL.out h)
      have HT := Lib.hid (take_getS xs j hjx)
      generalize xs.getD j ByteArray.empty = s at e1 hps HF HS HT
      clear hc1 hjx
      have HI := Lib.hid (indexByte_zat s.data.toList)
      go_wp2_with fail
      refine (Tryz.strings_IndexByte s 0 _).mono ?_
      rintro e w2 ⟨rfl, rfl⟩
      rw [toU8]
      by_cases hz : zat s.data.toList < s.size
      · have hI2 : Lib.indexByte s.data.toList 0 = (zat s.data.toList : Int) := by rw [HI.out, if_pos (show zat s.data.toList < s.data.toList.length from hz)]
        have HV : Hid (ofT xs = ([], 4)) := Lib.hid (by
          unfold ofT
          rw [HF.out (by unfold zf; exact decide_eq_false (by omega))]
          rfl)
        rw [hI2]
        clear hI2
        go_wp2_with fail
        go_ret2
        rw [HV.out]
        exact ⟨rfl, HB.out⟩
      · have hI2 : Lib.indexByte s.data.toList 0 = -1 := by rw [HI.out, if_neg (show ¬ zat s.data.toList < s.data.toList.length from hz)]
        have HZF := Lib.hid (HS.out (by unfold zf; exact decide_eq_true (by omega)))
        rw [hI2]
        clear hI2 HF HS HI
        have tok1 : True := trivial
        go_wp2_with (first
          | (at_builtin; have tk := tok1; go_must (refine Lib.wpList_append_own_string _ rfl (.tmp 16) (.tmp 17) 54 9 rfl w.heap.size 5 i0 Tryz.underlying54 Tryz.underlying9 hi hz0 hz1 hz2 _ m _ rfl HO.out s rfl (by unfold maxLen; omega) (by omega) (by omega) ?_); intro v2 w2 ho2 hg2 _; clear tok1 tk; have HB2 := Lib.hid (grown_row HB.out HO.out hsz hg2); have hsz2 : w.heap.size ≤ w2.heap.size := Nat.le_trans hsz hg2.size; have HO2 := Lib.hid ho2; clear ho2 hg2; have tok2 : True := trivial)
          | (at_builtin; have tk := tok2; go_must (refine wpList_append_src rfl (.tmp 19) (.tmp 20) 54 rfl w.heap.size 5 (.int .u8 0) 1 Tryz.underlying54 info_u8 rfl _ (m + s.size) _ rfl (HO2.out.alloc _) _ 1 1 [.int .u8 0] rfl (src_new _ _ _) (by intro u hu; simp at hu; subst hu; rfl) (by omega) (by omega) (by simp; omega) ?_); intro v3 w3 ho3 hg3; clear tok2 tk; have HB3 := Lib.hid (below_grown HB2.out hsz2 HO2.out (Nat.le_refl _) hg3); have HO3 := Lib.hid ho3; clear ho3 hg3))
        go_roundw
        case rel =>
          refine ⟨j + 1, m + s.size + 1, by omega, by go_num, ?_, ?_, HZF.out, HB3.out⟩
          · rw [HT.out, vT_snoc, HM.out]
            simp only [List.length_append, List.length_cons, List.length_nil]
            rfl
          · have h3 := HO3.out
            rw [Lib.strCells_eq] at h3
            rw [HT.out, vT_snoc, Lib.byteCells_append, Lib.byteCells_append]
            exact h3
        case measure => simp [intOf]; omega
    · obtain rfl : n = j := by omega
      have HT : Hid (xs.take n = xs) := Lib.hid (List.take_of_length_le (by rw [HN.out]; omega))
      have h1 := HO.out
      rw [HT.out] at h1
      have h2 := HALL.out
      rw [HT.out] at h2
      have HV : Hid (ofT xs = (vT xs, 0)) := Lib.hid (if_pos h2)
      have hcv := conv_own h1
      clear h1 h2
      go_wp2_with fail
      go_ret2
      rw [HV.out]
      exact ⟨rfl, HB.out⟩

end Go.Proofs.YtomhfmcmjcghoaaGreatDoor.Cl
