/- The law SupplyFits, where the windows have nothing in common. -/
import Derived.Test.YtjffemeeomogaaaDoorSuX
namespace Go.Proofs.YtjffemeeomogaaaDoor.Su
open Go.ChangeShapes Go.WideShapes Go.ChangeAt Go.RowKit Own Ro

set_option maxRecDepth 100000 in
set_option maxHeartbeats 8000000 in
theorem lawFits_none (A : Option Addr) (c n : Nat) (l : List Pr) (cut v : Int) (w : World) (h : Tb w) (hn : n = l.length) (hb : n ≤ 2000000) (hs : CellsIn w 2 A n (prsV l)) (hc : hiF (l.map ft) < loF (l.map ft)) :
    Calls Tryd.prog 5 #[.slice A n c, .int .i64 cut, .int .i64 v] w (fun e w' => e = .returned (.bool true) ∧ Below w.heap.size w w') := by
  have HT := Lib.hid h
  have HFI := Lib.hid (fit_any A c n l w hn hb hs)
  obtain ⟨F, hF⟩ : ∃ F, F = l.map ft := ⟨_, rfl⟩
  have HFF := Lib.hid (show Fine F by rw [hF]; exact fine_fit l)
  have HN := Lib.hid (show n = F.length by rw [hF, List.length_map]; exact hn)
  rw [← hF] at HFI hc
  have HMT := Lib.hid (mt_none (fine_all HFF.out) hc)
  have HIN := Lib.hid (show inB F v = false from by
    rw [inB_full F v]
    by_cases h1 : loF F ≤ v
    · rw [decide_eq_true h1, decide_eq_false (show ¬ v ≤ hiF F by omega)]; rfl
    · rw [decide_eq_false h1]; rfl)
  clear h hn hs hF hc
  go_enter Tryd.func5, Tryd.ntmps5
  go_wp2_with fail
  refine HFI.out.mono ?_
  rintro e w1 ⟨A', c', rfl, ho, hb1⟩
  have HB1 := Lib.hid hb1
  have HO1 := Lib.hid ho
  clear HFI hb1 ho
  have HM := Lib.hid (meet_any A' c' n F w1 HN.out (by omega) (own_cells HO1.out))
  rw [HMT.out] at HM
  unfold winV at HM
  have hcap : n ≤ c' := by obtain ⟨A2, c2, hq, _, h2⟩ := own_srcK HO1.out; injection hq with q1 q2 q3; omega
  go_wp2_with fail
  refine HM.out.mono ?_
  rintro e w2 ⟨rfl, hb2⟩
  have HO2 := Lib.hid (own_belowK HO1.out hb2)
  have HB2 := Lib.hid (bt HB1.out hb2)
  clear hb2 HO1 HB1 HM
  have HO3 := Lib.hid (own_belowK HO2.out (grows' w2 (.cells #[.int .i64 0, .int .i64 0] 55)))
  have HB3 := Lib.hid (bt HB2.out (grows' w2 (.cells #[.int .i64 0, .int .i64 0] 55)))
  have C8 := Lib.hid (cells2_new w2 (.int .i64 0) (.int .i64 0) 55)
  clear HO2 HB2
  go_upto_region 3 with fail
  generalize w2.alloc (.cells #[.int .i64 0, .int .i64 0] 55) = W3 at *
  generalize w2.heap.size = g8 at *
  go_cut [10] (fun s10 wx => s10 = .bool (inB (F.take 0) v) ∧ wx = W3)
  case first =>
    have hx : inB (F.take 0) v = (decide (0 ≤ v) && decide (v ≤ 1099511627776)) := by unfold inB; simp
    by_cases h1 : 0 ≤ v
    · have d1 : decide (0 ≤ v) = true := decide_eq_true h1
      go_wp2_with fail
      all_goals
        go_meet
        refine ⟨?_, rfl⟩
        rw [hx, d1, Bool.true_and]
    · have d1 : decide (0 ≤ v) = false := decide_eq_false h1
      go_wp2_with fail
      all_goals
        go_meet
        refine ⟨?_, rfl⟩
        rw [hx, d1, Bool.false_and]
  case rest =>
  obtain ⟨rfl, hw⟩ := hcut
  rw [hw]
  clear hw wc
  have OF := Lib.hid (own_cells HO3.out)
  have HW3 := Lib.hid (Below.refl W3.heap.size W3)
  go_wp2_with fail
  go_loopw [10, 11] (fun v10 v11 wr => ∃ k, k ≤ n ∧ v11 = .int .i64 (k : Nat) ∧ v10 = .bool (inB (F.take k) v) ∧ Below W3.heap.size W3 wr) (fun _ v11 _ => n - (RowKit.intOf v11).toNat)
  case atStart => exact ⟨0, by omega, rfl, rfl, HW3.out⟩
  case round =>
    clear HW3
    obtain ⟨k, hk, rfl, rfl, hbr⟩ := hrel
    have HBR := Lib.hid hbr
    clear hbr
    by_cases hlt : k < n
    · have l1 : (0 : Int) ≤ (k : Int) := by omega
      have l2 : (k : Int) < (n : Int) := by omega
      have hkl : k < F.length := by rw [← HN.out]; exact hlt
      have HIB := Lib.hid (inB_take F v k hkl)
      obtain ⟨b, o, rfl, hbs, hc1⟩ := OF.out.at (by omega)
      have e0 : W3.cell? ⟨b, o + k * 2, none⟩ = _ := hc1 (k * 2 + 0) _ (prs_at F k 0 hkl (by decide))
      have e1 : W3.cell? ⟨b, o + k * 2 + 1, none⟩ = _ := hc1 (k * 2 + 1) _ (prs_at F k 1 hkl (by decide))
      clear hc1
      generalize F.getD k (0, 0) = s at e0 e1 HIB
      obtain ⟨pa, pb⟩ := s
      replace e0 : W3.cell? ⟨b, o + k * 2, none⟩ = some (.int .i64 pa) := e0
      replace e1 : W3.cell? ⟨b, o + k * 2 + 1, none⟩ = some (.int .i64 pb) := e1
      have HKP := Lib.hid (fun V (hV : Below W3.heap.size W3 V) => show (V.cell? ⟨b, o + k * 2, none⟩ = some (.int .i64 pa) ∧ V.cell? ⟨b, o + k * 2 + 1, none⟩ = some (.int .i64 pb) ∧ V.cell? ⟨g8, 0, none⟩ = some (.int .i64 0) ∧ V.cell? ⟨g8, 1, none⟩ = some (.int .i64 0)) ∧ Below W3.heap.size W3 V from ⟨⟨by rw [hV.cell (cell_lt e0)]; exact e0, by rw [hV.cell (cell_lt e1)]; exact e1, by rw [hV.cell (cell_lt C8.out.1)]; exact C8.out.1, by rw [hV.cell (cell_lt C8.out.2)]; exact C8.out.2⟩, hV⟩)
      clear e0 e1
      obtain ⟨⟨f0, f1, f2, f3⟩, _⟩ := HKP.out _ HBR.out
      replace HIB := Lib.hid (show inB (F.take (k + 1)) v = (inB (F.take k) v && (decide (pa ≤ v) && decide (v ≤ pb))) from HIB.out)
      generalize inB (F.take k) v = g at HIB ⊢
      go_upto_region 7 with fail
      go_cut [10] (fun s10 wx => s10 = .bool (inB (F.take (k + 1)) v) ∧ wx = wr)
      case first =>
        cases g
        · go_wp2_with fail
          all_goals
            go_meet
            exact ⟨by rw [HIB.out, Bool.false_and], rfl⟩
        · by_cases h1 : pa ≤ v
          · have d1 : decide (pa ≤ v) = true := decide_eq_true h1
            go_wp2_with fail
            all_goals
              go_meet
              refine ⟨?_, rfl⟩
              rw [HIB.out, d1, Bool.true_and, Bool.true_and]
          · have d1 : decide (pa ≤ v) = false := decide_eq_false h1
            go_wp2_with fail
            all_goals
              go_meet
              refine ⟨?_, rfl⟩
              rw [HIB.out, d1, Bool.false_and, Bool.and_false]
      case rest =>
      obtain ⟨rfl, hw⟩ := hcut
      rw [hw]
      clear hw wc
      go_wp2_with fail
      refine wp_region_noPanic ?_
      refine wp_region_held_drew (S := fun w' => (w'.cell? ⟨b, o + k * 2, none⟩ = some (.int .i64 pa) ∧ w'.cell? ⟨b, o + k * 2 + 1, none⟩ = some (.int .i64 pb) ∧ w'.cell? ⟨g8, 0, none⟩ = some (.int .i64 0) ∧ w'.cell? ⟨g8, 1, none⟩ = some (.int .i64 0)) ∧ Below W3.heap.size W3 w') (by kernel_rfl) (HKP.out _ (below_dr HBR.out 1)) (fun hHeld => ?_)
      first | (refine skipH (i := 0) (dst := some 62) rfl rfl (by kernel_rfl) (by kernel_rfl) (by kernel_rfl) (fun _ _ _ h => h) (by rfl) hHeld ?_) | (refine' takeH (i := 0) (dst := some 62) (v := _) rfl rfl (by kernel_rfl) (by kernel_rfl) (by kernel_rfl) (fun _ _ _ h => h) (by rfl) ?hy hHeld ?_; case hy => (intro w hSw; clear hSw; (first | done | go_simp); try with_reducible rfl)) | fail
      try simp only [Act.put, List.setIfInBounds_toArray, List.set_cons_zero, List.set_cons_succ]
      first | (refine skipH (i := 1) (dst := some 63) rfl rfl (by kernel_rfl) (by kernel_rfl) (by kernel_rfl) (fun _ _ _ h => h) (by rfl) hHeld ?_) | (refine' takeH (i := 1) (dst := some 63) (v := _) rfl rfl (by kernel_rfl) (by kernel_rfl) (by kernel_rfl) (fun _ _ _ h => h) (by rfl) ?hy hHeld ?_; case hy => (intro w hSw; clear hSw; (first | done | go_simp); try with_reducible rfl)) | fail
      try simp only [Act.put, List.setIfInBounds_toArray, List.set_cons_zero, List.set_cons_succ]
      first | (refine skipH (i := 2) (dst := some 64) rfl rfl (by kernel_rfl) (by kernel_rfl) (by kernel_rfl) (fun _ _ _ h => h) (by rfl) hHeld ?_) | (refine' takeH (i := 2) (dst := some 64) (v := _) rfl rfl (by kernel_rfl) (by kernel_rfl) (by kernel_rfl) (fun _ _ _ h => h) (by rfl) ?hy hHeld ?_; case hy => (intro w hSw; clear hSw; (first | done | go_simp); try with_reducible rfl)) | fail
      try simp only [Act.put, List.setIfInBounds_toArray, List.set_cons_zero, List.set_cons_succ]
      first | (refine skipH (i := 3) (dst := some 65) rfl rfl (by kernel_rfl) (by kernel_rfl) (by kernel_rfl) (fun _ _ _ h => h) (by rfl) hHeld ?_) | (refine' takeH (i := 3) (dst := some 65) (v := _) rfl rfl (by kernel_rfl) (by kernel_rfl) (by kernel_rfl) (fun _ _ _ h => h) (by rfl) ?hy hHeld ?_; case hy => (intro w hSw; clear hSw; (first | done | go_simp); try with_reducible rfl)) | fail
      try simp only [Act.put, List.setIfInBounds_toArray, List.set_cons_zero, List.set_cons_succ]
      first | (refine skipH (i := 4) (dst := some 66) rfl rfl (by kernel_rfl) (by kernel_rfl) (by kernel_rfl) (fun _ _ _ h => h) (by rfl) hHeld ?_) | (refine' takeH (i := 4) (dst := some 66) (v := _) rfl rfl (by kernel_rfl) (by kernel_rfl) (by kernel_rfl) (fun _ _ _ h => h) (by rfl) ?hy hHeld ?_; case hy => (intro w hSw; clear hSw; (first | done | go_simp); try with_reducible rfl)) | fail
      try simp only [Act.put, List.setIfInBounds_toArray, List.set_cons_zero, List.set_cons_succ]
      first | (refine skipH (i := 5) (dst := some 67) rfl rfl (by kernel_rfl) (by kernel_rfl) (by kernel_rfl) (fun _ _ _ h => h) (by rfl) hHeld ?_) | (refine' takeH (i := 5) (dst := some 67) (v := _) rfl rfl (by kernel_rfl) (by kernel_rfl) (by kernel_rfl) (fun _ _ _ h => h) (by rfl) ?hy hHeld ?_; case hy => (intro w hSw; clear hSw; (first | done | go_simp); try with_reducible rfl)) | fail
      try simp only [Act.put, List.setIfInBounds_toArray, List.set_cons_zero, List.set_cons_succ]
      first | (refine skipH (i := 6) (dst := some 68) rfl rfl (by kernel_rfl) (by kernel_rfl) (by kernel_rfl) (fun _ _ _ h => h) (by rfl) hHeld ?_) | (refine' takeH (i := 6) (dst := some 68) (v := _) rfl rfl (by kernel_rfl) (by kernel_rfl) (by kernel_rfl) (fun _ _ _ h => h) (by rfl) ?hy hHeld ?_; case hy => (intro w hSw; clear hSw; (first | done | go_simp); try with_reducible rfl)) | fail
      try simp only [Act.put, List.setIfInBounds_toArray, List.set_cons_zero, List.set_cons_succ]
      first | (refine skipH (i := 7) (dst := some 69) rfl rfl (by kernel_rfl) (by kernel_rfl) (by kernel_rfl) (fun _ _ _ h => h) (by rfl) hHeld ?_) | (refine' takeH (i := 7) (dst := some 69) (v := _) rfl rfl (by kernel_rfl) (by kernel_rfl) (by kernel_rfl) (fun _ _ _ h => h) (by rfl) ?hy hHeld ?_; case hy => (intro w hSw; clear hSw; (first | done | go_simp); try with_reducible rfl)) | fail
      try simp only [Act.put, List.setIfInBounds_toArray, List.set_cons_zero, List.set_cons_succ]
      first | (refine skipH (i := 8) (dst := some 70) rfl rfl (by kernel_rfl) (by kernel_rfl) (by kernel_rfl) (fun _ _ _ h => h) (by rfl) hHeld ?_) | (refine' takeH (i := 8) (dst := some 70) (v := _) rfl rfl (by kernel_rfl) (by kernel_rfl) (by kernel_rfl) (fun _ _ _ h => h) (by rfl) ?hy hHeld ?_; case hy => (intro w hSw; clear hSw; (first | done | go_simp); try with_reducible rfl)) | fail
      try simp only [Act.put, List.setIfInBounds_toArray, List.set_cons_zero, List.set_cons_succ]
      first | (refine skipH (i := 9) (dst := some 71) rfl rfl (by kernel_rfl) (by kernel_rfl) (by kernel_rfl) (fun _ _ _ h => h) (by rfl) hHeld ?_) | (refine' takeH (i := 9) (dst := some 71) (v := _) rfl rfl (by kernel_rfl) (by kernel_rfl) (by kernel_rfl) (fun _ _ _ h => h) (by rfl) ?hy hHeld ?_; case hy => (intro w hSw; clear hSw; (first | done | go_simp); try with_reducible rfl)) | fail
      try simp only [Act.put, List.setIfInBounds_toArray, List.set_cons_zero, List.set_cons_succ]
      first | (refine skipH (i := 10) (dst := some 72) rfl rfl (by kernel_rfl) (by kernel_rfl) (by kernel_rfl) (fun _ _ _ h => h) (by rfl) hHeld ?_) | (refine' takeH (i := 10) (dst := some 72) (v := _) rfl rfl (by kernel_rfl) (by kernel_rfl) (by kernel_rfl) (fun _ _ _ h => h) (by rfl) ?hy hHeld ?_; case hy => (intro w hSw; clear hSw; (first | done | go_simp); try with_reducible rfl)) | fail
      try simp only [Act.put, List.setIfInBounds_toArray, List.set_cons_zero, List.set_cons_succ]
      first | (refine skipH (i := 11) (dst := some 73) rfl rfl (by kernel_rfl) (by kernel_rfl) (by kernel_rfl) (fun _ _ _ h => h) (by rfl) hHeld ?_) | (refine' takeH (i := 11) (dst := some 73) (v := _) rfl rfl (by kernel_rfl) (by kernel_rfl) (by kernel_rfl) (fun _ _ _ h => h) (by rfl) ?hy hHeld ?_; case hy => (intro w hSw; clear hSw; (first | done | go_simp); try with_reducible rfl)) | fail
      try simp only [Act.put, List.setIfInBounds_toArray, List.set_cons_zero, List.set_cons_succ]
      first | (refine skipH (i := 12) (dst := some 74) rfl rfl (by kernel_rfl) (by kernel_rfl) (by kernel_rfl) (fun _ _ _ h => h) (by rfl) hHeld ?_) | (refine' takeH (i := 12) (dst := some 74) (v := _) rfl rfl (by kernel_rfl) (by kernel_rfl) (by kernel_rfl) (fun _ _ _ h => h) (by rfl) ?hy hHeld ?_; case hy => (intro w hSw; clear hSw; (first | done | go_simp); try with_reducible rfl)) | fail
      try simp only [Act.put, List.setIfInBounds_toArray, List.set_cons_zero, List.set_cons_succ]
      first | (refine skipH (i := 13) (dst := some 75) rfl rfl (by kernel_rfl) (by kernel_rfl) (by kernel_rfl) (fun _ _ _ h => h) (by rfl) hHeld ?_) | (refine' takeH (i := 13) (dst := some 75) (v := _) rfl rfl (by kernel_rfl) (by kernel_rfl) (by kernel_rfl) (fun _ _ _ h => h) (by rfl) ?hy hHeld ?_; case hy => (intro w hSw; clear hSw; (first | done | go_simp); try with_reducible rfl)) | fail
      try simp only [Act.put, List.setIfInBounds_toArray, List.set_cons_zero, List.set_cons_succ]
      first | (refine skipH (i := 14) (dst := some 76) rfl rfl (by kernel_rfl) (by kernel_rfl) (by kernel_rfl) (fun _ _ _ h => h) (by rfl) hHeld ?_) | (refine' takeH (i := 14) (dst := some 76) (v := _) rfl rfl (by kernel_rfl) (by kernel_rfl) (by kernel_rfl) (fun _ _ _ h => h) (by rfl) ?hy hHeld ?_; case hy => (intro w hSw; clear hSw; (first | done | go_simp); try with_reducible rfl)) | fail
      try simp only [Act.put, List.setIfInBounds_toArray, List.set_cons_zero, List.set_cons_succ]
      first | (refine skipH (i := 15) (dst := some 77) rfl rfl (by kernel_rfl) (by kernel_rfl) (by kernel_rfl) (fun _ _ _ h => h) (by rfl) hHeld ?_) | (refine' takeH (i := 15) (dst := some 77) (v := _) rfl rfl (by kernel_rfl) (by kernel_rfl) (by kernel_rfl) (fun _ _ _ h => h) (by rfl) ?hy hHeld ?_; case hy => (intro w hSw; clear hSw; (first | done | go_simp); try with_reducible rfl)) | fail
      try simp only [Act.put, List.setIfInBounds_toArray, List.set_cons_zero, List.set_cons_succ]
      first | (refine skipH (i := 16) (dst := some 78) rfl rfl (by kernel_rfl) (by kernel_rfl) (by kernel_rfl) (fun _ _ _ h => h) (by rfl) hHeld ?_) | (refine' takeH (i := 16) (dst := some 78) (v := _) rfl rfl (by kernel_rfl) (by kernel_rfl) (by kernel_rfl) (fun _ _ _ h => h) (by rfl) ?hy hHeld ?_; case hy => (intro w hSw; clear hSw; (first | done | go_simp); try with_reducible rfl)) | fail
      try simp only [Act.put, List.setIfInBounds_toArray, List.set_cons_zero, List.set_cons_succ]
      first | (refine skipH (i := 17) (dst := some 79) rfl rfl (by kernel_rfl) (by kernel_rfl) (by kernel_rfl) (fun _ _ _ h => h) (by rfl) hHeld ?_) | (refine' takeH (i := 17) (dst := some 79) (v := _) rfl rfl (by kernel_rfl) (by kernel_rfl) (by kernel_rfl) (fun _ _ _ h => h) (by rfl) ?hy hHeld ?_; case hy => (intro w hSw; clear hSw; (first | done | go_simp); try with_reducible rfl)) | fail
      try simp only [Act.put, List.setIfInBounds_toArray, List.set_cons_zero, List.set_cons_succ]
      first | (refine skipH (i := 18) (dst := some 80) rfl rfl (by kernel_rfl) (by kernel_rfl) (by kernel_rfl) (fun _ _ _ h => h) (by rfl) hHeld ?_) | (refine' takeH (i := 18) (dst := some 80) (v := _) rfl rfl (by kernel_rfl) (by kernel_rfl) (by kernel_rfl) (fun _ _ _ h => h) (by rfl) ?hy hHeld ?_; case hy => (intro w hSw; clear hSw; (first | done | go_simp); try with_reducible rfl)) | fail
      try simp only [Act.put, List.setIfInBounds_toArray, List.set_cons_zero, List.set_cons_succ]
      first | (refine skipH (i := 19) (dst := some 81) rfl rfl (by kernel_rfl) (by kernel_rfl) (by kernel_rfl) (fun _ _ _ h => h) (by rfl) hHeld ?_) | (refine' takeH (i := 19) (dst := some 81) (v := _) rfl rfl (by kernel_rfl) (by kernel_rfl) (by kernel_rfl) (fun _ _ _ h => h) (by rfl) ?hy hHeld ?_; case hy => (intro w hSw; clear hSw; (first | done | go_simp); try with_reducible rfl)) | fail
      try simp only [Act.put, List.setIfInBounds_toArray, List.set_cons_zero, List.set_cons_succ]
      first | (refine skipH (i := 20) (dst := some 82) rfl rfl (by kernel_rfl) (by kernel_rfl) (by kernel_rfl) (fun _ _ _ h => h) (by rfl) hHeld ?_) | (refine' takeH (i := 20) (dst := some 82) (v := _) rfl rfl (by kernel_rfl) (by kernel_rfl) (by kernel_rfl) (fun _ _ _ h => h) (by rfl) ?hy hHeld ?_; case hy => (intro w hSw; clear hSw; (first | done | go_simp); try with_reducible rfl)) | fail
      try simp only [Act.put, List.setIfInBounds_toArray, List.set_cons_zero, List.set_cons_succ]
      first | (refine skipH (i := 21) (dst := some 83) rfl rfl (by kernel_rfl) (by kernel_rfl) (by kernel_rfl) (fun _ _ _ h => h) (by rfl) hHeld ?_) | (refine' takeH (i := 21) (dst := some 83) (v := _) rfl rfl (by kernel_rfl) (by kernel_rfl) (by kernel_rfl) (fun _ _ _ h => h) (by rfl) ?hy hHeld ?_; case hy => (intro w hSw; clear hSw; (first | done | go_simp); try with_reducible rfl)) | fail
      try simp only [Act.put, List.setIfInBounds_toArray, List.set_cons_zero, List.set_cons_succ]
      refine wpAnyH_done (by kernel_rfl) (NoPanic.normal ?_) _
      have HBL := Lib.hid hHeld.2
      clear hHeld
      go_wp2_with fail
      go_roundw
      case rel => exact ⟨k + 1, by omega, by go_num, rfl, HBL.out⟩
      case measure => simp [RowKit.intOf]; omega
    · obtain rfl : n = k := by omega
      rw [List.take_of_length_le (by rw [← HN.out]; exact Nat.le_refl _), HIN.out]
      clear hlt hk
      obtain ⟨c0, c1⟩ := cells2_below C8.out HBR.out
      go_upto_region 10 with fail
      go_cut [10, 99] (fun _ s99 wx => s99 = .bool false ∧ wx = wr)
      case first =>
        go_wp2_with fail
        all_goals
          go_meet
          exact ⟨by first | rfl | simp_all, rfl⟩
      case rest =>
      obtain ⟨rfl, hw⟩ := hcut
      rw [hw]
      clear hw wc
      go_upto_if 102 with fail
      go_cut [12] (fun s12 wx => (∃ z : Nat, s12 = .int .i64 (z : Int) ∧ z ≤ n ∧ (n ≠ 0 → z < n)) ∧ wx = wr)
      case first =>
        by_cases h0 : n = 0
        · have d0 : decide ((0 : Int) < (n : Int)) = false := decide_eq_false (by omega)
          go_wp2_with fail
          all_goals
            go_meet
            exact ⟨⟨0, rfl, by omega, fun h => absurd h0 h⟩, rfl⟩
        · have d0 : decide ((0 : Int) < (n : Int)) = true := decide_eq_true (by omega)
          have hn0 : (0 : Int) < (n : Int) := by omega
          have zz : ¬ (n : Int) = 0 := by omega
          rcases cut_z cut n h0 with ⟨z, hz, hzn⟩ | ⟨hz0, z, hz, hzn⟩
          · go_wp2_with fail
            go_meet
            exact ⟨⟨z, by rw [em1 hzn], Nat.le_of_lt hzn, fun _ => hzn⟩, rfl⟩
          · go_wp2_with fail
            go_meet
            exact ⟨⟨z, by rw [em2 hzn], Nat.le_of_lt hzn, fun _ => hzn⟩, rfl⟩
      case rest =>
      obtain ⟨⟨z, rfl, hzn, hzlt⟩, hw⟩ := hcut
      rw [hw]
      clear hw wc
      go_step
      exact tail_none A A' c c' n z g8 cut v F w wr _ _ _ _ _ _ _ _ _ _ _ _ _ _ _ _ _ _ _ _ _ _ _ _ _ _ _ _ _ _ _ _ _ _ _ _ _ _ _ _ _ _ _ _ _ _ _ _ _ _ _ _ _ _ _ _ _ _ _ _ _ _ _ _ _ _ _ _ _ _ _ _ _ _ _ _ _ _ _ _ _ _ _ _ _ _ _ _ _ _ _ _ _ _ _ _ _ _ _ _ _ _ _ _ _ _ _ _ _ _ _ _ _ _ _ _ _ _ _ _ _ _ _ _ _ _ _ _ _ _ _ _ _ _ _ _ _ _ _ _ _ _ _ _ _ _ _ _ _ _ _ _ _ _ _ _ _ _ _ _ _ _ _ _ _ _ _ _ _ _ _ _ _ _ _ _ _ _ _ _ _ _ _ _ _ _ _ _ _ _ _ _ _ _ _ _ _ _ _ _ _ _ _ _ _ _ _ _ _ _ _ _ _ _ _ _ _ _ HT.out (bt HB3.out HBR.out) ⟨W3, HBR.out, HO3.out⟩ HN.out hb hcap (cells2_below C8.out HBR.out) HFF.out HMT.out hzn hzlt

end Go.Proofs.YtjffemeeomogaaaDoor.Su
