/- What the roll tells: the law's tells. -/
import Derived.Test.YtnnaoneegeenkaaDoorRvS
import Derived.Test.YtnnaoneegeenkaaDoorRvV
namespace Go.Proofs.YtnnaoneegeenkaaDoor.Kq
open Go.ChangeShapes Go.WideShapes Go.ChangeAt Go.RowKit Own Ro wordsNames Kc
open Ka (i64s i64s_len i64s_at)
open Rm (Fams T5 families_any wpList_load_row' crystalN supplyN busN sensorN radioN)

set_option maxRecDepth 100000 in
set_option maxHeartbeats 8000000 in
theorem sameTexts_any (A B : Option Addr) (c d n : Nat) (l : List Tx) (w : World) (hn : n = l.length) (hm : n ≤ 9223372036854775807) (hA : CellsIn w 1 A n (Kc.strs l)) (hB : CellsIn w 1 B n (Kc.strs l)) :
    Calls Tryd.prog 27 #[.slice A n c, .slice B n d] w fun e w' => e = .returned (.bool true) ∧ Below w.heap.size w w' := by
  have GA := Lib.hid hA
  have GB := Lib.hid hB
  have HN := Lib.hid hn
  clear hA hB hn
  go_enter Tryd.func27, Tryd.ntmps27
  go_wp2_with fail
  go_loopw [5] (fun i wr => ∃ k : Nat, k ≤ n ∧ i = .int .i64 (k : Int) ∧ ∃ q, wr = w.drewN q) (fun i _ => n - (RowKit.intOf i).toNat)
  case atStart => exact ⟨0, Nat.zero_le _, rfl, 0, rfl⟩
  case round =>
    obtain ⟨k, hk, rfl, q, rfl⟩ := hrel
    by_cases hlt : k < n
    · have l1 : (0 : Int) ≤ (k : Int) := by omega
      have l2 : (k : Int) < (n : Int) := by omega
      obtain ⟨b, o, rfl, _, hc1⟩ := GA.out.at (by omega)
      obtain ⟨b2, o2, rfl, _, hc2⟩ := GB.out.at (by omega)
      have e1 := hc1 k _ (strs_at l k (by rw [← HN.out]; exact hlt))
      have e2 := hc2 k _ (strs_at l k (by rw [← HN.out]; exact hlt))
      generalize str (l.getD k []) = x at e1 e2
      clear hc1 hc2
      go_wp2_with fail
      go_quiet (fail)
      go_wp2_with fail
      go_roundw
      case rel => exact ⟨k + 1, by omega, by go_num, ⟨_, rfl⟩⟩
      case measure => simp [RowKit.intOf]; omega
    · have HK := Lib.hid (show k = n by omega)
      have zk : ¬ (k : Int) < (n : Int) := by omega
      go_wp2_with fail
      go_ret
      exact ⟨rfl, below_dr (Below.refl _ _) q⟩
theorem tab_facts : ∀ k < 5, lookT (tabsI 5) ((tabsI 5).getD k tn0).1 = ((tabsI 5).getD k tn0).2 ∧ ((tabsI 5).getD k tn0).2 ≠ [] ∧ ((tabsI 5).getD k tn0).1.length ≤ 31 := by
  rw [tabs5]
  decide +kernel
theorem mildL_SL : MildL 1099511627776 SL := ⟨by rw [SL_len]; decide, fun k => mild_big (mild_SL k)⟩
theorem mildL_RL : MildL 1099511627776 RL := by
  refine ⟨by rw [RL_len]; decide, fun k => ?_⟩
  by_cases hk : k < RL.length
  · have e : RL.getD k cd0 = AL.getD ((rfJ 27).getD k 0) cd0 := pkL_at AL (rfJ 27) k (by rw [rf27]; rw [RL_len] at hk; exact hk)
    rw [e]
    exact mild_big (mild_AL _)
  · rw [List.getD_eq_getElem?_getD, List.getElem?_eq_none (by omega)]
    exact mild_zero _
set_option maxRecDepth 100000 in
set_option maxHeartbeats 16000000 in
theorem tells_any (w : World) (ht5 : T5 w) : Calls Tryd.prog 8 #[] w (fun e w' => e = .returned (.bool true) ∧ Below w.heap.size w w') := by
  have HT := Lib.hid ht5
  have HS := Lib.hid (refStands_any w)
  clear ht5
  go_enter Tryd.func8, Tryd.ntmps8
  go_wp2_with fail
  refine HS.out.mono ?_
  rintro e w1 ⟨rfl, hb, c, f, tb, RC, RF, RT, hq, hrt, _⟩
  have HQ := Lib.hid hq
  have HRT := Lib.hid hrt
  have HB := Lib.hid hb
  have hcn : c.2.1 = 22 := by rw [hq.cl.1, SL_len]
  have hfn : f.2.1 = 5 := by rw [hq.fl.1, RL_len]
  have htn : tb.2.1 = 5 := by rw [hrt.1, tabsI_len]
  clear hq hrt hb HS
  obtain ⟨ca, cn, cc⟩ := c
  obtain ⟨fa, fn, fc⟩ := f
  obtain ⟨ta, tn, tc⟩ := tb
  obtain rfl : cn = 22 := hcn
  obtain rfl : fn = 5 := hfn
  obtain rfl : tn = 5 := htn
  dsimp only at HRT
  have hwq : w.heap.size < w1.heap.size := HQ.out.lt
  have HCW : Hid (∀ W, Below w1.heap.size w1 W → (W.cell? ⟨w.heap.size, 0, none⟩ = some (.slice ca 22 cc) ∧ W.cell? ⟨w.heap.size, 1, none⟩ = some (.slice fa 5 fc)) ∧ Below w1.heap.size w1 W) := Lib.hid (fun W hW => ⟨⟨(hW.cell (p := ⟨w.heap.size, 0, none⟩) hwq).trans (HQ.out.cell (j := 0) rfl), (hW.cell (p := ⟨w.heap.size, 1, none⟩) hwq).trans (HQ.out.cell (j := 1) rfl)⟩, hW⟩)
  have HCT : Hid (∀ W, Below w1.heap.size w1 W → W.cell? ⟨w.heap.size, 4, none⟩ = some (.slice ta 5 tc)) := Lib.hid (fun W hW => (hW.cell (p := ⟨w.heap.size, 4, none⟩) hwq).trans (HQ.out.cell (j := 4) rfl))
  have HSC := Lib.hid (fun A c' R W (h : RowsOwn KC W (0 : Nat) A 22 c' SL R) (hW : Below w1.heap.size w1 W) => sameAll_any A ca c' 22 cc 22 SL SL R RC true W (by simp) mildL_SL mildL_SL h.rows (HQ.out.cl.below hW).rows)
  have HSR := Lib.hid (fun A c' R W (h : RowsOwn KC W (0 : Nat) A 5 c' RL R) (hW : Below w1.heap.size w1 W) => sameAll_any A fa c' 5 fc 5 RL RL R RF true W (by simp) mildL_RL mildL_RL h.rows (HQ.out.fl.below hW).rows)
  go_upto_region 2 with (fail)
  refine wp_region_noPanic ?_
  refine wp_region_held_drew (S := fun W : World => (W.cell? ⟨w.heap.size, 0, none⟩ = some (.slice ca 22 cc) ∧ W.cell? ⟨w.heap.size, 1, none⟩ = some (.slice fa 5 fc)) ∧ Below w1.heap.size w1 W) (by kernel_rfl) (HCW.out _ (below_dr (Below.refl _ _) 1)) (fun hHeld => ?_)
  first | (refine skipH (i := 1) (dst := some 9) rfl rfl (by kernel_rfl) (by kernel_rfl) (by kernel_rfl) (fun _ _ _ h => h) (by rfl) hHeld ?_) | (refine' takeH (i := 1) (dst := some 9) (v := _) rfl rfl (by kernel_rfl) (by kernel_rfl) (by kernel_rfl) (fun _ _ _ h => h) (by rfl) ?hy hHeld ?_; case hy => (intro w hSw; clear hSw; (first | done | go_simp); try with_reducible rfl)) | fail
  try simp only [Act.put, List.setIfInBounds_toArray, List.set_cons_zero, List.set_cons_succ]
  first | (refine skipH (i := 2) (dst := some 10) rfl rfl (by kernel_rfl) (by kernel_rfl) (by kernel_rfl) (fun _ _ _ h => h) (by rfl) hHeld ?_) | (refine' takeH (i := 2) (dst := some 10) (v := _) rfl rfl (by kernel_rfl) (by kernel_rfl) (by kernel_rfl) (fun _ _ _ h => h) (by rfl) ?hy hHeld ?_; case hy => (intro w hSw; clear hSw; (first | done | go_simp); try with_reducible rfl)) | fail
  try simp only [Act.put, List.setIfInBounds_toArray, List.set_cons_zero, List.set_cons_succ]
  first | (refine skipH (i := 3) (dst := some 11) rfl rfl (by kernel_rfl) (by kernel_rfl) (by kernel_rfl) (fun _ _ _ h => h) (by rfl) hHeld ?_) | (refine' takeH (i := 3) (dst := some 11) (v := _) rfl rfl (by kernel_rfl) (by kernel_rfl) (by kernel_rfl) (fun _ _ _ h => h) (by rfl) ?hy hHeld ?_; case hy => (intro w hSw; clear hSw; (first | done | go_simp); try with_reducible rfl)) | fail
  try simp only [Act.put, List.setIfInBounds_toArray, List.set_cons_zero, List.set_cons_succ]
  first | (refine skipH (i := 4) (dst := some 12) rfl rfl (by kernel_rfl) (by kernel_rfl) (by kernel_rfl) (fun _ _ _ h => h) (by rfl) hHeld ?_) | (refine' takeH (i := 4) (dst := some 12) (v := _) rfl rfl (by kernel_rfl) (by kernel_rfl) (by kernel_rfl) (fun _ _ _ h => h) (by rfl) ?hy hHeld ?_; case hy => (intro w hSw; clear hSw; (first | done | go_simp); try with_reducible rfl)) | fail
  try simp only [Act.put, List.setIfInBounds_toArray, List.set_cons_zero, List.set_cons_succ]
  first | (refine skipH (i := 5) (dst := some 13) rfl rfl (by kernel_rfl) (by kernel_rfl) (by kernel_rfl) (fun _ _ _ h => h) (by rfl) hHeld ?_) | (refine' takeH (i := 5) (dst := some 13) (v := _) rfl rfl (by kernel_rfl) (by kernel_rfl) (by kernel_rfl) (fun _ _ _ h => h) (by rfl) ?hy hHeld ?_; case hy => (intro w hSw; obtain ⟨⟨_, _⟩, _⟩ := hSw; (first | done | go_simp); try with_reducible rfl)) | fail
  try simp only [Act.put, List.setIfInBounds_toArray, List.set_cons_zero, List.set_cons_succ]
  refine wpAnyH_ready (rs := [0]) (by kernel_rfl) (by simp) ?_
  refine AllReadyH.cons (i := 0) (o := ⟨some 8, .call _, _, _, _, _⟩) rfl (fun K hK => ?_) AllReadyH.nil
  go_simp
  refine (rCards_any _).mono ?_
  rintro e w2 ⟨A2, c2, R2, rfl, hr2, hb2⟩
  have B2 := Lib.hid (bt hHeld.2 hb2)
  have hH := HCW.out w2 B2.out
  have R2X := Lib.hid (hr2.mono (Nat.zero_le _))
  clear hr2 hb2
  refine hK.out _ _ hH (fun _ => ?_)
  clear hK K hHeld
  have hHeld := hH
  clear hH
  try simp only [Act.put, List.setIfInBounds_toArray, List.set_cons_zero, List.set_cons_succ]
  refine wpAnyH_ready (rs := [6]) (by kernel_rfl) (by simp) ?_
  refine AllReadyH.cons (i := 6) (o := ⟨some 14, .call _, _, _, _, _⟩) rfl (fun K hK => ?_) AllReadyH.nil
  go_simp
  refine (HSC.out A2 c2 R2 w2 R2X.out B2.out).mono ?_
  rintro e w3 ⟨rfl, hb3⟩
  have B3 := Lib.hid (bt B2.out hb3)
  have hH := HCW.out w3 B3.out
  clear hb3 B2 R2X
  refine hK.out _ _ hH (fun _ => ?_)
  clear hK K hHeld
  have hHeld := hH
  clear hH
  try simp only [Act.put, List.setIfInBounds_toArray, List.set_cons_zero, List.set_cons_succ]
  first | (refine skipH (i := 7) (dst := some 15) rfl rfl (by kernel_rfl) (by kernel_rfl) (by kernel_rfl) (fun _ _ _ h => h) (by rfl) hHeld ?_) | (refine' takeH (i := 7) (dst := some 15) (v := _) rfl rfl (by kernel_rfl) (by kernel_rfl) (by kernel_rfl) (fun _ _ _ h => h) (by rfl) ?hy hHeld ?_; case hy => (intro w hSw; clear hSw; (first | done | go_simp); try with_reducible rfl)) | fail
  try simp only [Act.put, List.setIfInBounds_toArray, List.set_cons_zero, List.set_cons_succ]
  first | (refine skipH (i := 8) (dst := some 16) rfl rfl (by kernel_rfl) (by kernel_rfl) (by kernel_rfl) (fun _ _ _ h => h) (by rfl) hHeld ?_) | (refine' takeH (i := 8) (dst := some 16) (v := _) rfl rfl (by kernel_rfl) (by kernel_rfl) (by kernel_rfl) (fun _ _ _ h => h) (by rfl) ?hy hHeld ?_; case hy => (intro w hSw; clear hSw; (first | done | go_simp); try with_reducible rfl)) | fail
  try simp only [Act.put, List.setIfInBounds_toArray, List.set_cons_zero, List.set_cons_succ]
  first | (refine skipH (i := 10) (dst := some 18) rfl rfl (by kernel_rfl) (by kernel_rfl) (by kernel_rfl) (fun _ _ _ h => h) (by rfl) hHeld ?_) | (refine' takeH (i := 10) (dst := some 18) (v := _) rfl rfl (by kernel_rfl) (by kernel_rfl) (by kernel_rfl) (fun _ _ _ h => h) (by rfl) ?hy hHeld ?_; case hy => (intro w hSw; clear hSw; (first | done | go_simp); try with_reducible rfl)) | fail
  try simp only [Act.put, List.setIfInBounds_toArray, List.set_cons_zero, List.set_cons_succ]
  first | (refine skipH (i := 11) (dst := some 19) rfl rfl (by kernel_rfl) (by kernel_rfl) (by kernel_rfl) (fun _ _ _ h => h) (by rfl) hHeld ?_) | (refine' takeH (i := 11) (dst := some 19) (v := _) rfl rfl (by kernel_rfl) (by kernel_rfl) (by kernel_rfl) (fun _ _ _ h => h) (by rfl) ?hy hHeld ?_; case hy => (intro w hSw; clear hSw; (first | done | go_simp); try with_reducible rfl)) | fail
  try simp only [Act.put, List.setIfInBounds_toArray, List.set_cons_zero, List.set_cons_succ]
  first | (refine skipH (i := 12) (dst := some 20) rfl rfl (by kernel_rfl) (by kernel_rfl) (by kernel_rfl) (fun _ _ _ h => h) (by rfl) hHeld ?_) | (refine' takeH (i := 12) (dst := some 20) (v := _) rfl rfl (by kernel_rfl) (by kernel_rfl) (by kernel_rfl) (fun _ _ _ h => h) (by rfl) ?hy hHeld ?_; case hy => (intro w hSw; clear hSw; (first | done | go_simp); try with_reducible rfl)) | fail
  try simp only [Act.put, List.setIfInBounds_toArray, List.set_cons_zero, List.set_cons_succ]
  first | (refine skipH (i := 13) (dst := some 21) rfl rfl (by kernel_rfl) (by kernel_rfl) (by kernel_rfl) (fun _ _ _ h => h) (by rfl) hHeld ?_) | (refine' takeH (i := 13) (dst := some 21) (v := _) rfl rfl (by kernel_rfl) (by kernel_rfl) (by kernel_rfl) (fun _ _ _ h => h) (by rfl) ?hy hHeld ?_; case hy => (intro w hSw; clear hSw; (first | done | go_simp); try with_reducible rfl)) | fail
  try simp only [Act.put, List.setIfInBounds_toArray, List.set_cons_zero, List.set_cons_succ]
  first | (refine skipH (i := 14) (dst := some 22) rfl rfl (by kernel_rfl) (by kernel_rfl) (by kernel_rfl) (fun _ _ _ h => h) (by rfl) hHeld ?_) | (refine' takeH (i := 14) (dst := some 22) (v := _) rfl rfl (by kernel_rfl) (by kernel_rfl) (by kernel_rfl) (fun _ _ _ h => h) (by rfl) ?hy hHeld ?_; case hy => (intro w hSw; obtain ⟨⟨_, _⟩, _⟩ := hSw; (first | done | go_simp); try with_reducible rfl)) | fail
  try simp only [Act.put, List.setIfInBounds_toArray, List.set_cons_zero, List.set_cons_succ]
  refine wpAnyH_ready (rs := [9]) (by kernel_rfl) (by simp) ?_
  refine AllReadyH.cons (i := 9) (o := ⟨some 17, .call _, _, _, _, _⟩) rfl (fun K hK => ?_) AllReadyH.nil
  go_simp
  refine (rRefused_any _).mono ?_
  rintro e w4 ⟨A4, c4, R4, rfl, hr4, hb4⟩
  have B4 := Lib.hid (bt hHeld.2 hb4)
  have hH := HCW.out w4 B4.out
  have R4X := Lib.hid (hr4.mono (Nat.zero_le _))
  clear hr4 hb4 B3
  refine hK.out _ _ hH (fun _ => ?_)
  clear hK K hHeld
  have hHeld := hH
  clear hH
  try simp only [Act.put, List.setIfInBounds_toArray, List.set_cons_zero, List.set_cons_succ]
  refine wpAnyH_ready (rs := [15]) (by kernel_rfl) (by simp) ?_
  refine AllReadyH.cons (i := 15) (o := ⟨some 23, .call _, _, _, _, _⟩) rfl (fun K hK => ?_) AllReadyH.nil
  go_simp
  refine (HSR.out A4 c4 R4 w4 R4X.out B4.out).mono ?_
  rintro e w5 ⟨rfl, hb5⟩
  have B5 := Lib.hid (bt B4.out hb5)
  have hH := HCW.out w5 B5.out
  clear hb5 B4 R4X
  refine hK.out _ _ hH (fun _ => ?_)
  clear hK K hHeld
  have hHeld := hH
  clear hH
  try simp only [Act.put, List.setIfInBounds_toArray, List.set_cons_zero, List.set_cons_succ]
  first | (refine skipH (i := 16) (dst := some 24) rfl rfl (by kernel_rfl) (by kernel_rfl) (by kernel_rfl) (fun _ _ _ h => h) (by rfl) hHeld ?_) | (refine' takeH (i := 16) (dst := some 24) (v := _) rfl rfl (by kernel_rfl) (by kernel_rfl) (by kernel_rfl) (fun _ _ _ h => h) (by rfl) ?hy hHeld ?_; case hy => (intro w hSw; clear hSw; (first | done | go_simp); try with_reducible rfl)) | fail
  try simp only [Act.put, List.setIfInBounds_toArray, List.set_cons_zero, List.set_cons_succ]
  first | (refine skipH (i := 17) (dst := some 25) rfl rfl (by kernel_rfl) (by kernel_rfl) (by kernel_rfl) (fun _ _ _ h => h) (by rfl) hHeld ?_) | (refine' takeH (i := 17) (dst := some 25) (v := _) rfl rfl (by kernel_rfl) (by kernel_rfl) (by kernel_rfl) (fun _ _ _ h => h) (by rfl) ?hy hHeld ?_; case hy => (intro w hSw; clear hSw; (first | done | go_simp); try with_reducible rfl)) | fail
  try simp only [Act.put, List.setIfInBounds_toArray, List.set_cons_zero, List.set_cons_succ]
  first | (refine skipH (i := 18) (dst := some 26) rfl rfl (by kernel_rfl) (by kernel_rfl) (by kernel_rfl) (fun _ _ _ h => h) (by rfl) hHeld ?_) | (refine' takeH (i := 18) (dst := some 26) (v := _) rfl rfl (by kernel_rfl) (by kernel_rfl) (by kernel_rfl) (fun _ _ _ h => h) (by rfl) ?hy hHeld ?_; case hy => (intro w hSw; clear hSw; (first | done | go_simp); try with_reducible rfl)) | fail
  try simp only [Act.put, List.setIfInBounds_toArray, List.set_cons_zero, List.set_cons_succ]
  refine wpAnyH_ready (rs := [19, 20]) (by kernel_rfl) (by simp) ?_
  refine AllReadyH.cons (i := 19) (o := ⟨some 27, .call _, _, _, _, _⟩) rfl (fun K hK => ?_) (AllReadyH.cons (i := 20) (o := ⟨some 28, .buildSlice _ _ _, _, _, _, _⟩) rfl (fun K hK => ?_) AllReadyH.nil)
  · go_simp
    refine (families_any _).mono ?_
    rintro e w6 ⟨rfl, rfl⟩
    have G6 := Lib.hid (grows' w5 (.cells #[.string (str crystalN), .string (str supplyN), .string (str busN), .string (str sensorN), .string (str radioN)] 9))
    have CF : Hid (CellsIn (w5.alloc (.cells #[.string (str crystalN), .string (str supplyN), .string (str busN), .string (str sensorN), .string (str radioN)] 9)) 1 (some ⟨w5.heap.size, 0, none⟩) 5 (Kc.strs Fams)) := Lib.hid (lit_cells w5 #[.string (str crystalN), .string (str supplyN), .string (str busN), .string (str sensorN), .string (str radioN)] 9 1 5 rfl)
    have hH := HCW.out _ (bt B5.out G6.out)
    have B6 := Lib.hid (bt B5.out G6.out)
    generalize hw6 : w5.alloc (.cells #[.string (str crystalN), .string (str supplyN), .string (str busN), .string (str sensorN), .string (str radioN)] 9) = w6 at CF B6 hH ⊢
    clear hw6
    refine hK.out _ _ hH (fun _ => ?_)
    clear hK K hHeld
    have hHeld := hH
    clear hH
    try simp only [Act.put, List.setIfInBounds_toArray, List.set_cons_zero, List.set_cons_succ]
    refine wpAnyH_ready (rs := [20]) (by kernel_rfl) (by simp) ?_
    refine AllReadyH.cons (i := 20) (o := ⟨some 28, .buildSlice _ _ _, _, _, _, _⟩) rfl (fun K hK => ?_) AllReadyH.nil
    go_simp
    have G7 := Lib.hid (grows' w6 (.cells #[.string (str crystalN), .string (str supplyN), .string (str busN), .string (str sensorN), .string (str radioN)] 9))
    have CB : Hid (CellsIn (w6.alloc (.cells #[.string (str crystalN), .string (str supplyN), .string (str busN), .string (str sensorN), .string (str radioN)] 9)) 1 (some ⟨w6.heap.size, 0, none⟩) 5 (Kc.strs Fams)) := Lib.hid (lit_cells w6 #[.string (str crystalN), .string (str supplyN), .string (str busN), .string (str sensorN), .string (str radioN)] 9 1 5 rfl)
    have CA := Lib.hid (CF.out.below G7.out)
    have B7 := Lib.hid (bt B6.out G7.out)
    have hH := HCW.out _ B7.out
    refine hK.out _ _ hH (fun _ => ?_)
    clear hK K hHeld
    have hHeld := hH
    clear hH
    try simp only [Act.put, List.setIfInBounds_toArray, List.set_cons_zero, List.set_cons_succ]
    refine wpAnyH_ready (rs := [21]) (by kernel_rfl) (by simp) ?_
    refine AllReadyH.cons (i := 21) (o := ⟨some 29, .call _, _, _, _, _⟩) rfl (fun K hK => ?_) AllReadyH.nil
    go_simp
    refine (sameTexts_any _ _ 5 5 5 Fams _ rfl (by omega) CA.out CB.out).mono ?_
    rintro e w8 ⟨rfl, hb8⟩
    have B8 := Lib.hid (bt B7.out hb8)
    have hH := HCW.out w8 B8.out
    clear hb8 B7 CA CB
    refine hK.out _ _ hH (fun _ => ?_)
    clear hK K hHeld
    have hHeld := hH
    clear hH
    try simp only [Act.put, List.setIfInBounds_toArray, List.set_cons_zero, List.set_cons_succ]
    first | (refine skipH (i := 22) (dst := some 30) rfl rfl (by kernel_rfl) (by kernel_rfl) (by kernel_rfl) (fun _ _ _ h => h) (by rfl) hHeld ?_) | (refine' takeH (i := 22) (dst := some 30) (v := _) rfl rfl (by kernel_rfl) (by kernel_rfl) (by kernel_rfl) (fun _ _ _ h => h) (by rfl) ?hy hHeld ?_; case hy => (intro w hSw; clear hSw; (first | done | go_simp); try with_reducible rfl)) | fail
    try simp only [Act.put, List.setIfInBounds_toArray, List.set_cons_zero, List.set_cons_succ]
    first | (refine skipH (i := 23) (dst := some 31) rfl rfl (by kernel_rfl) (by kernel_rfl) (by kernel_rfl) (fun _ _ _ h => h) (by rfl) hHeld ?_) | (refine' takeH (i := 23) (dst := some 31) (v := _) rfl rfl (by kernel_rfl) (by kernel_rfl) (by kernel_rfl) (fun _ _ _ h => h) (by rfl) ?hy hHeld ?_; case hy => (intro w hSw; clear hSw; (first | done | go_simp); try with_reducible rfl)) | fail
    try simp only [Act.put, List.setIfInBounds_toArray, List.set_cons_zero, List.set_cons_succ]
    refine wpAnyH_done (by kernel_rfl) (NoPanic.normal ?_) _
    clear hHeld
    go_wp2_with fail
    go_loopw [2, 3, 4] (fun v2 v3 v4 wr => ∃ k : Nat, k ≤ 5 ∧ v2 = .int .i64 (k : Nat) ∧ Below w1.heap.size w1 wr) (fun v2 _ _ _ => 5 - (RowKit.intOf v2).toNat)
    case atStart => exact ⟨0, by omega, rfl, B8.out⟩
    case round =>
      clear B8
      obtain ⟨k, hk, rfl, hbw⟩ := hrel
      have BW := Lib.hid hbw
      clear hbw
      have t4 := HCT.out wr BW.out
      by_cases hlt : k < 5
      · have k1 : (0 : Int) ≤ (k : Int) := by omega
        have k2 : (k : Int) < 5 := by omega
        have hfx := tab_facts k hlt
        obtain ⟨bb, oo, hta, hbs, hc, hlen, hin⟩ := (HRT.out.below BW.out).rows.at hlt
        have e0 : wr.cell? ⟨bb, oo + k * 2, none⟩ = some (.string (str ((tabsI 5).getD k tn0).1)) := hc 0 _ rfl
        have e1 : wr.cell? ⟨bb, oo + k * 2 + 1, none⟩ = some (slV (RT.getD k sl0)) := hc 1 _ rfl
        have HIN : Hid (CellsIn wr 1 (RT.getD k sl0).1 (RT.getD k sl0).2.1 (i64s ((tabsI 5).getD k tn0).2)) := Lib.hid hin
        have HLN : Hid ((RT.getD k sl0).2.1 = ((tabsI 5).getD k tn0).2.length) := Lib.hid hlen
        have hsm := tabsI_small 5 (Nat.le_refl _) k
        clear hc hin hlen
        rw [hta] at t4
        have HTB := Lib.hid (rTable_any ((tabsI 5).getD k tn0).1 wr (HT.out.below (bt HB.out BW.out)) (Nat.le_trans hfx.2.2 (by unfold maxLen; omega)))
        unfold TablePost at HTB
        rw [hfx.1, if_neg hfx.2.1] at HTB
        clear hfx
        generalize str ((tabsI 5).getD k tn0).1 = X at e0 HTB
        generalize ((tabsI 5).getD k tn0).2 = lk at HTB HIN HLN hsm
        generalize RT.getD k sl0 = rq at e1 HIN HLN
        obtain ⟨ra, rn, rc⟩ := rq
        simp only [slV] at e1
        dsimp only at HIN HLN
        have hrn : rn = lk.length := HLN.out
        subst hrn
        go_wp2_with fail
        refine HTB.out.mono ?_
        rintro e w9 ⟨A9, c9, rfl, hc9, hb9⟩
        have t4b : w9.cell? ⟨w.heap.size, 4, none⟩ = some (.slice ta 5 tc) := HCT.out w9 (bt BW.out hb9)
        rw [hta] at t4b
        have e1b : w9.cell? ⟨bb, oo + k * 2 + 1, none⟩ = some (.slice ra lk.length rc) := (hb9.cell (p := ⟨bb, oo + k * 2 + 1, none⟩) hbs).trans e1
        have HS6 := Lib.hid (same64_any A9 ra c9 rc lk.length lk w9 rfl (by omega) hc9 (HIN.out.below hb9))
        have B9 := Lib.hid (bt BW.out hb9)
        clear hc9 hb9 e0 e1 HTB HIN HLN hsm t4
        go_wp2_with fail
        refine HS6.out.mono ?_
        rintro e w10 ⟨rfl, hb10⟩
        have B10 := Lib.hid (bt B9.out hb10)
        clear hb10 HS6
        go_wp2_with fail
        go_roundw
        case rel => exact ⟨k + 1, by omega, by go_num, B10.out⟩
        case measure => simp [RowKit.intOf]; omega
      · obtain rfl : k = 5 := by omega
        go_wp2_with fail
        refine (rRanks_any _).mono ?_
        rintro e w11 ⟨Ss, hSl, rfl, hSs, hb11⟩
        have B11 := Lib.hid (bt BW.out hb11)
        have HON : Hid (∀ v ∈ Ss.map slV, v.oneCell' = true) := Lib.hid (fun v hv => by
          obtain ⟨s, _, rfl⟩ := List.mem_map.1 hv
          rfl)
        have HSS := Lib.hid (fun l (hl : l < 5) => And.intro (hSs l hl).1 ((hSs l hl).2.below (grows' w11 (.cells (Ss.map slV).toArray 38))))
        have B12 := Lib.hid (bt B11.out (grows' w11 (.cells (Ss.map slV).toArray 38)))
        have HSL := Lib.hid hSl
        have HML : Hid ((Ss.map slV).length = 5) := Lib.hid (by rw [List.length_map]; exact hSl)
        have HCL := Lib.hid (fun k (hk : k < 5) => show (w11.alloc (.cells (Ss.map slV).toArray 38)).cell? ⟨w11.heap.size, k, none⟩ = some (slV (Ss.getD k sl0)) from by
          rw [World.cell?_alloc_at _ _ _ _ rfl, List.getElem?_toArray, List.getElem?_map, some_at Ss sl0 k (by omega)]
          rfl)
        have G11 := Lib.hid (grows' w11 (.cells (Ss.map slV).toArray 38))
        have hs11 : w11.heap.size < (w11.alloc (.cells (Ss.map slV).toArray 38)).heap.size := by simp
        clear hb11 hSs hSl t4
        generalize hcs : Ss.map slV = cs at HON HML HCL G11 hs11 HSS B12 ⊢
        clear hcs
        have HSZ : Hid ((#[.slice none 0 0, .slice none 0 0, .slice none 0 0, .slice none 0 0, .slice none 0 0] : Array Value).size = cs.toArray.size) := Lib.hid (by rw [show cs.toArray.size = cs.length from List.size_toArray, HML.out]; rfl)
        go_wp2_with (refine Rm.wpList_store_new (w := w11) (op := ⟨none, .store 38 (.tmp 5) (.tmp 68), _, _, _, _⟩) rfl 38 (.tmp 5) (.tmp 68) rfl #[.slice none 0 0, .slice none 0 0, .slice none 0 0, .slice none 0 0, .slice none 0 0] cs.toArray rfl rfl (by rw [List.size_toArray, HML.out]; kernel_rfl) (HSZ.out) (all_oneCell_toArray HON.out) ?_)
        clear G11
        generalize w11.alloc (.cells cs.toArray 38) = w12 at HCL hs11 HSS B12 ⊢
        generalize w11.heap.size = bs at HCL hs11 ⊢
        clear B11 HON HML HSZ
        go_loopw [6] (fun v6 wr => ∃ k : Nat, k ≤ 5 ∧ v6 = .int .i64 (k : Nat) ∧ Below w12.heap.size w12 wr) (fun v6 _ => 5 - (RowKit.intOf v6).toNat)
        case atStart => exact ⟨0, by omega, rfl, Below.refl _ _⟩
        case round =>
          obtain ⟨k, hk, rfl, hbw⟩ := hrel
          have BZ := Lib.hid hbw
          clear hbw
          by_cases hlt : k < 5
          · have k1 : (0 : Int) ≤ (k : Int) := by omega
            have k2 : (k : Int) < 5 := by omega
            have hsk := HSS.out k hlt
            have hck := HCL.out k hlt
            have hn22 := rk_len (k : Int) 22
            have HRA := Lib.hid (fun W => refRank_any (k : Int) W k1 k2)
            unfold RankPost at HRA
            generalize Ss.getD k sl0 = s9 at hsk hck
            generalize rk (k : Int) 22 = L at hsk HRA hn22
            obtain ⟨sa, sn, sc⟩ := s9
            simp only [slV] at hck
            dsimp only at hsk
            have hsn : sn = L.length := hsk.1
            subst hsn
            have HCK := Lib.hid (fun W (hW : Below w12.heap.size w12 W) => show W.cell? ⟨bs, k, none⟩ = some (.slice sa L.length sc) ∧ Below w12.heap.size w12 W from ⟨(hW.cell (p := ⟨bs, k, none⟩) hs11).trans hck, hW⟩)
            have HLC := Lib.hid hsk.2
            clear hsk hck
            go_upto_region 14 with (fail)
            refine wp_region_noPanic ?_
            refine wp_region_held_drew (S := fun W : World => W.cell? ⟨bs, k, none⟩ = some (.slice sa L.length sc) ∧ Below w12.heap.size w12 W) (by kernel_rfl) (HCK.out _ (below_dr BZ.out 1)) (fun hHeld => ?_)
            first | (refine skipH (i := 0) (dst := some 73) rfl rfl (by kernel_rfl) (by kernel_rfl) (by kernel_rfl) (fun _ _ _ h => h) (by rfl) hHeld ?_) | (refine' takeH (i := 0) (dst := some 73) (v := _) rfl rfl (by kernel_rfl) (by kernel_rfl) (by kernel_rfl) (fun _ _ _ h => h) (by rfl) ?hy hHeld ?_; case hy => (intro w hSw; clear hSw; (first | done | go_simp); try with_reducible rfl)) | fail
            try simp only [Act.put, List.setIfInBounds_toArray, List.set_cons_zero, List.set_cons_succ]
            first | (refine skipH (i := 1) (dst := some 74) rfl rfl (by kernel_rfl) (by kernel_rfl) (by kernel_rfl) (fun _ _ _ h => h) (by rfl) hHeld ?_) | (refine' takeH (i := 1) (dst := some 74) (v := _) rfl rfl (by kernel_rfl) (by kernel_rfl) (by kernel_rfl) (fun _ _ _ h => h) (by rfl) ?hy hHeld ?_; case hy => (intro w hSw; clear hSw; (first | done | go_simp); try with_reducible rfl)) | fail
            try simp only [Act.put, List.setIfInBounds_toArray, List.set_cons_zero, List.set_cons_succ]
            first | (refine skipH (i := 2) (dst := some 75) rfl rfl (by kernel_rfl) (by kernel_rfl) (by kernel_rfl) (fun _ _ _ h => h) (by rfl) hHeld ?_) | (refine' takeH (i := 2) (dst := some 75) (v := _) rfl rfl (by kernel_rfl) (by kernel_rfl) (by kernel_rfl) (fun _ _ _ h => h) (by rfl) ?hy hHeld ?_; case hy => (intro w hSw; obtain ⟨_, _⟩ := hSw; (first | done | go_simp); try with_reducible rfl)) | fail
            try simp only [Act.put, List.setIfInBounds_toArray, List.set_cons_zero, List.set_cons_succ]
            first | (refine skipH (i := 3) (dst := some 76) rfl rfl (by kernel_rfl) (by kernel_rfl) (by kernel_rfl) (fun _ _ _ h => h) (by rfl) hHeld ?_) | (refine' takeH (i := 3) (dst := some 76) (v := _) rfl rfl (by kernel_rfl) (by kernel_rfl) (by kernel_rfl) (fun _ _ _ h => h) (by rfl) ?hy hHeld ?_; case hy => (intro w hSw; clear hSw; (first | done | go_simp); try with_reducible rfl)) | fail
            try simp only [Act.put, List.setIfInBounds_toArray, List.set_cons_zero, List.set_cons_succ]
            refine wpAnyH_ready (rs := [4]) (by kernel_rfl) (by simp) ?_
            refine AllReadyH.cons (i := 4) (o := ⟨some 77, .call _, _, _, _, _⟩) rfl (fun K hK => ?_) AllReadyH.nil
            go_simp
            refine (HRA.out _).mono ?_
            rintro e w13 ⟨A13, c13, rfl, hc13, hb13⟩
            have B13 := Lib.hid (bt hHeld.2 hb13)
            have hH := HCK.out w13 B13.out
            have HS9 := Lib.hid (sameTexts_any sa A13 sc c13 L.length L w13 rfl (by omega) (HLC.out.below B13.out) hc13)
            clear hc13 hb13
            refine hK.out _ _ hH (fun _ => ?_)
            clear hK K hHeld
            have hHeld := hH
            clear hH
            try simp only [Act.put, List.setIfInBounds_toArray, List.set_cons_zero, List.set_cons_succ]
            refine wpAnyH_ready (rs := [5]) (by kernel_rfl) (by simp) ?_
            refine AllReadyH.cons (i := 5) (o := ⟨some 78, .call _, _, _, _, _⟩) rfl (fun K hK => ?_) AllReadyH.nil
            go_simp
            refine HS9.out.mono ?_
            rintro e w14 ⟨rfl, hb14⟩
            have B14 := Lib.hid (bt B13.out hb14)
            have hH := HCK.out w14 B14.out
            clear hb14 HS9 B13
            refine hK.out _ _ hH (fun _ => ?_)
            clear hK K hHeld
            have hHeld := hH
            clear hH
            try simp only [Act.put, List.setIfInBounds_toArray, List.set_cons_zero, List.set_cons_succ]
            first | (refine skipH (i := 6) (dst := some 79) rfl rfl (by kernel_rfl) (by kernel_rfl) (by kernel_rfl) (fun _ _ _ h => h) (by rfl) hHeld ?_) | (refine' takeH (i := 6) (dst := some 79) (v := _) rfl rfl (by kernel_rfl) (by kernel_rfl) (by kernel_rfl) (fun _ _ _ h => h) (by rfl) ?hy hHeld ?_; case hy => (intro w hSw; clear hSw; (first | done | go_simp); try with_reducible rfl)) | fail
            try simp only [Act.put, List.setIfInBounds_toArray, List.set_cons_zero, List.set_cons_succ]
            refine wpAnyH_done (by kernel_rfl) (NoPanic.normal ?_) _
            clear hHeld
            go_wp2_with fail
            go_roundw
            case rel => exact ⟨k + 1, by omega, by go_num, B14.out⟩
            case measure => simp [RowKit.intOf]; omega
          · obtain rfl : k = 5 := by omega
            have HFIN := Lib.hid (bt HB.out (bt B12.out BZ.out))
            go_wp2_with fail
            go_ret
            exact ⟨rfl, HFIN.out⟩

  · go_simp
    have G6 := Lib.hid (grows' w5 (.cells #[.string ⟨#[99, 114, 121, 115, 116, 97, 108]⟩, .string ⟨#[115, 117, 112, 112, 108, 121]⟩, .string ⟨#[98, 117, 115]⟩, .string ⟨#[115, 101, 110, 115, 111, 114]⟩, .string ⟨#[114, 97, 100, 105, 111]⟩] 9))
    have CF : Hid (CellsIn (w5.alloc (.cells #[.string ⟨#[99, 114, 121, 115, 116, 97, 108]⟩, .string ⟨#[115, 117, 112, 112, 108, 121]⟩, .string ⟨#[98, 117, 115]⟩, .string ⟨#[115, 101, 110, 115, 111, 114]⟩, .string ⟨#[114, 97, 100, 105, 111]⟩] 9)) 1 (some ⟨w5.heap.size, 0, none⟩) 5 (Kc.strs Fams)) := Lib.hid (lit_cells w5 #[.string ⟨#[99, 114, 121, 115, 116, 97, 108]⟩, .string ⟨#[115, 117, 112, 112, 108, 121]⟩, .string ⟨#[98, 117, 115]⟩, .string ⟨#[115, 101, 110, 115, 111, 114]⟩, .string ⟨#[114, 97, 100, 105, 111]⟩] 9 1 5 rfl)
    have B6 := Lib.hid (bt B5.out G6.out)
    generalize hw6 : w5.alloc (.cells #[.string ⟨#[99, 114, 121, 115, 116, 97, 108]⟩, .string ⟨#[115, 117, 112, 112, 108, 121]⟩, .string ⟨#[98, 117, 115]⟩, .string ⟨#[115, 101, 110, 115, 111, 114]⟩, .string ⟨#[114, 97, 100, 105, 111]⟩] 9) = w6 at CF B6 ⊢
    clear hw6 G6
    have hH := HCW.out _ B6.out
    refine hK.out _ _ hH (fun _ => ?_)
    clear hK K hHeld
    have hHeld := hH
    clear hH
    try simp only [Act.put, List.setIfInBounds_toArray, List.set_cons_zero, List.set_cons_succ]
    refine wpAnyH_ready (rs := [19]) (by kernel_rfl) (by simp) ?_
    refine AllReadyH.cons (i := 19) (o := ⟨some 27, .call _, _, _, _, _⟩) rfl (fun K hK => ?_) AllReadyH.nil
    go_simp
    refine (families_any _).mono ?_
    rintro e w7 ⟨rfl, hw7⟩
    have G7 : Hid (Below w6.heap.size w6 w7) := Lib.hid (by rw [hw7]; exact grows' _ _)
    have CA : Hid (CellsIn w7 1 (some ⟨w6.heap.size, 0, none⟩) 5 (Kc.strs Fams)) := Lib.hid (by rw [hw7]; exact lit_cells w6 #[.string (str crystalN), .string (str supplyN), .string (str busN), .string (str sensorN), .string (str radioN)] 9 1 5 rfl)
    clear hw7
    have CB := Lib.hid (CF.out.below G7.out)
    have B7 := Lib.hid (bt B6.out G7.out)
    have hH := HCW.out _ B7.out
    refine hK.out _ _ hH (fun _ => ?_)
    clear hK K hHeld
    have hHeld := hH
    clear hH
    try simp only [Act.put, List.setIfInBounds_toArray, List.set_cons_zero, List.set_cons_succ]
    refine wpAnyH_ready (rs := [21]) (by kernel_rfl) (by simp) ?_
    refine AllReadyH.cons (i := 21) (o := ⟨some 29, .call _, _, _, _, _⟩) rfl (fun K hK => ?_) AllReadyH.nil
    go_simp
    refine (sameTexts_any _ _ 5 5 5 Fams _ rfl (by omega) CA.out CB.out).mono ?_
    rintro e w8 ⟨rfl, hb8⟩
    have B8 := Lib.hid (bt B7.out hb8)
    have hH := HCW.out w8 B8.out
    clear hb8 B7 CA CB
    refine hK.out _ _ hH (fun _ => ?_)
    clear hK K hHeld
    have hHeld := hH
    clear hH
    try simp only [Act.put, List.setIfInBounds_toArray, List.set_cons_zero, List.set_cons_succ]
    first | (refine skipH (i := 22) (dst := some 30) rfl rfl (by kernel_rfl) (by kernel_rfl) (by kernel_rfl) (fun _ _ _ h => h) (by rfl) hHeld ?_) | (refine' takeH (i := 22) (dst := some 30) (v := _) rfl rfl (by kernel_rfl) (by kernel_rfl) (by kernel_rfl) (fun _ _ _ h => h) (by rfl) ?hy hHeld ?_; case hy => (intro w hSw; clear hSw; (first | done | go_simp); try with_reducible rfl)) | fail
    try simp only [Act.put, List.setIfInBounds_toArray, List.set_cons_zero, List.set_cons_succ]
    first | (refine skipH (i := 23) (dst := some 31) rfl rfl (by kernel_rfl) (by kernel_rfl) (by kernel_rfl) (fun _ _ _ h => h) (by rfl) hHeld ?_) | (refine' takeH (i := 23) (dst := some 31) (v := _) rfl rfl (by kernel_rfl) (by kernel_rfl) (by kernel_rfl) (fun _ _ _ h => h) (by rfl) ?hy hHeld ?_; case hy => (intro w hSw; clear hSw; (first | done | go_simp); try with_reducible rfl)) | fail
    try simp only [Act.put, List.setIfInBounds_toArray, List.set_cons_zero, List.set_cons_succ]
    refine wpAnyH_done (by kernel_rfl) (NoPanic.normal ?_) _
    clear hHeld
    go_wp2_with fail
    go_loopw [2, 3, 4] (fun v2 v3 v4 wr => ∃ k : Nat, k ≤ 5 ∧ v2 = .int .i64 (k : Nat) ∧ Below w1.heap.size w1 wr) (fun v2 _ _ _ => 5 - (RowKit.intOf v2).toNat)
    case atStart => exact ⟨0, by omega, rfl, B8.out⟩
    case round =>
      clear B8
      obtain ⟨k, hk, rfl, hbw⟩ := hrel
      have BW := Lib.hid hbw
      clear hbw
      have t4 := HCT.out wr BW.out
      by_cases hlt : k < 5
      · have k1 : (0 : Int) ≤ (k : Int) := by omega
        have k2 : (k : Int) < 5 := by omega
        have hfx := tab_facts k hlt
        obtain ⟨bb, oo, hta, hbs, hc, hlen, hin⟩ := (HRT.out.below BW.out).rows.at hlt
        have e0 : wr.cell? ⟨bb, oo + k * 2, none⟩ = some (.string (str ((tabsI 5).getD k tn0).1)) := hc 0 _ rfl
        have e1 : wr.cell? ⟨bb, oo + k * 2 + 1, none⟩ = some (slV (RT.getD k sl0)) := hc 1 _ rfl
        have HIN : Hid (CellsIn wr 1 (RT.getD k sl0).1 (RT.getD k sl0).2.1 (i64s ((tabsI 5).getD k tn0).2)) := Lib.hid hin
        have HLN : Hid ((RT.getD k sl0).2.1 = ((tabsI 5).getD k tn0).2.length) := Lib.hid hlen
        have hsm := tabsI_small 5 (Nat.le_refl _) k
        clear hc hin hlen
        rw [hta] at t4
        have HTB := Lib.hid (rTable_any ((tabsI 5).getD k tn0).1 wr (HT.out.below (bt HB.out BW.out)) (Nat.le_trans hfx.2.2 (by unfold maxLen; omega)))
        unfold TablePost at HTB
        rw [hfx.1, if_neg hfx.2.1] at HTB
        clear hfx
        generalize str ((tabsI 5).getD k tn0).1 = X at e0 HTB
        generalize ((tabsI 5).getD k tn0).2 = lk at HTB HIN HLN hsm
        generalize RT.getD k sl0 = rq at e1 HIN HLN
        obtain ⟨ra, rn, rc⟩ := rq
        simp only [slV] at e1
        dsimp only at HIN HLN
        have hrn : rn = lk.length := HLN.out
        subst hrn
        go_wp2_with fail
        refine HTB.out.mono ?_
        rintro e w9 ⟨A9, c9, rfl, hc9, hb9⟩
        have t4b : w9.cell? ⟨w.heap.size, 4, none⟩ = some (.slice ta 5 tc) := HCT.out w9 (bt BW.out hb9)
        rw [hta] at t4b
        have e1b : w9.cell? ⟨bb, oo + k * 2 + 1, none⟩ = some (.slice ra lk.length rc) := (hb9.cell (p := ⟨bb, oo + k * 2 + 1, none⟩) hbs).trans e1
        have HS6 := Lib.hid (same64_any A9 ra c9 rc lk.length lk w9 rfl (by omega) hc9 (HIN.out.below hb9))
        have B9 := Lib.hid (bt BW.out hb9)
        clear hc9 hb9 e0 e1 HTB HIN HLN hsm t4
        go_wp2_with fail
        refine HS6.out.mono ?_
        rintro e w10 ⟨rfl, hb10⟩
        have B10 := Lib.hid (bt B9.out hb10)
        clear hb10 HS6
        go_wp2_with fail
        go_roundw
        case rel => exact ⟨k + 1, by omega, by go_num, B10.out⟩
        case measure => simp [RowKit.intOf]; omega
      · obtain rfl : k = 5 := by omega
        go_wp2_with fail
        refine (rRanks_any _).mono ?_
        rintro e w11 ⟨Ss, hSl, rfl, hSs, hb11⟩
        have B11 := Lib.hid (bt BW.out hb11)
        have HON : Hid (∀ v ∈ Ss.map slV, v.oneCell' = true) := Lib.hid (fun v hv => by
          obtain ⟨s, _, rfl⟩ := List.mem_map.1 hv
          rfl)
        have HSS := Lib.hid (fun l (hl : l < 5) => And.intro (hSs l hl).1 ((hSs l hl).2.below (grows' w11 (.cells (Ss.map slV).toArray 38))))
        have B12 := Lib.hid (bt B11.out (grows' w11 (.cells (Ss.map slV).toArray 38)))
        have HSL := Lib.hid hSl
        have HML : Hid ((Ss.map slV).length = 5) := Lib.hid (by rw [List.length_map]; exact hSl)
        have HCL := Lib.hid (fun k (hk : k < 5) => show (w11.alloc (.cells (Ss.map slV).toArray 38)).cell? ⟨w11.heap.size, k, none⟩ = some (slV (Ss.getD k sl0)) from by
          rw [World.cell?_alloc_at _ _ _ _ rfl, List.getElem?_toArray, List.getElem?_map, some_at Ss sl0 k (by omega)]
          rfl)
        have G11 := Lib.hid (grows' w11 (.cells (Ss.map slV).toArray 38))
        have hs11 : w11.heap.size < (w11.alloc (.cells (Ss.map slV).toArray 38)).heap.size := by simp
        clear hb11 hSs hSl t4
        generalize hcs : Ss.map slV = cs at HON HML HCL G11 hs11 HSS B12 ⊢
        clear hcs
        have HSZ : Hid ((#[.slice none 0 0, .slice none 0 0, .slice none 0 0, .slice none 0 0, .slice none 0 0] : Array Value).size = cs.toArray.size) := Lib.hid (by rw [show cs.toArray.size = cs.length from List.size_toArray, HML.out]; rfl)
        go_wp2_with (refine Rm.wpList_store_new (w := w11) (op := ⟨none, .store 38 (.tmp 5) (.tmp 68), _, _, _, _⟩) rfl 38 (.tmp 5) (.tmp 68) rfl #[.slice none 0 0, .slice none 0 0, .slice none 0 0, .slice none 0 0, .slice none 0 0] cs.toArray rfl rfl (by rw [List.size_toArray, HML.out]; kernel_rfl) (HSZ.out) (all_oneCell_toArray HON.out) ?_)
        clear G11
        generalize w11.alloc (.cells cs.toArray 38) = w12 at HCL hs11 HSS B12 ⊢
        generalize w11.heap.size = bs at HCL hs11 ⊢
        clear B11 HON HML HSZ
        go_loopw [6] (fun v6 wr => ∃ k : Nat, k ≤ 5 ∧ v6 = .int .i64 (k : Nat) ∧ Below w12.heap.size w12 wr) (fun v6 _ => 5 - (RowKit.intOf v6).toNat)
        case atStart => exact ⟨0, by omega, rfl, Below.refl _ _⟩
        case round =>
          obtain ⟨k, hk, rfl, hbw⟩ := hrel
          have BZ := Lib.hid hbw
          clear hbw
          by_cases hlt : k < 5
          · have k1 : (0 : Int) ≤ (k : Int) := by omega
            have k2 : (k : Int) < 5 := by omega
            have hsk := HSS.out k hlt
            have hck := HCL.out k hlt
            have hn22 := rk_len (k : Int) 22
            have HRA := Lib.hid (fun W => refRank_any (k : Int) W k1 k2)
            unfold RankPost at HRA
            generalize Ss.getD k sl0 = s9 at hsk hck
            generalize rk (k : Int) 22 = L at hsk HRA hn22
            obtain ⟨sa, sn, sc⟩ := s9
            simp only [slV] at hck
            dsimp only at hsk
            have hsn : sn = L.length := hsk.1
            subst hsn
            have HCK := Lib.hid (fun W (hW : Below w12.heap.size w12 W) => show W.cell? ⟨bs, k, none⟩ = some (.slice sa L.length sc) ∧ Below w12.heap.size w12 W from ⟨(hW.cell (p := ⟨bs, k, none⟩) hs11).trans hck, hW⟩)
            have HLC := Lib.hid hsk.2
            clear hsk hck
            go_upto_region 14 with (fail)
            refine wp_region_noPanic ?_
            refine wp_region_held_drew (S := fun W : World => W.cell? ⟨bs, k, none⟩ = some (.slice sa L.length sc) ∧ Below w12.heap.size w12 W) (by kernel_rfl) (HCK.out _ (below_dr BZ.out 1)) (fun hHeld => ?_)
            first | (refine skipH (i := 0) (dst := some 73) rfl rfl (by kernel_rfl) (by kernel_rfl) (by kernel_rfl) (fun _ _ _ h => h) (by rfl) hHeld ?_) | (refine' takeH (i := 0) (dst := some 73) (v := _) rfl rfl (by kernel_rfl) (by kernel_rfl) (by kernel_rfl) (fun _ _ _ h => h) (by rfl) ?hy hHeld ?_; case hy => (intro w hSw; clear hSw; (first | done | go_simp); try with_reducible rfl)) | fail
            try simp only [Act.put, List.setIfInBounds_toArray, List.set_cons_zero, List.set_cons_succ]
            first | (refine skipH (i := 1) (dst := some 74) rfl rfl (by kernel_rfl) (by kernel_rfl) (by kernel_rfl) (fun _ _ _ h => h) (by rfl) hHeld ?_) | (refine' takeH (i := 1) (dst := some 74) (v := _) rfl rfl (by kernel_rfl) (by kernel_rfl) (by kernel_rfl) (fun _ _ _ h => h) (by rfl) ?hy hHeld ?_; case hy => (intro w hSw; clear hSw; (first | done | go_simp); try with_reducible rfl)) | fail
            try simp only [Act.put, List.setIfInBounds_toArray, List.set_cons_zero, List.set_cons_succ]
            first | (refine skipH (i := 2) (dst := some 75) rfl rfl (by kernel_rfl) (by kernel_rfl) (by kernel_rfl) (fun _ _ _ h => h) (by rfl) hHeld ?_) | (refine' takeH (i := 2) (dst := some 75) (v := _) rfl rfl (by kernel_rfl) (by kernel_rfl) (by kernel_rfl) (fun _ _ _ h => h) (by rfl) ?hy hHeld ?_; case hy => (intro w hSw; obtain ⟨_, _⟩ := hSw; (first | done | go_simp); try with_reducible rfl)) | fail
            try simp only [Act.put, List.setIfInBounds_toArray, List.set_cons_zero, List.set_cons_succ]
            first | (refine skipH (i := 3) (dst := some 76) rfl rfl (by kernel_rfl) (by kernel_rfl) (by kernel_rfl) (fun _ _ _ h => h) (by rfl) hHeld ?_) | (refine' takeH (i := 3) (dst := some 76) (v := _) rfl rfl (by kernel_rfl) (by kernel_rfl) (by kernel_rfl) (fun _ _ _ h => h) (by rfl) ?hy hHeld ?_; case hy => (intro w hSw; clear hSw; (first | done | go_simp); try with_reducible rfl)) | fail
            try simp only [Act.put, List.setIfInBounds_toArray, List.set_cons_zero, List.set_cons_succ]
            refine wpAnyH_ready (rs := [4]) (by kernel_rfl) (by simp) ?_
            refine AllReadyH.cons (i := 4) (o := ⟨some 77, .call _, _, _, _, _⟩) rfl (fun K hK => ?_) AllReadyH.nil
            go_simp
            refine (HRA.out _).mono ?_
            rintro e w13 ⟨A13, c13, rfl, hc13, hb13⟩
            have B13 := Lib.hid (bt hHeld.2 hb13)
            have hH := HCK.out w13 B13.out
            have HS9 := Lib.hid (sameTexts_any sa A13 sc c13 L.length L w13 rfl (by omega) (HLC.out.below B13.out) hc13)
            clear hc13 hb13
            refine hK.out _ _ hH (fun _ => ?_)
            clear hK K hHeld
            have hHeld := hH
            clear hH
            try simp only [Act.put, List.setIfInBounds_toArray, List.set_cons_zero, List.set_cons_succ]
            refine wpAnyH_ready (rs := [5]) (by kernel_rfl) (by simp) ?_
            refine AllReadyH.cons (i := 5) (o := ⟨some 78, .call _, _, _, _, _⟩) rfl (fun K hK => ?_) AllReadyH.nil
            go_simp
            refine HS9.out.mono ?_
            rintro e w14 ⟨rfl, hb14⟩
            have B14 := Lib.hid (bt B13.out hb14)
            have hH := HCK.out w14 B14.out
            clear hb14 HS9 B13
            refine hK.out _ _ hH (fun _ => ?_)
            clear hK K hHeld
            have hHeld := hH
            clear hH
            try simp only [Act.put, List.setIfInBounds_toArray, List.set_cons_zero, List.set_cons_succ]
            first | (refine skipH (i := 6) (dst := some 79) rfl rfl (by kernel_rfl) (by kernel_rfl) (by kernel_rfl) (fun _ _ _ h => h) (by rfl) hHeld ?_) | (refine' takeH (i := 6) (dst := some 79) (v := _) rfl rfl (by kernel_rfl) (by kernel_rfl) (by kernel_rfl) (fun _ _ _ h => h) (by rfl) ?hy hHeld ?_; case hy => (intro w hSw; clear hSw; (first | done | go_simp); try with_reducible rfl)) | fail
            try simp only [Act.put, List.setIfInBounds_toArray, List.set_cons_zero, List.set_cons_succ]
            refine wpAnyH_done (by kernel_rfl) (NoPanic.normal ?_) _
            clear hHeld
            go_wp2_with fail
            go_roundw
            case rel => exact ⟨k + 1, by omega, by go_num, B14.out⟩
            case measure => simp [RowKit.intOf]; omega
          · obtain rfl : k = 5 := by omega
            have HFIN := Lib.hid (bt HB.out (bt B12.out BZ.out))
            go_wp2_with fail
            go_ret
            exact ⟨rfl, HFIN.out⟩

end Go.Proofs.YtnnaoneegeenkaaDoor.Kq
