/- The law CrystalKeeps. -/
import Derived.Test.YthalnepbafnogaaDoorCrS
import Derived.Test.YthalnepbafnogaaDoorCrL
import Derived.Deep.DeepCutAuto
import Derived.Deep.CutBlock
namespace Go.Proofs.YthalnepbafnogaaDoor.Cr
open Go.ChangeShapes Go.WideShapes Go.ChangeAt Go.RowKit Own Ro

/-- A step's three numbers. -/
abbrev St := Int × Int × Int
def stV (s : St) : List Value := [.int .i64 s.1, .int .i64 s.2.1, .int .i64 s.2.2]
def stepsV (l : List St) : List Value := l.flatMap stV
theorem stV_len (s : St) : (stV s).length = 3 := rfl
theorem steps_at (l : List St) (i j : Nat) (hi : i < l.length) (hj : j < 3) : (stepsV l)[i * 3 + j]? = (stV (l.getD i (0, 0, 0)))[j]? := by
  unfold stepsV
  rw [flat_at _ _ stV_len l i j hj, some_at l (0, 0, 0) i hi]
  rfl
theorem rises : ∀ k < 31, ent (k : Nat) < ent ((k + 1 : Nat)) := by decide
set_option maxRecDepth 100000 in
set_option maxHeartbeats 8000000 in
theorem keeps_any (A : Option Addr) (c n : Nat) (l : List St) (w : World) (hn : n = l.length) (hb : n ≤ 9223372036854775807) (hs : CellsIn w 3 A n (stepsV l)) (hmax : ∀ i, (l.getD i (0, 0, 0)).2.1 ≤ 9223372036854775807) (h : Tb w) :
    Calls Tryd.prog 6 #[.slice A n c] w (fun e w' => e = .returned (.bool true) ∧ Below w.heap.size w w') := by
  have HT := Lib.hid h
  have HN := Lib.hid hn
  have GA := Lib.hid hs
  have HM := Lib.hid hmax
  clear h hn hs hmax
  go_enter Tryd.func6, Tryd.ntmps6
  go_wp2_with fail
  refine (awake_any w HT.out).mono ?_
  rintro e w1 ⟨rfl, q, rfl⟩
  have B0 := Lib.hid (below_dr (Below.refl w.heap.size w) q)
  have HT0 := Lib.hid (Tb.below HT.out B0.out)
  generalize w.drewN q = W0 at B0 HT0 ⊢
  go_wp2_with fail
  refine (table_any W0 HT0.out).mono ?_
  rintro e w3 ⟨rfl, hb3⟩
  have HB3 := Lib.hid (bt B0.out hb3)
  have HT3 := Lib.hid (Tb.below HT0.out hb3)
  clear hb3
  go_wp2_with (first | refine wpList_store_new rfl _ _ _ rfl _ tabV.toArray rfl rfl (by kernel_rfl) (by kernel_rfl) (by kernel_rfl) ?_)
  have HR := Lib.hid (range_new w3 22 tabV)
  have HC := Lib.hid (tab_new w3)
  have HB4 := Lib.hid (bt HB3.out (grows' w3 (.cells tabV.toArray 22)))
  have HT4 := Lib.hid (Tb.alloc HT3.out (.cells tabV.toArray 22))
  generalize w3.alloc (.cells tabV.toArray 22) = W at HR HC HB4 HT4 ⊢
  generalize w3.heap.size = g at HR HC ⊢
  go_loopw [4] (fun v4 wr => ∃ (k : Nat), 1 ≤ k ∧ k ≤ 32 ∧ v4 = .int .i64 (k : Int) ∧ ∃ q, wr = W.drewN q) (fun v4 _ => 32 - (RowKit.intOf v4).toNat)
  case atStart => exact ⟨1, by omega, by omega, rfl, 0, rfl⟩
  case round =>
    obtain ⟨k, hk1, hk, rfl, q1, rfl⟩ := hrel
    by_cases hlt : k < 32
    · have l0 : (1 : Int) ≤ (k : Int) := by omega
      have l2 : (k : Int) < 32 := by omega
      obtain ⟨m, rfl⟩ : ∃ m, k = m + 1 := ⟨k - 1, by omega⟩
      have c0 := HC.out m (by omega)
      have c1 := HC.out (m + 1) hlt
      have hr := rises m (by omega)
      generalize ent (m : Nat) = a at c0 hr
      generalize ent ((m + 1 : Nat)) = b at c1 hr
      have hr2 : decide (b ≤ a) = false := by simp; omega
      go_wp2_with fail
      go_region
      all_goals go_wp2_with fail
      all_goals go_roundw
      case rel => exact ⟨m + 2, by omega, by omega, by go_num, _, rfl⟩
      case measure => simp [RowKit.intOf]; omega
    · have hge : decide ((k : Int) < 32) = false := by simp; omega
      clear hk1 hk hlt
      go_wp2_with fail
      clear hge
      generalize (k : Int) = kv
      have HB5 := Lib.hid (below_dr HB4.out q1)
      have HT5 := Lib.hid (Tb.below HT4.out (below_dr (Below.refl _ _) q1))
      have HR5 := Lib.hid (show (W.drewN q1).rangeAt g 0 tabV from HR.out)
      generalize W.drewN q1 = V at HB5 HT5 HR5 ⊢
      go_loopw [5] (fun v5 wr => ∃ (k : Nat), k ≤ n ∧ v5 = .int .i64 (k : Int) ∧ Below V.heap.size V wr) (fun v5 _ => n - (RowKit.intOf v5).toNat)
      case atStart => exact ⟨0, by omega, rfl, Below.refl _ _⟩
      case round =>
        obtain ⟨k, hk, rfl, hbr⟩ := hrel
        have HBr := Lib.hid hbr
        have HTr := Lib.hid (Tb.below HT5.out hbr)
        have HRr := Lib.hid (fun V2 (hV : Below wr.heap.size wr V2) => show V2.rangeAt g 0 tabV from fun j v hv => by
          have := HR5.out j v hv
          rw [(bt hbr hV).cell (cell_lt this)]
          exact this)
        by_cases hlt : k < n
        · have l1 : (0 : Int) ≤ (k : Int) := by omega
          have l2 : (k : Int) < (n : Int) := by omega
          obtain ⟨b, o, rfl, hbs, hc1⟩ := GA.out.at (by omega)
          have e0 := hc1 (k * 3 + 0) _ (steps_at l k 0 (by rw [← HN.out]; exact hlt) (by decide))
          have e1 := hc1 (k * 3 + 1) _ (steps_at l k 1 (by rw [← HN.out]; exact hlt) (by decide))
          have e2 := hc1 (k * 3 + 2) _ (steps_at l k 2 (by rw [← HN.out]; exact hlt) (by decide))
          have hm := HM.out k
          generalize l.getD k (0, 0, 0) = s at e0 e1 e2 hm
          obtain ⟨kd, sa, sb⟩ := s
          have HCL := Lib.hid (fun V2 (hV : Below V.heap.size V V2) => show V2.cell? ⟨b, o + k * 3, none⟩ = some (.int .i64 kd) ∧ V2.cell? ⟨b, o + k * 3 + 1, none⟩ = some (.int .i64 sa) ∧ V2.cell? ⟨b, o + k * 3 + 2, none⟩ = some (.int .i64 sb) from
            ⟨by rw [(bt HB5.out hV).cell (p := ⟨b, o + k * 3, none⟩) hbs]; exact e0, by rw [(bt HB5.out hV).cell (p := ⟨b, o + k * 3 + 1, none⟩) hbs]; exact e1, by rw [(bt HB5.out hV).cell (p := ⟨b, o + k * 3 + 2, none⟩) hbs]; exact e2⟩)
          have HMx := Lib.hid (show sa ≤ 9223372036854775807 from hm)
          clear e0 e1 e2 hm hc1 hbs hbr
          go_wp2_with fail
          refine (table_any wr HTr.out).mono ?_
          rintro e w5 ⟨rfl, hb5⟩
          have B5 := Lib.hid (bt HBr.out hb5)
          have hgt : V.heap.size ≤ w5.heap.size := B5.out.size
          clear hb5
          go_upto_region 13 with (first | refine wpList_store_new rfl _ _ _ rfl _ tabV.toArray rfl rfl (by kernel_rfl) (by kernel_rfl) (by kernel_rfl) ?_)
          have HVU := Lib.hid (bt B5.out (grows' w5 (.cells tabV.toArray 22)))
          have HTH := Lib.hid (there_new w5 22)
          generalize w5.alloc (.cells tabV.toArray 22) = U at HVU HTH ⊢
          generalize w5.heap.size = gt at hgt HTH ⊢
          clear B5 HBr HTr HRr
          have HTU := Lib.hid (Tb.below HT5.out HVU.out)
          obtain ⟨f0, f1, f2⟩ := HCL.out U HVU.out
          go_upto_block 4 with fail
          go_cut [] (fun wx => Below U.heap.size U wx)
          case first =>
            by_cases k0 : kd = 0
            · have t0 : (kd == 0) = true := by simp [k0]
              clear k0
              go_wp2_with fail
              refine (near_any sa U HTU.out HMx.out).mono ?_
              rintro e w6 ⟨rfl, hb6⟩
              go_wp2_with fail
              go_meet
              exact hb6
            · have t0 : (kd == 0) = false := by simp [k0]
              clear k0
              by_cases k1 : kd = 1
              · have t1 : (kd == 1) = true := by simp [k1]
                clear k1
                go_wp2_with fail
                refine (rate_any sa U HTU.out).mono ?_
                rintro e w6 ⟨rfl, rfl⟩
                go_wp2_with fail
                go_meet
                exact Below.refl _ _
              · have t1 : (kd == 1) = false := by simp [k1]
                clear k1
                have HCU := Lib.hid (fun V2 (hV : Below U.heap.size U V2) => show V2.cell? ⟨b, o + k * 3 + 1, none⟩ = some (.int .i64 sa) ∧ V2.cell? ⟨b, o + k * 3 + 2, none⟩ = some (.int .i64 sb) ∧ Below U.heap.size U V2 from
                  ⟨(HCL.out V2 (bt HVU.out hV)).2.1, (HCL.out V2 (bt HVU.out hV)).2.2, hV⟩)
                by_cases k2 : kd = 2
                · have t2 : (kd == 2) = true := by simp [k2]
                  clear k2
                  go_wp2_with fail
                  refine wp_region_noPanic ?_
                  refine wp_region_held_drew (S := fun w' => w'.cell? ⟨b, o + k * 3 + 1, none⟩ = some (.int .i64 sa) ∧ w'.cell? ⟨b, o + k * 3 + 2, none⟩ = some (.int .i64 sb) ∧ Below U.heap.size U w') (by kernel_rfl) (HCU.out _ (below_dr (Below.refl _ _) 1)) (fun hHeld => ?_)
                  first | (refine skipH (i := 0) (dst := some 65) rfl rfl (by kernel_rfl) (by kernel_rfl) (by kernel_rfl) (fun _ _ _ h => h) (by rfl) hHeld ?_) | (refine' takeH (i := 0) (dst := some 65) (v := _) rfl rfl (by kernel_rfl) (by kernel_rfl) (by kernel_rfl) (fun _ _ _ h => h) (by rfl) ?hy hHeld ?_; case hy => (intro w hSw; clear hSw; (first | done | go_simp); try with_reducible rfl)) | fail
                  try simp only [Act.put, List.setIfInBounds_toArray, List.set_cons_zero, List.set_cons_succ]
                  first | (refine skipH (i := 1) (dst := some 66) rfl rfl (by kernel_rfl) (by kernel_rfl) (by kernel_rfl) (fun _ _ _ h => h) (by rfl) hHeld ?_) | (refine' takeH (i := 1) (dst := some 66) (v := _) rfl rfl (by kernel_rfl) (by kernel_rfl) (by kernel_rfl) (fun _ _ _ h => h) (by rfl) ?hy hHeld ?_; case hy => (intro w hSw; clear hSw; (first | done | go_simp); try with_reducible rfl)) | fail
                  try simp only [Act.put, List.setIfInBounds_toArray, List.set_cons_zero, List.set_cons_succ]
                  first | (refine skipH (i := 2) (dst := some 67) rfl rfl (by kernel_rfl) (by kernel_rfl) (by kernel_rfl) (fun _ _ _ h => h) (by rfl) hHeld ?_) | (refine' takeH (i := 2) (dst := some 67) (v := _) rfl rfl (by kernel_rfl) (by kernel_rfl) (by kernel_rfl) (fun _ _ _ h => h) (by rfl) ?hy hHeld ?_; case hy => (intro w hSw; clear hSw; (first | done | go_simp); try with_reducible rfl)) | fail
                  try simp only [Act.put, List.setIfInBounds_toArray, List.set_cons_zero, List.set_cons_succ]
                  first | (refine skipH (i := 3) (dst := some 68) rfl rfl (by kernel_rfl) (by kernel_rfl) (by kernel_rfl) (fun _ _ _ h => h) (by rfl) hHeld ?_) | (refine' takeH (i := 3) (dst := some 68) (v := _) rfl rfl (by kernel_rfl) (by kernel_rfl) (by kernel_rfl) (fun _ _ _ h => h) (by rfl) ?hy hHeld ?_; case hy => (intro w hSw; clear hSw; (first | done | go_simp); try with_reducible rfl)) | fail
                  try simp only [Act.put, List.setIfInBounds_toArray, List.set_cons_zero, List.set_cons_succ]
                  first | (refine skipH (i := 4) (dst := some 69) rfl rfl (by kernel_rfl) (by kernel_rfl) (by kernel_rfl) (fun _ _ _ h => h) (by rfl) hHeld ?_) | (refine' takeH (i := 4) (dst := some 69) (v := _) rfl rfl (by kernel_rfl) (by kernel_rfl) (by kernel_rfl) (fun _ _ _ h => h) (by rfl) ?hy hHeld ?_; case hy => (intro w hSw; obtain ⟨_, _, _⟩ := hSw; (first | done | go_simp); try with_reducible rfl)) | fail
                  try simp only [Act.put, List.setIfInBounds_toArray, List.set_cons_zero, List.set_cons_succ]
                  first | (refine skipH (i := 5) (dst := some 70) rfl rfl (by kernel_rfl) (by kernel_rfl) (by kernel_rfl) (fun _ _ _ h => h) (by rfl) hHeld ?_) | (refine' takeH (i := 5) (dst := some 70) (v := _) rfl rfl (by kernel_rfl) (by kernel_rfl) (by kernel_rfl) (fun _ _ _ h => h) (by rfl) ?hy hHeld ?_; case hy => (intro w hSw; clear hSw; (first | done | go_simp); try with_reducible rfl)) | fail
                  try simp only [Act.put, List.setIfInBounds_toArray, List.set_cons_zero, List.set_cons_succ]
                  first | (refine skipH (i := 6) (dst := some 71) rfl rfl (by kernel_rfl) (by kernel_rfl) (by kernel_rfl) (fun _ _ _ h => h) (by rfl) hHeld ?_) | (refine' takeH (i := 6) (dst := some 71) (v := _) rfl rfl (by kernel_rfl) (by kernel_rfl) (by kernel_rfl) (fun _ _ _ h => h) (by rfl) ?hy hHeld ?_; case hy => (intro w hSw; clear hSw; (first | done | go_simp); try with_reducible rfl)) | fail
                  try simp only [Act.put, List.setIfInBounds_toArray, List.set_cons_zero, List.set_cons_succ]
                  first | (refine skipH (i := 7) (dst := some 72) rfl rfl (by kernel_rfl) (by kernel_rfl) (by kernel_rfl) (fun _ _ _ h => h) (by rfl) hHeld ?_) | (refine' takeH (i := 7) (dst := some 72) (v := _) rfl rfl (by kernel_rfl) (by kernel_rfl) (by kernel_rfl) (fun _ _ _ h => h) (by rfl) ?hy hHeld ?_; case hy => (intro w hSw; clear hSw; (first | done | go_simp); try with_reducible rfl)) | fail
                  try simp only [Act.put, List.setIfInBounds_toArray, List.set_cons_zero, List.set_cons_succ]
                  first | (refine skipH (i := 8) (dst := some 73) rfl rfl (by kernel_rfl) (by kernel_rfl) (by kernel_rfl) (fun _ _ _ h => h) (by rfl) hHeld ?_) | (refine' takeH (i := 8) (dst := some 73) (v := _) rfl rfl (by kernel_rfl) (by kernel_rfl) (by kernel_rfl) (fun _ _ _ h => h) (by rfl) ?hy hHeld ?_; case hy => (intro w hSw; clear hSw; (first | done | go_simp); try with_reducible rfl)) | fail
                  try simp only [Act.put, List.setIfInBounds_toArray, List.set_cons_zero, List.set_cons_succ]
                  first | (refine skipH (i := 9) (dst := some 74) rfl rfl (by kernel_rfl) (by kernel_rfl) (by kernel_rfl) (fun _ _ _ h => h) (by rfl) hHeld ?_) | (refine' takeH (i := 9) (dst := some 74) (v := _) rfl rfl (by kernel_rfl) (by kernel_rfl) (by kernel_rfl) (fun _ _ _ h => h) (by rfl) ?hy hHeld ?_; case hy => (intro w hSw; obtain ⟨_, _, _⟩ := hSw; (first | done | go_simp); try with_reducible rfl)) | fail
                  try simp only [Act.put, List.setIfInBounds_toArray, List.set_cons_zero, List.set_cons_succ]
                  refine wpAnyH_ready (rs := [10]) (by kernel_rfl) (by simp) ?_
                  refine AllReadyH.cons (i := 10) (o := ⟨some 75, .call _, _, _, _, _⟩) rfl (fun K hK => ?_) AllReadyH.nil
                  go_simp
                  refine (divider_any _ _ _).mono ?_
                  rintro e w6 ⟨rfl, rfl⟩
                  have hH := hHeld
                  refine hK.out _ _ hH (fun _ => ?_)
                  clear hK K hHeld
                  have hHeld := hH
                  clear hH
                  try simp only [Act.put, List.setIfInBounds_toArray, List.set_cons_zero, List.set_cons_succ]
                  refine wpAnyH_done (by kernel_rfl) (NoPanic.normal ?_) _
                  go_wp2_with fail
                  go_meet
                  exact hHeld.2.2
                · have t2 : (kd == 2) = false := by simp [k2]
                  clear k2
                  go_wp2_with fail
                  refine wp_region_noPanic ?_
                  refine wp_region_held_drew (S := fun w' => w'.cell? ⟨b, o + k * 3 + 1, none⟩ = some (.int .i64 sa) ∧ w'.cell? ⟨b, o + k * 3 + 2, none⟩ = some (.int .i64 sb) ∧ Below U.heap.size U w') (by kernel_rfl) (HCU.out _ (below_dr (Below.refl _ _) 1)) (fun hHeld => ?_)
                  first | (refine skipH (i := 0) (dst := some 35) rfl rfl (by kernel_rfl) (by kernel_rfl) (by kernel_rfl) (fun _ _ _ h => h) (by rfl) hHeld ?_) | (refine' takeH (i := 0) (dst := some 35) (v := _) rfl rfl (by kernel_rfl) (by kernel_rfl) (by kernel_rfl) (fun _ _ _ h => h) (by rfl) ?hy hHeld ?_; case hy => (intro w hSw; clear hSw; (first | done | go_simp); try with_reducible rfl)) | fail
                  try simp only [Act.put, List.setIfInBounds_toArray, List.set_cons_zero, List.set_cons_succ]
                  first | (refine skipH (i := 1) (dst := some 36) rfl rfl (by kernel_rfl) (by kernel_rfl) (by kernel_rfl) (fun _ _ _ h => h) (by rfl) hHeld ?_) | (refine' takeH (i := 1) (dst := some 36) (v := _) rfl rfl (by kernel_rfl) (by kernel_rfl) (by kernel_rfl) (fun _ _ _ h => h) (by rfl) ?hy hHeld ?_; case hy => (intro w hSw; clear hSw; (first | done | go_simp); try with_reducible rfl)) | fail
                  try simp only [Act.put, List.setIfInBounds_toArray, List.set_cons_zero, List.set_cons_succ]
                  first | (refine skipH (i := 2) (dst := some 37) rfl rfl (by kernel_rfl) (by kernel_rfl) (by kernel_rfl) (fun _ _ _ h => h) (by rfl) hHeld ?_) | (refine' takeH (i := 2) (dst := some 37) (v := _) rfl rfl (by kernel_rfl) (by kernel_rfl) (by kernel_rfl) (fun _ _ _ h => h) (by rfl) ?hy hHeld ?_; case hy => (intro w hSw; clear hSw; (first | done | go_simp); try with_reducible rfl)) | fail
                  try simp only [Act.put, List.setIfInBounds_toArray, List.set_cons_zero, List.set_cons_succ]
                  first | (refine skipH (i := 3) (dst := some 38) rfl rfl (by kernel_rfl) (by kernel_rfl) (by kernel_rfl) (fun _ _ _ h => h) (by rfl) hHeld ?_) | (refine' takeH (i := 3) (dst := some 38) (v := _) rfl rfl (by kernel_rfl) (by kernel_rfl) (by kernel_rfl) (fun _ _ _ h => h) (by rfl) ?hy hHeld ?_; case hy => (intro w hSw; clear hSw; (first | done | go_simp); try with_reducible rfl)) | fail
                  try simp only [Act.put, List.setIfInBounds_toArray, List.set_cons_zero, List.set_cons_succ]
                  first | (refine skipH (i := 4) (dst := some 39) rfl rfl (by kernel_rfl) (by kernel_rfl) (by kernel_rfl) (fun _ _ _ h => h) (by rfl) hHeld ?_) | (refine' takeH (i := 4) (dst := some 39) (v := _) rfl rfl (by kernel_rfl) (by kernel_rfl) (by kernel_rfl) (fun _ _ _ h => h) (by rfl) ?hy hHeld ?_; case hy => (intro w hSw; obtain ⟨_, _, _⟩ := hSw; (first | done | go_simp); try with_reducible rfl)) | fail
                  try simp only [Act.put, List.setIfInBounds_toArray, List.set_cons_zero, List.set_cons_succ]
                  first | (refine skipH (i := 5) (dst := some 40) rfl rfl (by kernel_rfl) (by kernel_rfl) (by kernel_rfl) (fun _ _ _ h => h) (by rfl) hHeld ?_) | (refine' takeH (i := 5) (dst := some 40) (v := _) rfl rfl (by kernel_rfl) (by kernel_rfl) (by kernel_rfl) (fun _ _ _ h => h) (by rfl) ?hy hHeld ?_; case hy => (intro w hSw; clear hSw; (first | done | go_simp); try with_reducible rfl)) | fail
                  try simp only [Act.put, List.setIfInBounds_toArray, List.set_cons_zero, List.set_cons_succ]
                  first | (refine skipH (i := 6) (dst := some 41) rfl rfl (by kernel_rfl) (by kernel_rfl) (by kernel_rfl) (fun _ _ _ h => h) (by rfl) hHeld ?_) | (refine' takeH (i := 6) (dst := some 41) (v := _) rfl rfl (by kernel_rfl) (by kernel_rfl) (by kernel_rfl) (fun _ _ _ h => h) (by rfl) ?hy hHeld ?_; case hy => (intro w hSw; clear hSw; (first | done | go_simp); try with_reducible rfl)) | fail
                  try simp only [Act.put, List.setIfInBounds_toArray, List.set_cons_zero, List.set_cons_succ]
                  first | (refine skipH (i := 7) (dst := some 42) rfl rfl (by kernel_rfl) (by kernel_rfl) (by kernel_rfl) (fun _ _ _ h => h) (by rfl) hHeld ?_) | (refine' takeH (i := 7) (dst := some 42) (v := _) rfl rfl (by kernel_rfl) (by kernel_rfl) (by kernel_rfl) (fun _ _ _ h => h) (by rfl) ?hy hHeld ?_; case hy => (intro w hSw; clear hSw; (first | done | go_simp); try with_reducible rfl)) | fail
                  try simp only [Act.put, List.setIfInBounds_toArray, List.set_cons_zero, List.set_cons_succ]
                  first | (refine skipH (i := 8) (dst := some 43) rfl rfl (by kernel_rfl) (by kernel_rfl) (by kernel_rfl) (fun _ _ _ h => h) (by rfl) hHeld ?_) | (refine' takeH (i := 8) (dst := some 43) (v := _) rfl rfl (by kernel_rfl) (by kernel_rfl) (by kernel_rfl) (fun _ _ _ h => h) (by rfl) ?hy hHeld ?_; case hy => (intro w hSw; clear hSw; (first | done | go_simp); try with_reducible rfl)) | fail
                  try simp only [Act.put, List.setIfInBounds_toArray, List.set_cons_zero, List.set_cons_succ]
                  first | (refine skipH (i := 9) (dst := some 44) rfl rfl (by kernel_rfl) (by kernel_rfl) (by kernel_rfl) (fun _ _ _ h => h) (by rfl) hHeld ?_) | (refine' takeH (i := 9) (dst := some 44) (v := _) rfl rfl (by kernel_rfl) (by kernel_rfl) (by kernel_rfl) (fun _ _ _ h => h) (by rfl) ?hy hHeld ?_; case hy => (intro w hSw; obtain ⟨_, _, _⟩ := hSw; (first | done | go_simp); try with_reducible rfl)) | fail
                  try simp only [Act.put, List.setIfInBounds_toArray, List.set_cons_zero, List.set_cons_succ]
                  refine wpAnyH_ready (rs := [10]) (by kernel_rfl) (by simp) ?_
                  refine AllReadyH.cons (i := 10) (o := ⟨some 45, .buildSlice _ _ _, _, _, _, _⟩) rfl (fun K hK => ?_) AllReadyH.nil
                  go_simp
                  have hH := HCU.out _ (bt hHeld.2.2 (grows' _ (.cells #[.int .i64 sb] 2)))
                  refine hK.out _ _ hH (fun _ => ?_)
                  clear hK K hHeld
                  have hHeld := hH
                  clear hH
                  try simp only [Act.put, List.setIfInBounds_toArray, List.set_cons_zero, List.set_cons_succ]
                  refine wpAnyH_ready (rs := [11]) (by kernel_rfl) (by simp) ?_
                  refine AllReadyH.cons (i := 11) (o := ⟨some 46, .call _, _, _, _, _⟩) rfl (fun K hK => ?_) AllReadyH.nil
                  go_simp
                  refine (chain_any sa (some ⟨U.heap.size, 0, none⟩) 1 1 [sb] _ rfl ((cells_one U sb 2).below (below_dr (Below.refl _ _) 1))).mono ?_
                  rintro e w6 ⟨rfl, hw6⟩
                  have hH := show w6.cell? ⟨b, o + k * 3 + 1, none⟩ = some (.int .i64 sa) ∧ w6.cell? ⟨b, o + k * 3 + 2, none⟩ = some (.int .i64 sb) ∧ Below U.heap.size U w6 by rw [hw6]; exact hHeld
                  clear hw6
                  refine hK.out _ _ hH (fun _ => ?_)
                  clear hK K hHeld
                  have hHeld := hH
                  clear hH
                  try simp only [Act.put, List.setIfInBounds_toArray, List.set_cons_zero, List.set_cons_succ]
                  refine wpAnyH_done (by kernel_rfl) (NoPanic.normal ?_) _
                  go_wp2_with fail
                  go_meet
                  exact hHeld.2.2
          case rest =>
          have HUC := Lib.hid (bt HVU.out hcut)
          have HTHc := Lib.hid (show wc.there gt 0 32 from fun j hj => by
            obtain ⟨h1, h2⟩ := HTH.out j hj
            obtain ⟨u, hu⟩ := Option.isSome_iff_exists.1 h1
            have hlt2 := cell_lt hu
            exact ⟨by rw [hcut.cell hlt2]; exact h1, by rw [hcut.frozen hlt2]; exact h2⟩)
          clear hcut
          go_wp2_with fail
          go_loopw [7] (fun v7 wy => ∃ (j : Nat), j ≤ 32 ∧ v7 = .int .i64 (j : Int) ∧ Below V.heap.size V wy ∧ wy.there gt 0 32) (fun v7 _ => 32 - (RowKit.intOf v7).toNat)
          case atStart => exact ⟨0, by omega, rfl, HUC.out, HTHc.out⟩
          case round =>
            obtain ⟨j, hj, rfl, hbu, hth⟩ := hrel
            have HBu := Lib.hid hbu
            have HTu := Lib.hid hth
            by_cases hlj : j < 32
            · have j1 : (0 : Int) ≤ (j : Int) := by omega
              have j2 : (j : Int) < 32 := by omega
              obtain ⟨hs, z0⟩ := hth j hlj
              obtain ⟨u0, c0⟩ := Option.isSome_iff_exists.1 hs
              rw [Nat.zero_add] at c0 z0
              have f1 := (HCL.out wr hbu).2.1
              clear hbu hth hs f0 f2
              go_wp2_with fail
              go_roundw
              case rel =>
                refine ⟨j + 1, by omega, by go_num, HBu.out.setCell (p := ⟨gt, j, none⟩) hgt _, ?_⟩
                exact World.there_setCells HTu.out gt j [.int .i64 sa]
              case measure => simp [RowKit.intOf]; omega
            · obtain rfl : j = 32 := by omega
              have HTl := Lib.hid (Tb.below HT5.out hbu)
              have HRl := Lib.hid (fun V2 (hV : Below wr.heap.size wr V2) => show V2.rangeAt g 0 tabV from fun j v hv => by
                have := HR5.out j v hv
                rw [(bt hbu hV).cell (cell_lt this)]
                exact this)
              clear hbu hth
              go_wp2_with fail
              have HEQ := eq_tab
              refine wp_region_noPanic ?_
              refine wp_region_held_drew (S := fun w' => w'.rangeAt g 0 tabV ∧ Below wr.heap.size wr w') (by kernel_rfl) ⟨HRl.out _ (below_dr (Below.refl _ _) 1), below_dr (Below.refl _ _) 1⟩ (fun hHeld => ?_)
              refine takeRow (i := 1) (dst := some 88) tabV g 22 _ (.array 32 2) rfl rfl (by kernel_rfl) (by kernel_rfl) (by kernel_rfl) (fun _ _ _ h => h) (by rfl) rfl rfl (fun w hw => hw.1) (by kernel_rfl) rfl (by kernel_rfl) hHeld ?_
              try simp only [Act.put, List.setIfInBounds_toArray, List.set_cons_zero, List.set_cons_succ]
              refine wpAnyH_ready (rs := [0]) (by kernel_rfl) (by simp) ?_
              refine AllReadyH.cons (i := 0) (o := ⟨some 87, .call _, _, _, _, _⟩) rfl (fun K hK => ?_) AllReadyH.nil
              go_simp
              refine (table_any _ (Tb.below HTl.out hHeld.2)).mono ?_
              rintro e w9 ⟨rfl, hb9⟩
              have hH := show w9.rangeAt g 0 tabV ∧ Below wr.heap.size wr w9 from ⟨HRl.out _ (bt hHeld.2 hb9), bt hHeld.2 hb9⟩
              clear hb9
              refine hK.out _ _ hH (fun _ => ?_)
              clear hK K hHeld
              have hHeld := hH
              clear hH
              try simp only [Act.put, List.setIfInBounds_toArray, List.set_cons_zero, List.set_cons_succ]
              first | (refine skipH (i := 2) (dst := some 89) rfl rfl (by kernel_rfl) (by kernel_rfl) (by kernel_rfl) (fun _ _ _ h => h) (by rfl) hHeld ?_) | (refine' takeH (i := 2) (dst := some 89) (v := _) rfl rfl (by kernel_rfl) (by kernel_rfl) (by kernel_rfl) (fun _ _ _ h => h) (by rfl) ?hy hHeld ?_; case hy => (intro w hSw; clear hSw; (first | done | go_simp); try with_reducible rfl)) | fail
              try simp only [Act.put, List.setIfInBounds_toArray, List.set_cons_zero, List.set_cons_succ]
              refine wpAnyH_done (by kernel_rfl) (NoPanic.normal ?_) _
              have B9 := Lib.hid (bt HBu.out hHeld.2)
              clear hHeld
              go_wp2_with fail
              go_roundw
              case rel => exact ⟨k + 1, by omega, by go_num, B9.out⟩
              case measure => simp [RowKit.intOf]; omega
        · obtain rfl : n = k := by omega
          go_wp2_with fail
          go_ret
          exact ⟨rfl, bt HB5.out hbr⟩
end Go.Proofs.YthalnepbafnogaaDoor.Cr
