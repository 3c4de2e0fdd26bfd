/- The law BusTable. -/
import Derived.Test.YtlnndbhnjhdbfaaDoorBvG
namespace Go.Proofs.YtlnndbhnjhdbfaaDoor.Kc
open Go.ChangeShapes Go.WideShapes Go.ChangeAt Go.RowKit Own Ro

theorem cells_new (w : World) : CellsIn (w.alloc (.cells Bu.tabV.toArray 35)) 1 (some ⟨w.heap.size, 0, none⟩) 20 (Bu.tab.map (.int .i64)) :=
  ⟨rfl, .inr ⟨w.heap.size, 0, rfl, by simp, fun j u hu => by
    rw [Nat.zero_add, World.cell?_alloc_at _ _ _ _ rfl]
    simpa [Bu.tabV] using hu⟩⟩
theorem cells_setNe {w : World} {q b o n g i : Nat} {xs : List Value} {v : Value} (h : CellsIn w q (some ⟨b, o, none⟩) n xs) (hne : b ≠ g) : CellsIn (w.setCell ⟨g, i, none⟩ v) q (some ⟨b, o, none⟩) n xs := by
  refine ⟨h.1, ?_⟩
  rcases h.2 with h0 | ⟨b', o', e, hb, hc⟩
  · exact .inl h0
  · injection e with e
    injection e with e1 e2
    subst e1 e2
    exact .inr ⟨b, o, rfl, by simpa [World.setCell] using hb, fun j u hu => by
      rw [World.cell?_setCell_other _ _ _ _ (by intro e'; injection e' with e1; exact hne e1.symm)]
      exact hc j u hu⟩
theorem cells_kp {W V : World} {lo hi q b o n : Nat} {xs : List Value} (h : CellsIn W q (some ⟨b, o, none⟩) n xs) (hk : Kp lo hi W V) (hb : b < lo) : CellsIn V q (some ⟨b, o, none⟩) n xs := by
  refine ⟨h.1, ?_⟩
  rcases h.2 with h0 | ⟨b', o', e, hb', hc⟩
  · exact .inl h0
  · injection e with e
    injection e with e1 e2
    subst e1 e2
    exact .inr ⟨b, o, rfl, Nat.lt_of_lt_of_le hb' hk.size, fun j u hu => by
      have h1 := hc j u hu
      have h2 := hk.block b hb' (.inl hb)
      unfold World.cell? at h1 ⊢
      rw [h2]
      exact h1⟩
theorem there_below {w w' : World} {g o n : Nat} (h : w.there g o n) (hg : g < w.heap.size) (hb : Below w.heap.size w w') : w'.there g o n := fun j hj => by
  obtain ⟨h1, h2⟩ := h j hj
  have hh := hb.block g hg
  refine ⟨?_, ?_⟩
  · unfold World.cell? at h1 ⊢
    rw [hh]
    exact h1
  · unfold World.frozen? at h2 ⊢
    rw [hh]
    exact h2
/-- Each of the first list's texts is the call's own; where they lie stands in the first list. -/
def All (lo : Nat) (R : List Sl) (wr : World) : Prop := ∀ j, j < 5 → ∃ ys, wr.ownsRow lo 9 1 (rowV R j) (R.getD j sl0).2.1 ys
def Thr (R : List Sl) (xs : List Value) : Prop := ∀ j, j < 5 → xs[j * 7 + 3]? = some (slV (R.getD j sl0))
theorem all_of {w : World} {lo ga : Nat} {R : List Sl} (h : RowsOwn KC w lo (some ⟨ga, 0, none⟩) 5 5 FL R) : All lo R w := fun j hj => ⟨_, (h.2.2.2.1 j (by have : R.length = 5 := h.2.2.1; omega)).2⟩
theorem thr_of {R : List Sl} (h : R.length = 5) : Thr R (KC.rows FL R) := fun j hj => rows_at KC FL R (by rw [h]; rfl) j 3 hj (by decide)
theorem tb_lt {w : World} (h : Bu.Tb w) : 0 < w.heap.size := World.block_lt_of_cell? w _ (h 0 _ (Bu.tab_at 0 (by omega)))
theorem tb_setNe {w : World} {g i : Nat} {v : Value} (h : Bu.Tb w) (hg : 0 < g) : Bu.Tb (w.setCell ⟨g, i, none⟩ v) := fun j u hu => by
  rw [World.cell?_setCell_other _ _ _ _ (by intro e'; injection e' with e1; omega)]
  exact h j u hu
theorem there_new (w : World) : (w.alloc (.cells Bu.tabV.toArray 35)).there w.heap.size 0 20 := fun j hj => by
  rw [Nat.zero_add]
  refine ⟨?_, World.frozen?_alloc_new w _ _ _⟩
  rw [World.cell?_alloc_at _ _ _ _ rfl]
  have := Bu.tab_at j hj
  simp [this]
set_option maxRecDepth 100000 in
set_option maxHeartbeats 8000000 in
theorem btable_any (w : World) (h : Bu.Tb w) : Calls Tryd.prog 13 #[] w (fun e w' => e = .returned (.agg Bu.tabV.toArray) ∧ Below w.heap.size w w') := by
  have H := Lib.hid h
  clear h
  go_enter Tryd.func13, Tryd.ntmps13
  go_wp2_with (first | refine Su.wpList_load_row' rfl _ _ rfl 0 rfl Bu.tabV (.array 20 2) (H.out.alloc _) (by kernel_rfl) rfl (by kernel_rfl) ?_ | refine Su.wpList_store_new rfl _ _ _ rfl _ Bu.tabV.toArray rfl rfl (by kernel_rfl) (by kernel_rfl) (by kernel_rfl) ?_)
  refine bodyPost_ret (results_cell_row rfl _ _ w.heap.size 35 Bu.tabV.toArray (0, 0) (.array 20 2) rfl (heap_alloc_last w _) (by kernel_rfl) rfl (by kernel_rfl)) rfl ?_
  exact ⟨rfl, grows' _ _⟩
set_option maxRecDepth 100000 in
set_option maxHeartbeats 8000000 in
theorem table_law (w : World) (hT : Bu.Tb w) : Calls Tryd.prog 4 #[] w (fun e w' => e = .returned (.bool true) ∧ Below w.heap.size w w') := by
  have HT := Lib.hid hT
  clear hT
  go_enter Tryd.func4, Tryd.ntmps4
  go_wp2_with fail
  refine (btable_any w HT.out).mono ?_
  rintro e w1 ⟨rfl, hb⟩
  have HB1 := Lib.hid hb
  have HT1 := Lib.hid (Bu.Tb.below HT.out hb)
  clear hb
  go_wp2_with (first | refine Su.wpList_store_new rfl _ _ _ rfl _ Bu.tabV.toArray rfl rfl (by kernel_rfl) (by kernel_rfl) (by kernel_rfl) ?_)
  have HB2 := Lib.hid (bt HB1.out (grows' w1 (.cells Bu.tabV.toArray 35)))
  have HT2 := Lib.hid (Bu.Tb.alloc HT1.out (.cells Bu.tabV.toArray 35))
  have HC := Lib.hid (cells_new w1)
  have HTH := Lib.hid (there_new w1)
  have hgt : w1.heap.size < (w1.alloc (.cells Bu.tabV.toArray 35)).heap.size := by simp
  have hw1 : w.heap.size ≤ w1.heap.size := HB1.out.size
  have hgl : 0 < w1.heap.size := tb_lt HT1.out
  generalize w1.alloc (.cells Bu.tabV.toArray 35) = w2 at HB2 HT2 HC HTH hgt ⊢
  generalize w1.heap.size = gt at HC HTH hgt hw1 hgl ⊢
  clear HB1 HT1 HT
  refine (Bu.nums_any w2).mono ?_
  rintro e w3 ⟨gw, cw, rfl, hgw, hown, hb⟩
  have HW := Lib.hid (own_cells hown)
  have HC3 := Lib.hid (HC.out.below hb)
  have HTH3 := Lib.hid (there_below HTH.out hgt hb)
  have HB3 := Lib.hid (bt HB2.out hb)
  have HT3 := Lib.hid (Bu.Tb.below HT2.out hb)
  clear hb hown HC HTH HB2 HT2
  go_wp2_with fail
  refine (same64_any _ _ 20 cw 20 Bu.tab w3 rfl (by omega) HC3.out HW.out).mono ?_
  rintro e w4 ⟨rfl, q, hw⟩
  have HW4 := Lib.hid (show CellsIn w4 1 (some ⟨gw, 0, none⟩) 20 (Bu.tab.map (.int .i64)) by rw [hw]; exact HW.out.below (below_dr (Below.refl _ _) _))
  have HTH4 := Lib.hid (show w4.there gt 0 20 by rw [hw]; exact HTH3.out)
  have HB4 := Lib.hid (show Below w.heap.size w w4 by rw [hw]; exact below_dr HB3.out _)
  have HT4 := Lib.hid (show Bu.Tb w4 by rw [hw]; exact HT3.out.below (below_dr (Below.refl _ _) _))
  have hne : gw ≠ gt := by omega
  clear hw HW HTH3 HB3 HT3 HC3
  go_wp2_with fail
  go_loopw [3] (fun v3 wr => ∃ (k : Nat), k ≤ 20 ∧ v3 = .int .i64 (k : Int) ∧ Below w.heap.size w wr ∧ Bu.Tb wr ∧ CellsIn wr 1 (some ⟨gw, 0, none⟩) 20 (Bu.tab.map (.int .i64)) ∧ wr.there gt 0 20) (fun v3 _ => 20 - (RowKit.intOf v3).toNat)
  case atStart => exact ⟨0, by omega, rfl, HB4.out, HT4.out, HW4.out, HTH4.out⟩
  case round =>
    clear HB4 HT4 HW4 HTH4
    obtain ⟨k, hk, rfl, hb, ht, hwn, hth⟩ := hrel
    have HB := Lib.hid hb
    have HT := Lib.hid ht
    have HW := Lib.hid hwn
    have HTH := Lib.hid hth
    by_cases hlt : k < 20
    · have l1 : (0 : Int) ≤ (k : Int) := by omega
      have l2 : (k : Int) < 20 := by omega
      obtain ⟨hs, z0⟩ := hth k hlt
      obtain ⟨u0, c0⟩ := Option.isSome_iff_exists.1 hs
      rw [Nat.zero_add] at c0 z0
      clear hb ht hwn hth hs
      go_wp2_with fail
      go_roundw
      case rel =>
        refine ⟨k + 1, by omega, by go_num, HB.out.setCell (p := ⟨gt, k, none⟩) hw1 _, tb_setNe HT.out hgl, cells_setNe HW.out hne, World.there_setCells HTH.out gt k [.int .i64 (-7)]⟩
      case measure => simp [RowKit.intOf]; omega
    · have hge : decide ((k : Int) < 20) = false := decide_eq_false (by omega)
      clear hb ht hwn hth hlt hk
      go_wp2_with fail
      clear hge
      generalize (k : Int) = iv
      clear HTH
      refine (btable_any wr HT.out).mono ?_
      rintro e w5 ⟨rfl, hb⟩
      have HB5 := Lib.hid (bt HB.out hb)
      have HW5 := Lib.hid (HW.out.below hb)
      clear hb HB HW HT
      go_wp2_with (first | refine Su.wpList_store_new rfl _ _ _ rfl _ Bu.tabV.toArray rfl rfl (by kernel_rfl) (by kernel_rfl) (by kernel_rfl) ?_)
      have hgr := grows' w5 (.cells Bu.tabV.toArray 35)
      have HB6 := Lib.hid (bt HB5.out hgr)
      have HW6 := Lib.hid (HW5.out.below hgr)
      have HU := Lib.hid (cells_new w5)
      have hgu : w5.heap.size < (w5.alloc (.cells Bu.tabV.toArray 35)).heap.size := by simp
      have hgw2 : gw < (w5.alloc (.cells Bu.tabV.toArray 35)).heap.size := by
        rcases HW6.out.2 with h0 | ⟨b, o, e, hb, _⟩
        · omega
        · injection e with e
          injection e with e1
          omega
      clear hgr
      generalize w5.alloc (.cells Bu.tabV.toArray 35) = w6 at HB6 HW6 HU hgu hgw2 ⊢
      generalize w5.heap.size = gu at HU hgu ⊢
      clear HB5 HW5
      refine (cards_any w6).mono ?_
      rintro e w7 ⟨rfl, hw⟩
      have B7 := made_below w6
      have HA := made_rows w6
      rw [← hw] at B7 HA
      clear hw
      generalize top w6.heap.size FL = t1 at HA ⊢
      generalize pl w6.heap.size FL = R1 at HA
      have HAP := apart_of HA
      replace B7 := Lib.hid B7
      replace HA := Lib.hid HA
      replace HAP := Lib.hid HAP
      go_wp2_with fail
      refine (cards_any w7).mono ?_
      rintro e w8 ⟨rfl, hw⟩
      have B8 := made_below w7
      have HB2 := made_rows w7
      rw [← hw] at B8 HB2
      clear hw
      generalize top w7.heap.size FL = t2 at HB2 ⊢
      generalize pl w7.heap.size FL = R2 at HB2
      replace B8 := Lib.hid B8
      replace HB2 := Lib.hid HB2
      go_wp2_with fail
      refine (refCards_any w8).mono ?_
      rintro e w9 ⟨rfl, hw⟩
      have B9 := made_below w8
      have HR := made_rows w8
      rw [← hw] at B9 HR
      clear hw
      generalize top w8.heap.size FL = t0 at HR ⊢
      generalize pl w8.heap.size FL = R0 at HR
      have hs7 : w6.heap.size ≤ w7.heap.size := B7.out.size
      have hs8 : w7.heap.size ≤ w8.heap.size := B8.out.size
      have hs9 : w8.heap.size ≤ w9.heap.size := B9.size
      have HRK := Lib.hid (fun V (h : Kp w6.heap.size w7.heap.size w9 V) => (rows_kp HR h ⟨fun g hg => .inr (Nat.le_trans hs8 (HR.2.1.lt g hg).1), fun i hi g hg => .inr (Nat.le_trans hs8 ((HR.2.2.2.1 i hi).2.lt g hg).1)⟩).rows)
      have HBK := Lib.hid (fun V (h : Kp w6.heap.size w7.heap.size w9 V) => (rows_kp (HB2.out.below B9) h ⟨fun g hg => .inr (HB2.out.2.1.lt g hg).1, fun i hi g hg => .inr ((HB2.out.2.2.2.1 i hi).2.lt g hg).1⟩).rows)
      have HS1 := Lib.hid (sameAll_any (some ⟨t1, 0, none⟩) (some ⟨t0, 0, none⟩) 5 5 5 5 FL FL R1 R0 true w9 (by simp) mildFL mildFL (HA.out.below (bt B8.out B9)).rows (HRK.out w9 (Kp.refl _)))
      have HS2 := Lib.hid (fun V h => sameAll_any (some ⟨t2, 0, none⟩) (some ⟨t0, 0, none⟩) 5 5 5 5 FL FL R2 R0 true V (by simp) mildFL mildFL (HBK.out V h) (HRK.out V h))
      have HA9 := Lib.hid (HA.out.below (bt B8.out B9))
      have BW := Lib.hid (bt HB6.out (bt (bt B7.out B8.out) B9))
      have HUK := Lib.hid (fun V (h : Kp w6.heap.size w7.heap.size w9 V) => show CellsIn V 1 (some ⟨gu, 0, none⟩) 20 (Bu.tab.map (.int .i64)) ∧ CellsIn V 1 (some ⟨gw, 0, none⟩) 20 (Bu.tab.map (.int .i64)) from ⟨cells_kp (HU.out.below (bt (bt B7.out B8.out) B9)) h hgu, cells_kp (HW6.out.below (bt (bt B7.out B8.out) B9)) h hgw2⟩)
      have hlw : w.heap.size ≤ w6.heap.size := HB6.out.size
      have hl9 : w6.heap.size ≤ w9.heap.size := by omega
      clear B7 B8 B9 HA HB2 HR HBK HU HW6 HB6 hgu hgw2
      generalize w6.heap.size = lo at *
      generalize w7.heap.size = hi at *
      go_wp2_with fail
      refine HS1.out.mono ?_
      rintro e w10 ⟨rfl, b⟩
      have K10 := Lib.hid ((Kp.refl (lo := lo) (hi := hi) w9).below b)
      have T10 := Lib.hid (HA9.out.below b)
      clear b HS1 HA9
      go_wp2_with fail
      go_loopw [8, 9] (fun v8 _ wr => ∃ i, i ≤ 5 ∧ v8 = .int .i64 (i : Nat) ∧ Kp lo hi w9 wr ∧ All lo R1 wr ∧ ∃ xs, Top lo t1 xs wr ∧ Thr R1 xs) (fun v8 _ _ => 5 - (RowKit.intOf v8).toNat)
      case atStart => exact ⟨0, by omega, rfl, K10.out, all_of T10.out, _, T10.out.2.1, thr_of (by rw [HAP.out.len])⟩
      case round =>
        clear K10 T10
        obtain ⟨i, hi5, rfl, hk, hin, xs, htop, hxs⟩ := hrel
        have HK := Lib.hid hk
        have HI := Lib.hid hin
        have HTP := Lib.hid htop
        have HX := Lib.hid hxs
        clear hk hin htop hxs
        by_cases hlt : i < 5
        · have i1 : (0 : Int) ≤ (i : Int) := by omega
          have i2 : (i : Int) < 5 := by omega
          have hrn : (R1.getD i sl0).2.1 ≤ 1000000 := by rw [HAP.out.n i hlt]; exact FLc i hlt
          rcases hr : R1.getD i sl0 with ⟨ra, rn, rc⟩
          replace hrn : rn ≤ 1000000 := by rw [hr] at hrn; exact hrn
          have HRV := Lib.hid (show rowV R1 i = .slice ra rn rc by unfold rowV; rw [hr]; rfl)
          have HRN := Lib.hid (show (R1.getD i sl0).2.1 = rn by rw [hr])
          have HSL := Lib.hid (show slV (R1.getD i sl0) = .slice ra rn rc by rw [hr]; rfl)
          clear hr
          go_wp2_with fail
          go_loopw [9] (fun v9 wy => ∃ k, k ≤ rn ∧ v9 = .int .i64 (k : Nat) ∧ Kp lo hi w9 wy ∧ All lo R1 wy ∧ Top lo t1 xs wy) (fun v9 _ => rn - (RowKit.intOf v9).toNat)
          case atStart => exact ⟨0, by omega, rfl, HK.out, HI.out, HTP.out⟩
          case round =>
            obtain ⟨k, hk, rfl, hk1, hk2, hk3⟩ := hrel
            have Y1 := Lib.hid hk1
            have Y2 := Lib.hid hk2
            have Y3 := Lib.hid hk3
            clear hk1 hk2 hk3
            have c3 : wr.cell? ⟨t1, i * 7 + 3, none⟩ = some (.slice ra rn rc) := by
              rw [Y3.out.cellAt (i * 7 + 3) (by omega), HX.out i hlt, HSL.out]
            by_cases hlk : k < rn
            · have k1 : (0 : Int) ≤ (k : Int) := by omega
              have k2 : (k : Int) < (rn : Int) := by omega
              obtain ⟨ys, hown⟩ := Y2.out i hlt
              rw [HRV.out, HRN.out] at hown
              obtain ⟨gi, rfl, hg1, hg2⟩ := own_shapeK hown (by omega)
              obtain ⟨u, hu⟩ : ∃ u, ys[k]? = some u := ⟨_, List.getElem?_eq_getElem (by rw [hown.1]; omega)⟩
              have c0 : wr.cell? ⟨gi, k, none⟩ = some u := by rw [hown.cellAt k (by omega)]; exact hu
              have z0 := hown.frozenAt k
              have HO := Lib.hid hown
              have HAG := Lib.hid (HAP.out.inn i hlt gi (by rw [HRV.out]; rfl))
              have HAD := Lib.hid (fun j h1 h2 => HAP.out.diff i j hlt h1 h2 gi (by rw [HRV.out]; rfl))
              clear hown hu
              go_wp2_with fail
              go_roundw
              case rel =>
                have hst := set_grown wr ⟨gi, k, none⟩ (.string ⟨#[126]⟩)
                refine ⟨k + 1, by omega, by go_num, Y1.out.setCell (p := ⟨gi, k, none⟩) (.inl ⟨HAG.out.1, HAG.out.2.1⟩) _, fun j hj => ?_, own_keptNe Y3.out hst (fun e => HAG.out.2.2 (by injection e with e; exact e.symm))⟩
                by_cases hji : j = i
                · subst hji
                  rw [HRV.out, HRN.out]
                  exact ⟨_, (HO.out.stored k _).1⟩
                · obtain ⟨zs, hz⟩ := Y2.out j hj
                  exact ⟨zs, own_keptNe hz hst (HAD.out j hj (fun e => hji e.symm))⟩
              case measure => simp [RowKit.intOf]; omega
            · clear hk
              have HTH := Lib.hid (there_own Y3.out i hlt)
              obtain ⟨hs, z0⟩ := HTH.out 0 (by omega)
              obtain ⟨u0, c0⟩ := Option.isSome_iff_exists.1 hs
              rw [Nat.add_zero] at c0 z0
              clear hs
              go_wp2_with fail
              go_roundw
              case rel =>
                have hst := set_grown wr ⟨t1, i * 7, none⟩ (.string ⟨#[126]⟩)
                refine ⟨i + 1, by omega, by go_num, Y1.out.setCell (p := ⟨t1, i * 7, none⟩) (.inl ⟨HAP.out.ga1, HAP.out.ga2⟩) _, fun j hj => ?_, _, (Y3.out.stored (i * 7) _).1, fun j hj => ?_⟩
                · obtain ⟨zs, hz⟩ := Y2.out j hj
                  exact ⟨zs, own_keptNe hz hst (fun e => (HAP.out.inn j hj t1 e).2.2 rfl)⟩
                · rw [List.getElem?_set_ne (by omega)]
                  exact HX.out j hj
              case measure => simp [RowKit.intOf]; omega
        · have hge : decide ((i : Int) < 5) = false := decide_eq_false (by omega)
          clear HI HX HTP hlt hi5
          obtain ⟨hu1, hu2⟩ := HUK.out _ HK.out
          have HE := Lib.hid (same64_any _ _ 20 cw 20 Bu.tab wr rfl (by omega) hu1 hu2)
          clear hu1 hu2
          go_wp2_with fail
          refine HE.out.mono ?_
          rintro e w11 ⟨rfl, q2, hw⟩
          have K11 := Lib.hid (show Kp lo hi w9 w11 by rw [hw]; exact HK.out.below (below_dr (Below.refl _ _) _))
          clear hw
          go_wp2_with fail
          refine (HS2.out _ K11.out).mono ?_
          rintro e w12 ⟨rfl, b⟩
          have K12 := Lib.hid (K11.out.below b)
          clear b
          go_wp2_with fail
          refine (cards_any w12).mono ?_
          rintro e w13 ⟨rfl, hw⟩
          have b13 := made_below w12
          have hr := made_rows w12
          rw [← hw] at b13 hr
          clear hw
          generalize top w12.heap.size FL = t7 at hr ⊢
          generalize pl w12.heap.size FL = R7 at hr
          have K13 := Lib.hid (K12.out.below b13)
          have HS4 := Lib.hid (sameAll_any (some ⟨t7, 0, none⟩) (some ⟨t0, 0, none⟩) 5 5 5 5 FL FL R7 R0 true w13 (by simp) mildFL mildFL hr.rows (HRK.out _ K13.out))
          clear b13 hr
          go_wp2_with fail
          refine HS4.out.mono ?_
          rintro e w14 ⟨rfl, b⟩
          have K14 := Lib.hid (K13.out.below b)
          clear b
          go_wp2_with fail
          go_ret
          exact ⟨rfl, K14.out.low BW.out hlw BW.out.size⟩
end Go.Proofs.YtlnndbhnjhdbfaaDoor.Kc
