/- What the roll's cards stand for: the law MatchRoll. -/
import Derived.Test.YtnnaoneegeenkaaDoorMuB
namespace Go.Proofs.YtnnaoneegeenkaaDoor.Mu
open Go.ChangeShapes Go.WideShapes Go.ChangeAt Go.RowKit Own Ro Kc wordsNames Go.Maps Go.WideMaps
open Mt Mq
open Rm (T5)
open Ka (i64s i64s_len i64s_at)
open Kq (lookT tabsI lit_cells rTable_any TablePost)

def crysT : Tx := [99, 114, 121, 115, 116, 97, 108]
theorem rate_small : ∀ i < 22, (SL.getD i cd0).fam = crysT → (SL.getD i cd0).entry < 32 := by decide +kernel
theorem ent_tab (i : Nat) (hi : i < 22) (hf : (SL.getD i cd0).fam = crysT) (e : Int) : Rm.Ct.ent e = (tabS i).getD e.toNat 0 := by
  rw [(roll_ok i hi).2.2.2 hf]
  rfl
def score (i : Nat) : Int := (SL.getD i cd0).score
set_option maxRecDepth 100000 in
set_option maxHeartbeats 32000000 in
theorem matchRoll_any (w : World) (ht5 : T5 w) : Calls Tryd.prog 6 #[] w (fun e w' => e = .returned (.bool true) ∧ Below w.heap.size w w') := by
  have HT := Lib.hid (fun W (hW : Below w.heap.size w W) => ht5.below hW)
  clear ht5
  go_enter Tryd.func6, Tryd.ntmps6
  go_wp2_with fail
  refine (awake_any w (HT.out w (Below.refl _ _))).mono ?_
  rintro e w0 ⟨rfl, hb0⟩
  have B0 := Lib.hid hb0
  clear hb0
  go_wp2_with fail
  refine (rCards_any w0).mono ?_
  rintro e w1 ⟨A, c, R, rfl, ho, hb1⟩
  have B1 := Lib.hid (bt B0.out hb1)
  have HR := Lib.hid (fun W (hW : Below w1.heap.size w1 W) => (ho.below hW).rows)
  have HNE := Lib.hid (fun k => (ho.neat k).2)
  clear ho hb1 B0
  go_wp2_with fail
  go_loopw [2, 3, 4, 5, 6, 7, 8, 9, 10, 11, 12, 13, 14] (fun v2 _ _ _ _ _ _ _ _ _ _ _ _ wr => ∃ i : Nat, i ≤ 22 ∧ v2 = .int .i64 (i : Nat) ∧ Below w1.heap.size w1 wr) (fun v2 _ _ _ _ _ _ _ _ _ _ _ _ _ => 22 - (RowKit.intOf v2).toNat)
  case atStart => exact ⟨0, by omega, rfl, Below.refl _ _⟩
  case round =>
    obtain ⟨i, hi, rfl, hbw⟩ := hrel
    have BW := Lib.hid hbw
    clear hbw
    by_cases hlt : i < 22
    · have i1 : (0 : Int) ≤ (i : Int) := by omega
      have i2 : (i : Int) < 22 := by omega
      obtain ⟨hbest, hbk, hbs⟩ := bk_ok i hlt
      obtain ⟨htn, hqu, hen, _⟩ := roll_ok i hlt
      obtain ⟨b, o, hA, hb0, hrow, hln, hin⟩ := row_at (HR.out wr BW.out) i hlt
      have HRW := Lib.hid (fun W (hW : Below wr.heap.size wr W) => HR.out W (bt BW.out hW))
      have HTB := Lib.hid (fun W (hW : Below wr.heap.size wr W) => rTable_any (SL.getD i cd0).fam W (HT.out W (bt B1.out (bt BW.out hW))) (Nat.le_trans (mildL_S.2 i).2.1 (by unfold maxLen; decide)))
      have HTP : Hid (∀ e w4 W, TablePost (SL.getD i cd0).fam w4 e W → ∃ A c, e = .returned (.tuple #[.slice A (tabS i).length c, .int .i64 0]) ∧ CellsIn W 1 A (tabS i).length (i64s (tabS i)) ∧ Below w4.heap.size w4 W) := Lib.hid (fun e w4 W h => by
        obtain ⟨A, c, h1, h2, h3⟩ := h
        rw [if_neg (show ¬ lookT (tabsI 5) (SL.getD i cd0).fam = [] from htn)] at h1
        exact ⟨A, c, h1, h2, h3⟩)
      have HSET := Lib.hid (fun W (hW : Below wr.heap.size wr W) => setting_any (SL.getD i cd0) (R.getD i sl0) (stS i) 0 W (setRel_SL i hlt) (mildL_S.2 i) hln (HNE.out i) (hin.below hW) (HT.out W (bt B1.out (bt BW.out hW))))
      have HTU : Hid (∀ n W, Calls Tryd.prog 21 #[.string (str (SL.getD i cd0).quirk), .int .i64 n] W fun e w' => e = .returned (.tuple #[.int .i64 (qnV (quS i) n), .bool true]) ∧ w' = W) := Lib.hid (fun n W => by
        have q := turned_any (SL.getD i cd0).quirk n W
        unfold TPost tV tB at q
        rw [hqu] at q
        exact q)
      have HSN : Hid ((SL.getD i cd0).entry < 0 → stS i = 0) := Lib.hid (fun h => by unfold stS; rw [if_pos h])
      have HSP : Hid (¬ (SL.getD i cd0).entry < 0 → stS i = qnV (quS i) ((tabS i).getD (SL.getD i cd0).entry.toNat 0)) := Lib.hid (fun h => by unfold stS; rw [if_neg h])
      have HRT : Hid ((SL.getD i cd0).fam = crysT → 0 ≤ (SL.getD i cd0).entry → ∀ W, Below wr.heap.size wr W → Calls Tryd.prog 24 #[.int .i64 (SL.getD i cd0).entry] W (fun e w' => e = .returned (.tuple #[.int .i64 ((tabS i).getD (SL.getD i cd0).entry.toNat 0), .int .i64 0]) ∧ w' = W)) := Lib.hid (fun hf h0 W hW => by
        have q := rate_any (SL.getD i cd0).entry W (HT.out W (bt B1.out (bt BW.out hW))) h0 (rate_small i hlt hf)
        rw [ent_tab i hlt hf] at q
        exact q)
      have HFT := Lib.hid (fun W bb d (hW : Below wr.heap.size wr W) hc => fit_any A (some ⟨bb, 0, none⟩) c 22 d 1 SL R [tx0 i] (bk i) 0 0 W (fitRel_S hbest) mildL_S HNE.out (HRW.out W hW) rfl (by decide) (fun j => by
        rcases j with _ | j
        · exact Nat.le_trans ((SL_ok i hlt).2.2.2.1.2.2 0 (by have := (SL_ok i hlt).2.2.2.1.1; omega)).1.2.1 (by unfold maxLen; decide)
        · show (([] : List Tx).getD j []).length ≤ maxLen
          simp) hc)
      have hc1 : 1 ≤ (SL.getD i cd0).compat.length := (SL_ok i hlt).2.2.2.1.1
      have HT0 : Hid (∀ W, Below wr.heap.size wr W → ∃ tb to_ : Nat, (R.getD i sl0).1 = some ⟨tb, to_, none⟩ ∧ W.cell? ⟨tb, to_, none⟩ = some (.string (str (tx0 i)))) := Lib.hid (fun W hW => by
        obtain ⟨tb, to_, h1, h2, h3⟩ := (hin.below hW).at (by omega)
        exact ⟨tb, to_, h1, h3 0 _ (strs_at _ 0 (by omega))⟩)
      have HBK : Hid (∀ W, Below wr.heap.size wr W → W.cell? ⟨b, o + bk i * 7 + 4, none⟩ = some (.int .i8 (SL.getD (bk i) cd0).score)) := Lib.hid (fun W hW => by
        obtain ⟨b', o', h1, h2, h3, _⟩ := row_at (HRW.out W hW) (bk i) hbk
        rw [hA] at h1
        injection h1 with h1
        injection h1 with h4 h5
        subst h4 h5
        exact h3 4 _ rfl)
      have k1 : (0 : Int) ≤ (bk i : Int) := by omega
      have k2 : (bk i : Int) < 22 := by omega
      have e0 : wr.cell? ⟨b, o + i * 7, none⟩ = some (.string (str (SL.getD i cd0).name)) := hrow 0 _ rfl
      have e1 : wr.cell? ⟨b, o + i * 7 + 1, none⟩ = some (.string (str (SL.getD i cd0).fam)) := hrow 1 _ rfl
      have e2 : wr.cell? ⟨b, o + i * 7 + 2, none⟩ = some (.int .u8 (SL.getD i cd0).level) := hrow 2 _ rfl
      have e3 : wr.cell? ⟨b, o + i * 7 + 3, none⟩ = some (.slice (R.getD i sl0).1 (R.getD i sl0).2.1 (R.getD i sl0).2.2) := hrow 3 _ rfl
      have e4 : wr.cell? ⟨b, o + i * 7 + 4, none⟩ = some (.int .i8 (SL.getD i cd0).score) := hrow 4 _ rfl
      have e5 : wr.cell? ⟨b, o + i * 7 + 5, none⟩ = some (.string (str (SL.getD i cd0).quirk)) := hrow 5 _ rfl
      have e6 : wr.cell? ⟨b, o + i * 7 + 6, none⟩ = some (.int .i16 (SL.getD i cd0).entry) := hrow 6 _ rfl
      obtain ⟨wb, hwb, hsb, hbb, hxb⟩ := Mt.box_ex wr (SL.getD i cd0) (R.getD i sl0)
      have BB := Lib.hid hbb
      have HEN : Hid (-1 ≤ (SL.getD i cd0).entry ∧ (SL.getD i cd0).entry ≤ 47) := Lib.hid ⟨(SL_ok i hlt).2.2.2.2.2.2.1, (SL_ok i hlt).2.2.2.2.2.2.2⟩
      have HX : Hid (∀ W, Below wb.heap.size wb W → W.cell? ⟨wr.heap.size, 0, none⟩ = some (.string (str (SL.getD i cd0).name)) ∧ W.cell? ⟨wr.heap.size, 1, none⟩ = some (.string (str (SL.getD i cd0).fam)) ∧ W.cell? ⟨wr.heap.size, 2, none⟩ = some (.int .u8 (SL.getD i cd0).level) ∧ W.cell? ⟨wr.heap.size, 3, none⟩ = some (.slice (R.getD i sl0).1 (R.getD i sl0).2.1 (R.getD i sl0).2.2) ∧ W.cell? ⟨wr.heap.size, 4, none⟩ = some (.int .i8 (SL.getD i cd0).score) ∧ W.cell? ⟨wr.heap.size, 5, none⟩ = some (.string (str (SL.getD i cd0).quirk)) ∧ W.cell? ⟨wr.heap.size, 6, none⟩ = some (.int .i16 (SL.getD i cd0).entry)) :=
        Lib.hid (fun W hW => ⟨hxb W hW 0 _ rfl, hxb W hW 1 _ rfl, hxb W hW 2 _ rfl, hxb W hW 3 _ rfl, hxb W hW 4 _ rfl, hxb W hW 5 _ rfl, hxb W hW 6 _ rfl⟩)
      have HQ1 := Lib.hid (eq_lists (SL.getD i cd0).fam crysT)
      unfold cells7 at hwb
      unfold cardV cells7 at HSET
      simp only [slV] at hwb HSET
      subst hA
      clear hrow hin hbest hbk hxb hbb htn hqu HRW HNE HR
      generalize hd : SL.getD i cd0 = d at *
      clear hd
      generalize R.getD i sl0 = r at *
      obtain ⟨ra, rn, rc⟩ := r
      obtain ⟨nm, fm, lv, cp, sc, qk, en⟩ := d
      dsimp only at *
      generalize tabS i = tab at *
      generalize tx0 i = tx at *
      generalize stS i = st at *
      generalize quS i = qf at *
      generalize str nm = S1 at *
      generalize hfm : str fm = S2 at *
      generalize str qk = S3 at *
      have HFM := Lib.hid hfm
      clear hfm
      have HWB := Lib.hid hwb
      have HLN := Lib.hid hln
      have HBS := Lib.hid hbs
      clear hwb hln hbs hsb
      go_upto_region 8 with (fail)
      rw [HWB.out]
      generalize hq : bk i = q at *
      have HIQ := Lib.hid hq
      clear hq
      generalize (SL.getD q cd0).score = sc2 at HBK HBS
      generalize wr.heap.size = bx at HX ⊢
      have hen1 := HEN.out.1
      have hen2 := HEN.out.2
      obtain ⟨d0, d1, d2, d3, d4, d5, d6⟩ := HX.out wb (Below.refl _ _)
      go_wp2_with fail
      refine (HTB.out wb BB.out).mono ?_
      intro e w2 h2
      obtain ⟨A2, c2, rfl, hc2, hb2⟩ := HTP.out e wb w2 h2
      have C2 := Lib.hid hb2
      have B2 := Lib.hid (bt BB.out hb2)
      have HC2 := Lib.hid hc2
      clear h2 hc2 hb2 d0 d1 d2 d3 d4 d5 d6 HTB HTP
      obtain ⟨d0, d1, d2, d3, d4, d5, d6⟩ := HX.out w2 C2.out
      go_wp2_with fail
      refine (HSET.out w2 B2.out).mono ?_
      rintro e w3 ⟨rfl, hb3⟩
      have C3 := Lib.hid (bt C2.out hb3)
      have B3 := Lib.hid (bt B2.out hb3)
      have HC3 := Lib.hid (HC2.out.below hb3)
      clear hb3 d0 d1 d2 d3 d4 d5 d6 HSET HC2 C2 B2
      have d6 := (HX.out w3 C3.out).2.2.2.2.2.2
      have d1 := (HX.out w3 C3.out).2.1
      have z1 : ¬ (tab.length : Int) ≤ en := by omega
      by_cases h0 : 0 ≤ en
      · have hst := HSP.out (by omega)
        subst hst
        obtain ⟨tb, to_, rfl, htb, htc⟩ := HC3.out.at (by omega)
        have ec : w3.cell? ⟨tb, to_ + en.toNat, none⟩ = some (.int .i64 (tab.getD en.toNat 0)) := htc en.toNat _ (i64s_at tab en.toNat (by omega))
        have HEC := Lib.hid (fun W (hW : Below w3.heap.size w3 W) => (hW.cell (p := ⟨tb, to_ + en.toNat, none⟩) htb).trans ec)
        have HS3 : Hid (∀ W, Below w3.heap.size w3 W → ((W.cell? ⟨bx, 5, none⟩ = some (.string S3) ∧ W.cell? ⟨bx, 6, none⟩ = some (.int .i16 en)) ∧ W.cell? ⟨tb, to_ + en.toNat, none⟩ = some (.int .i64 (tab.getD en.toNat 0))) ∧ Below w3.heap.size w3 W) := Lib.hid (fun W hW => ⟨⟨⟨(HX.out W (bt C3.out hW)).2.2.2.2.2.1, (HX.out W (bt C3.out hW)).2.2.2.2.2.2⟩, HEC.out W hW⟩, hW⟩)
        clear htc ec htb
        have HT9 := Lib.hid (HTU.out (tab.getD en.toNat 0))
        generalize tab.getD en.toNat 0 = x0 at *
        go_upto_region 14 with (fail)
        clear d6 d1
        refine wp_region_noPanic ?_
        refine wp_region_held_drew (S := fun W : World => ((W.cell? ⟨bx, 5, none⟩ = some (.string S3) ∧ W.cell? ⟨bx, 6, none⟩ = some (.int .i16 en)) ∧ W.cell? ⟨tb, to_ + en.toNat, none⟩ = some (.int .i64 x0)) ∧ Below w3.heap.size w3 W) (by kernel_rfl) (HS3.out _ (below_dr (Below.refl _ _) 1)) (fun hHeld => ?_)
        first | (refine skipH (i := 0) (dst := some 57) rfl rfl (by kernel_rfl) (by kernel_rfl) (by kernel_rfl) (fun _ _ _ h => h) (by rfl) hHeld ?_) | (refine' takeH (i := 0) (dst := some 57) (v := _) rfl rfl (by kernel_rfl) (by kernel_rfl) (by kernel_rfl) (fun _ _ _ h => h) (by rfl) ?hy hHeld ?_; case hy => (intro w hSw; clear hSw; (first | done | go_simp); try with_reducible rfl)) | fail
        try simp only [Act.put, List.setIfInBounds_toArray, List.set_cons_zero, List.set_cons_succ]
        first | (refine skipH (i := 1) (dst := some 58) rfl rfl (by kernel_rfl) (by kernel_rfl) (by kernel_rfl) (fun _ _ _ h => h) (by rfl) hHeld ?_) | (refine' takeH (i := 1) (dst := some 58) (v := _) rfl rfl (by kernel_rfl) (by kernel_rfl) (by kernel_rfl) (fun _ _ _ h => h) (by rfl) ?hy hHeld ?_; case hy => (intro w hSw; obtain ⟨⟨⟨_, _⟩, _⟩, _⟩ := hSw; (first | done | go_simp); try with_reducible rfl)) | fail
        try simp only [Act.put, List.setIfInBounds_toArray, List.set_cons_zero, List.set_cons_succ]
        first | (refine skipH (i := 2) (dst := some 59) rfl rfl (by kernel_rfl) (by kernel_rfl) (by kernel_rfl) (fun _ _ _ h => h) (by rfl) hHeld ?_) | (refine' takeH (i := 2) (dst := some 59) (v := _) rfl rfl (by kernel_rfl) (by kernel_rfl) (by kernel_rfl) (fun _ _ _ h => h) (by rfl) ?hy hHeld ?_; case hy => (intro w hSw; clear hSw; (first | done | go_simp); try with_reducible rfl)) | fail
        try simp only [Act.put, List.setIfInBounds_toArray, List.set_cons_zero, List.set_cons_succ]
        first | (refine skipH (i := 3) (dst := some 60) rfl rfl (by kernel_rfl) (by kernel_rfl) (by kernel_rfl) (fun _ _ _ h => h) (by rfl) hHeld ?_) | (refine' takeH (i := 3) (dst := some 60) (v := _) rfl rfl (by kernel_rfl) (by kernel_rfl) (by kernel_rfl) (fun _ _ _ h => h) (by rfl) ?hy hHeld ?_; case hy => (intro w hSw; clear hSw; (first | done | go_simp); try with_reducible rfl)) | fail
        try simp only [Act.put, List.setIfInBounds_toArray, List.set_cons_zero, List.set_cons_succ]
        first | (refine skipH (i := 4) (dst := some 61) rfl rfl (by kernel_rfl) (by kernel_rfl) (by kernel_rfl) (fun _ _ _ h => h) (by rfl) hHeld ?_) | (refine' takeH (i := 4) (dst := some 61) (v := _) rfl rfl (by kernel_rfl) (by kernel_rfl) (by kernel_rfl) (fun _ _ _ h => h) (by rfl) ?hy hHeld ?_; case hy => (intro w hSw; obtain ⟨⟨⟨_, _⟩, _⟩, _⟩ := hSw; (first | done | go_simp); try with_reducible rfl)) | fail
        try simp only [Act.put, List.setIfInBounds_toArray, List.set_cons_zero, List.set_cons_succ]
        first | (refine skipH (i := 5) (dst := some 62) rfl rfl (by kernel_rfl) (by kernel_rfl) (by kernel_rfl) (fun _ _ _ h => h) (by rfl) hHeld ?_) | (refine' takeH (i := 5) (dst := some 62) (v := _) rfl rfl (by kernel_rfl) (by kernel_rfl) (by kernel_rfl) (fun _ _ _ h => h) (by rfl) ?hy hHeld ?_; case hy => (intro w hSw; clear hSw; (first | done | go_simp); try with_reducible rfl)) | fail
        try simp only [Act.put, List.setIfInBounds_toArray, List.set_cons_zero, List.set_cons_succ]
        first | (refine skipH (i := 6) (dst := some 63) rfl rfl (by kernel_rfl) (by kernel_rfl) (by kernel_rfl) (fun _ _ _ h => h) (by rfl) hHeld ?_) | (refine' takeH (i := 6) (dst := some 63) (v := _) rfl rfl (by kernel_rfl) (by kernel_rfl) (by kernel_rfl) (fun _ _ _ h => h) (by rfl) ?hy hHeld ?_; case hy => (intro w hSw; obtain ⟨⟨⟨_, _⟩, _⟩, _⟩ := hSw; (first | done | go_simp); try with_reducible rfl)) | fail
        try simp only [Act.put, List.setIfInBounds_toArray, List.set_cons_zero, List.set_cons_succ]
        refine wpAnyH_ready (rs := [7]) (by kernel_rfl) (by simp) ?_
        refine AllReadyH.cons (i := 7) (o := ⟨some 64, .call _, _, _, _, _⟩) rfl (fun K hK => ?_) AllReadyH.nil
        go_simp
        refine (HT9.out _).mono ?_
        rintro e w4 ⟨rfl, hw4⟩
        have hH : ((w4.cell? ⟨bx, 5, none⟩ = some (.string S3) ∧ w4.cell? ⟨bx, 6, none⟩ = some (.int .i16 en)) ∧ w4.cell? ⟨tb, to_ + en.toNat, none⟩ = some (.int .i64 x0)) ∧ Below w3.heap.size w3 w4 := by rw [hw4]; exact hHeld
        clear hw4
        refine hK.out _ _ hH (fun _ => ?_)
        clear hK K hHeld
        have hHeld := hH
        clear hH
        try simp only [Act.put, List.setIfInBounds_toArray, List.set_cons_zero, List.set_cons_succ]
        first | (refine skipH (i := 8) (dst := some 56) rfl rfl (by kernel_rfl) (by kernel_rfl) (by kernel_rfl) (fun _ _ _ h => h) (by rfl) hHeld ?_) | (refine' takeH (i := 8) (dst := some 56) (v := _) rfl rfl (by kernel_rfl) (by kernel_rfl) (by kernel_rfl) (fun _ _ _ h => h) (by rfl) ?hy hHeld ?_; case hy => (intro w hSw; clear hSw; (first | done | go_simp); try with_reducible rfl)) | fail
        try simp only [Act.put, List.setIfInBounds_toArray, List.set_cons_zero, List.set_cons_succ]
        first | (refine skipH (i := 9) (dst := some 65) rfl rfl (by kernel_rfl) (by kernel_rfl) (by kernel_rfl) (fun _ _ _ h => h) (by rfl) hHeld ?_) | (refine' takeH (i := 9) (dst := some 65) (v := _) rfl rfl (by kernel_rfl) (by kernel_rfl) (by kernel_rfl) (fun _ _ _ h => h) (by rfl) ?hy hHeld ?_; case hy => (intro w hSw; clear hSw; (first | done | go_simp); try with_reducible rfl)) | fail
        try simp only [Act.put, List.setIfInBounds_toArray, List.set_cons_zero, List.set_cons_succ]
        first | (refine skipH (i := 10) (dst := some 66) rfl rfl (by kernel_rfl) (by kernel_rfl) (by kernel_rfl) (fun _ _ _ h => h) (by rfl) hHeld ?_) | (refine' takeH (i := 10) (dst := some 66) (v := _) rfl rfl (by kernel_rfl) (by kernel_rfl) (by kernel_rfl) (fun _ _ _ h => h) (by rfl) ?hy hHeld ?_; case hy => (intro w hSw; clear hSw; (first | done | go_simp); try with_reducible rfl)) | fail
        try simp only [Act.put, List.setIfInBounds_toArray, List.set_cons_zero, List.set_cons_succ]
        first | (refine skipH (i := 11) (dst := some 9) rfl rfl (by kernel_rfl) (by kernel_rfl) (by kernel_rfl) (fun _ _ _ h => h) (by rfl) hHeld ?_) | (refine' takeH (i := 11) (dst := some 9) (v := _) rfl rfl (by kernel_rfl) (by kernel_rfl) (by kernel_rfl) (fun _ _ _ h => h) (by rfl) ?hy hHeld ?_; case hy => (intro w hSw; clear hSw; (first | done | go_simp); try with_reducible rfl)) | fail
        try simp only [Act.put, List.setIfInBounds_toArray, List.set_cons_zero, List.set_cons_succ]
        first | (refine skipH (i := 12) (dst := some 10) rfl rfl (by kernel_rfl) (by kernel_rfl) (by kernel_rfl) (fun _ _ _ h => h) (by rfl) hHeld ?_) | (refine' takeH (i := 12) (dst := some 10) (v := _) rfl rfl (by kernel_rfl) (by kernel_rfl) (by kernel_rfl) (fun _ _ _ h => h) (by rfl) ?hy hHeld ?_; case hy => (intro w hSw; clear hSw; (first | done | go_simp); try with_reducible rfl)) | fail
        try simp only [Act.put, List.setIfInBounds_toArray, List.set_cons_zero, List.set_cons_succ]
        refine wpAnyH_done (by kernel_rfl) (NoPanic.normal ?_) _
        have C4 := Lib.hid (bt C3.out hHeld.2)
        have B4 := Lib.hid (bt B3.out hHeld.2)
        have X4 := Lib.hid hHeld.2
        clear hHeld
        generalize qnV qf x0 = y at *
        have d6 := (HX.out w4 C4.out).2.2.2.2.2.2
        have d1 := (HX.out w4 C4.out).2.1
        by_cases hcr : fm = crysT
        · have q1 : (S2.toList == ([99, 114, 121, 115, 116, 97, 108] : List UInt8)) = true := by rw [← HFM.out, Lib.toList_data, str_list, hcr]; rfl
          have HR9 := Lib.hid (HRT.out hcr (by omega))
          clear hcr
          go_wp2_with fail
          refine (HR9.out w4 B4.out).mono ?_
          rintro e w5 ⟨rfl, rfl⟩
          have et := HEC.out w5 X4.out
          go_upto_region 24 with (fail)
          clear et d6 d1 q1
          obtain ⟨tb9, to9, rfl, et9⟩ := HT0.out w5 B4.out
          have hrn1 : (0 : Int) < (rn : Int) := by have := HLN.out; omega
          have p3 := (HX.out w5 C4.out).2.2.2.1
          have G9 := Lib.hid (grows' w5 (.cells #[.string (str tx)] 9))
          have HF9 := Lib.hid (HFT.out (w5.alloc (.cells #[.string (str tx)] 9)) w5.heap.size 1 (bt B4.out G9.out) (lit_cells w5 #[.string (str tx)] 9 1 1 rfl))
          generalize str tx = S9 at et9 G9 HF9
          clear HFT
          go_wp2_with fail
          refine HF9.out.mono ?_
          rintro e w8 ⟨rfl, hb8⟩
          have C8 := Lib.hid (bt C4.out (bt G9.out hb8))
          have B8 := Lib.hid (bt B4.out (bt G9.out hb8))
          clear hb8 HF9 G9 p3 et9
          have N8 := Lib.hid (Mt.cells2_new w8 (.int .i64 (q : Nat)) (.int .i64 0) 64)
          have M8 := Lib.hid (grows' w8 (.cells #[.int .i64 (q : Nat), .int .i64 0] 64))
          go_upto_region 25 with (fail)
          generalize w8.alloc (.cells #[.int .i64 (q : Nat), .int .i64 0] 64) = w9 at *
          have C9 := Lib.hid (bt C8.out M8.out)
          have B9 := Lib.hid (bt B8.out M8.out)
          generalize w8.heap.size = bm at N8 ⊢
          have m0 := N8.out.1
          have m4 := (HX.out w9 C9.out).2.2.2.2.1
          have s4 := HBK.out w9 B9.out
          have HRL := Lib.hid (bt BW.out B9.out)
          rcases HBS.out with hqi | hqs
          · have zq : ((q : Int) != (i : Int)) = false := by rw [hqi]; simp
            clear hqi
            go_quiet (fail)
            go_wp2_with fail
            go_roundw
            case rel => exact ⟨i + 1, by omega, by go_num, below_dr HRL.out _⟩
            case measure => simp [RowKit.intOf]; omega
          · have zs : decide (sc2 < sc) = false := by simp; omega
            cases hzq : ((q : Int) != (i : Int)) with
            | false =>
              go_quiet (fail)
              go_wp2_with fail
              go_roundw
              case rel => exact ⟨i + 1, by omega, by go_num, below_dr HRL.out _⟩
              case measure => simp [RowKit.intOf]; omega
            | true =>
              go_quiet (fail)
              go_wp2_with fail
              go_roundw
              case rel => exact ⟨i + 1, by omega, by go_num, below_dr HRL.out _⟩
              case measure => simp [RowKit.intOf]; omega
        · have q1 : (S2.toList == ([99, 114, 121, 115, 116, 97, 108] : List UInt8)) = false := by rw [← HFM.out, Lib.toList_data, str_list]; simpa [crysT] using hcr
          clear hcr
          go_upto_region 24 with (fail)
          clear d6 d1 q1
          obtain ⟨tb9, to9, rfl, et9⟩ := HT0.out w4 B4.out
          have hrn1 : (0 : Int) < (rn : Int) := by have := HLN.out; omega
          have p3 := (HX.out w4 C4.out).2.2.2.1
          have G9 := Lib.hid (grows' w4 (.cells #[.string (str tx)] 9))
          have HF9 := Lib.hid (HFT.out (w4.alloc (.cells #[.string (str tx)] 9)) w4.heap.size 1 (bt B4.out G9.out) (lit_cells w4 #[.string (str tx)] 9 1 1 rfl))
          generalize str tx = S9 at et9 G9 HF9
          clear HFT
          go_wp2_with fail
          refine HF9.out.mono ?_
          rintro e w8 ⟨rfl, hb8⟩
          have C8 := Lib.hid (bt C4.out (bt G9.out hb8))
          have B8 := Lib.hid (bt B4.out (bt G9.out hb8))
          clear hb8 HF9 G9 p3 et9
          have N8 := Lib.hid (Mt.cells2_new w8 (.int .i64 (q : Nat)) (.int .i64 0) 64)
          have M8 := Lib.hid (grows' w8 (.cells #[.int .i64 (q : Nat), .int .i64 0] 64))
          go_upto_region 25 with (fail)
          generalize w8.alloc (.cells #[.int .i64 (q : Nat), .int .i64 0] 64) = w9 at *
          have C9 := Lib.hid (bt C8.out M8.out)
          have B9 := Lib.hid (bt B8.out M8.out)
          generalize w8.heap.size = bm at N8 ⊢
          have m0 := N8.out.1
          have m4 := (HX.out w9 C9.out).2.2.2.2.1
          have s4 := HBK.out w9 B9.out
          have HRL := Lib.hid (bt BW.out B9.out)
          rcases HBS.out with hqi | hqs
          · have zq : ((q : Int) != (i : Int)) = false := by rw [hqi]; simp
            clear hqi
            go_quiet (fail)
            go_wp2_with fail
            go_roundw
            case rel => exact ⟨i + 1, by omega, by go_num, below_dr HRL.out _⟩
            case measure => simp [RowKit.intOf]; omega
          · have zs : decide (sc2 < sc) = false := by simp; omega
            cases hzq : ((q : Int) != (i : Int)) with
            | false =>
              go_quiet (fail)
              go_wp2_with fail
              go_roundw
              case rel => exact ⟨i + 1, by omega, by go_num, below_dr HRL.out _⟩
              case measure => simp [RowKit.intOf]; omega
            | true =>
              go_quiet (fail)
              go_wp2_with fail
              go_roundw
              case rel => exact ⟨i + 1, by omega, by go_num, below_dr HRL.out _⟩
              case measure => simp [RowKit.intOf]; omega
      · have hst := HSN.out (by omega)
        subst hst
        have z0 : ¬ 0 ≤ en := by omega
        clear d6 d1
        have d6 := (HX.out w3 C3.out).2.2.2.2.2.2
        have d1 := (HX.out w3 C3.out).2.1
        by_cases hcr : fm = crysT
        · have q1 : (S2.toList == ([99, 114, 121, 115, 116, 97, 108] : List UInt8)) = true := by rw [← HFM.out, Lib.toList_data, str_list, hcr]; rfl
          clear hcr
          go_upto_region 24 with (fail)
          clear d6 d1 q1
          obtain ⟨tb9, to9, rfl, et9⟩ := HT0.out w3 B3.out
          have hrn1 : (0 : Int) < (rn : Int) := by have := HLN.out; omega
          have p3 := (HX.out w3 C3.out).2.2.2.1
          have G9 := Lib.hid (grows' w3 (.cells #[.string (str tx)] 9))
          have HF9 := Lib.hid (HFT.out (w3.alloc (.cells #[.string (str tx)] 9)) w3.heap.size 1 (bt B3.out G9.out) (lit_cells w3 #[.string (str tx)] 9 1 1 rfl))
          generalize str tx = S9 at et9 G9 HF9
          clear HFT
          go_wp2_with fail
          refine HF9.out.mono ?_
          rintro e w8 ⟨rfl, hb8⟩
          have C8 := Lib.hid (bt C3.out (bt G9.out hb8))
          have B8 := Lib.hid (bt B3.out (bt G9.out hb8))
          clear hb8 HF9 G9 p3 et9
          have N8 := Lib.hid (Mt.cells2_new w8 (.int .i64 (q : Nat)) (.int .i64 0) 64)
          have M8 := Lib.hid (grows' w8 (.cells #[.int .i64 (q : Nat), .int .i64 0] 64))
          go_upto_region 25 with (fail)
          generalize w8.alloc (.cells #[.int .i64 (q : Nat), .int .i64 0] 64) = w9 at *
          have C9 := Lib.hid (bt C8.out M8.out)
          have B9 := Lib.hid (bt B8.out M8.out)
          generalize w8.heap.size = bm at N8 ⊢
          have m0 := N8.out.1
          have m4 := (HX.out w9 C9.out).2.2.2.2.1
          have s4 := HBK.out w9 B9.out
          have HRL := Lib.hid (bt BW.out B9.out)
          rcases HBS.out with hqi | hqs
          · have zq : ((q : Int) != (i : Int)) = false := by rw [hqi]; simp
            clear hqi
            go_quiet (fail)
            go_wp2_with fail
            go_roundw
            case rel => exact ⟨i + 1, by omega, by go_num, below_dr HRL.out _⟩
            case measure => simp [RowKit.intOf]; omega
          · have zs : decide (sc2 < sc) = false := by simp; omega
            cases hzq : ((q : Int) != (i : Int)) with
            | false =>
              go_quiet (fail)
              go_wp2_with fail
              go_roundw
              case rel => exact ⟨i + 1, by omega, by go_num, below_dr HRL.out _⟩
              case measure => simp [RowKit.intOf]; omega
            | true =>
              go_quiet (fail)
              go_wp2_with fail
              go_roundw
              case rel => exact ⟨i + 1, by omega, by go_num, below_dr HRL.out _⟩
              case measure => simp [RowKit.intOf]; omega
        · have q1 : (S2.toList == ([99, 114, 121, 115, 116, 97, 108] : List UInt8)) = false := by rw [← HFM.out, Lib.toList_data, str_list]; simpa [crysT] using hcr
          clear hcr
          go_upto_region 24 with (fail)
          clear d6 d1 q1
          obtain ⟨tb9, to9, rfl, et9⟩ := HT0.out w3 B3.out
          have hrn1 : (0 : Int) < (rn : Int) := by have := HLN.out; omega
          have p3 := (HX.out w3 C3.out).2.2.2.1
          have G9 := Lib.hid (grows' w3 (.cells #[.string (str tx)] 9))
          have HF9 := Lib.hid (HFT.out (w3.alloc (.cells #[.string (str tx)] 9)) w3.heap.size 1 (bt B3.out G9.out) (lit_cells w3 #[.string (str tx)] 9 1 1 rfl))
          generalize str tx = S9 at et9 G9 HF9
          clear HFT
          go_wp2_with fail
          refine HF9.out.mono ?_
          rintro e w8 ⟨rfl, hb8⟩
          have C8 := Lib.hid (bt C3.out (bt G9.out hb8))
          have B8 := Lib.hid (bt B3.out (bt G9.out hb8))
          clear hb8 HF9 G9 p3 et9
          have N8 := Lib.hid (Mt.cells2_new w8 (.int .i64 (q : Nat)) (.int .i64 0) 64)
          have M8 := Lib.hid (grows' w8 (.cells #[.int .i64 (q : Nat), .int .i64 0] 64))
          go_upto_region 25 with (fail)
          generalize w8.alloc (.cells #[.int .i64 (q : Nat), .int .i64 0] 64) = w9 at *
          have C9 := Lib.hid (bt C8.out M8.out)
          have B9 := Lib.hid (bt B8.out M8.out)
          generalize w8.heap.size = bm at N8 ⊢
          have m0 := N8.out.1
          have m4 := (HX.out w9 C9.out).2.2.2.2.1
          have s4 := HBK.out w9 B9.out
          have HRL := Lib.hid (bt BW.out B9.out)
          rcases HBS.out with hqi | hqs
          · have zq : ((q : Int) != (i : Int)) = false := by rw [hqi]; simp
            clear hqi
            go_quiet (fail)
            go_wp2_with fail
            go_roundw
            case rel => exact ⟨i + 1, by omega, by go_num, below_dr HRL.out _⟩
            case measure => simp [RowKit.intOf]; omega
          · have zs : decide (sc2 < sc) = false := by simp; omega
            cases hzq : ((q : Int) != (i : Int)) with
            | false =>
              go_quiet (fail)
              go_wp2_with fail
              go_roundw
              case rel => exact ⟨i + 1, by omega, by go_num, below_dr HRL.out _⟩
              case measure => simp [RowKit.intOf]; omega
            | true =>
              go_quiet (fail)
              go_wp2_with fail
              go_roundw
              case rel => exact ⟨i + 1, by omega, by go_num, below_dr HRL.out _⟩
              case measure => simp [RowKit.intOf]; omega
    · obtain rfl : i = 22 := by omega
      have HFIN := Lib.hid (bt B1.out BW.out)
      go_wp2_with fail
      go_ret
      exact ⟨rfl, HFIN.out⟩
end Go.Proofs.YtnnaoneegeenkaaDoor.Mu
