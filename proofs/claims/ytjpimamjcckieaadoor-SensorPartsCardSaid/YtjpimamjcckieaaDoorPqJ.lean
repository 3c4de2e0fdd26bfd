/- slices.Sort over small numbers: the sort that defeats patterns, whole. -/
import Derived.Test.YtjpimamjcckieaaDoorPqI
import Derived.Sort.Walk13a
import Derived.Sort.AssemblyPlain
namespace Go.Proofs.YtjpimamjcckieaaDoor.Pq
open Go.ChangeShapes Go.WideShapes Go.ChangeAt Go.RowKit Go.Sort Go.Shelf

theorem rd_parts {dk d1 d2 d3 : Array Int} {a b lim l1 cv pv : Nat} {wb wp fin : Bool} {ch ht : Hint} (h : rd ltInt dk a b lim wb wp = ⟨d1, l1, (cv, ch), d2, pv, ht, (d3, fin)⟩) :
    (d1 = if !wb then breakPatterns dk a b else dk) ∧ (l1 = if !wb then lim - 1 else lim) ∧ choosePivot ltInt d1 a b = (cv, ch) ∧ (d2 = if ch = .decreasing then reverseRange d1 a b else d1) ∧ (pv = if ch = .decreasing then b - 1 - (cv - a) else cv) ∧ (ht = if ch = .decreasing then .increasing else ch) ∧ ((if (wb && wp && decide (ht = .increasing)) = true then partialInsertionSort ltInt d2 a b else (d2, false)) = (d3, fin)) := by
  unfold rd at h
  simp only [Rd.mk.injEq] at h
  obtain ⟨h1, h2, h3, h4, h5, h6, h7⟩ := h
  rw [h1] at h3 h4 h5 h6 h7
  rw [h3] at h4 h5 h6 h7
  dsimp only at h4 h5 h6 h7
  rw [h4, h6] at h7
  exact ⟨h1.symm, h2.symm, h3, h4.symm, h5.symm, h6.symm, h7⟩
theorem hintV_dec {h : Hint} : h = .decreasing ↔ hintV h = 2 := by cases h <;> decide
theorem hintV_inc {h : Hint} : h = .increasing ↔ hintV h = 1 := by cases h <;> decide

set_option maxRecDepth 100000 in
set_option maxHeartbeats 16000000 in
theorem pdq_any (blk off cap : Nat) (d0 : Array Int) (w0 : World) (R : Row1 enc w0 blk off d0) : ∀ (N a0 b0 lim0 : Nat) (d : Array Int) (w : World), b0 - a0 < N → d.size = d0.size → SW enc w0 blk off d w → a0 ≤ b0 → b0 ≤ d.size → d.size < 1152921504606846976 → lim0 < 4611686018427387904 → Go.Sort.Below ltInt a0 b0 d →
    Calls Tryd.prog 10 #[.slice (some ⟨blk, off, none⟩) d.size cap, .int .i64 (a0 : Int), .int .i64 (b0 : Int), .int .i64 (lim0 : Int)] w fun e w' => e = .returned (.tuple #[]) ∧ ∃ d', d'.size = d0.size ∧ d' = pdq ltInt d a0 b0 lim0 true true ∧ SW enc w0 blk off d' w' := by
  intro N
  induction N with
  | zero => intro _ _ _ _ _ h; exact absurd h (Nat.not_lt_zero _)
  | succ N ih =>
  intro a0 b0 lim0 d w hN hs S hab0 hb0 hsz hl0 hB
  have S0 := Lib.hid S
  have HZ := Lib.hid hs
  have HB := Lib.hid hB
  have IH := Lib.hid ih
  obtain ⟨PD, hPD⟩ : ∃ PD, PD = pdq ltInt d a0 b0 lim0 true true := ⟨_, rfl⟩
  rw [← hPD]
  have HP := Lib.hid (show pdq ltInt d a0 b0 lim0 true true = PD from hPD.symm)
  clear hPD S hs hB ih
  go_enter Tryd.func10, Tryd.ntmps10
  go_wp2
  go_loopg [1, 2, 3, 8, 9] (b0 - a0) (fun g s1 s2 s3 s8 s9 wr => ∃ (a b lim : Nat) (wb wp : Bool) (dk : Array Int), s1 = .int .i64 (a : Int) ∧ s2 = .int .i64 (b : Int) ∧ s3 = .int .i64 (lim : Int) ∧ s8 = .bool wb ∧ s9 = .bool wp ∧ a ≤ b ∧ b ≤ d.size ∧ b - a ≤ g ∧ g ≤ N ∧ lim ≤ lim0 ∧ dk.size = d.size ∧ Hid (Go.Sort.Below ltInt a b dk) ∧ Hid (SW enc w0 blk off dk wr) ∧ Hid (pdq ltInt dk a b lim wb wp = PD))
  case atStart => exact ⟨a0, b0, lim0, true, true, d, rfl, rfl, rfl, rfl, rfl, hab0, hb0, Nat.le_refl _, by omega, Nat.le_refl _, rfl, HB, S0, HP⟩
  case round =>
    clear S0 HB HP
    obtain ⟨a, b, lim, wb, wp, dk, rfl, rfl, rfl, rfl, rfl, hab, hb, hg, hgN, hlim, hsk, HB, S1, HI⟩ := hrel
    obtain ⟨L, hL⟩ : ∃ L : Nat, (b : Int) - (a : Int) = (L : Int) := ⟨b - a, by omega⟩
    have HL := Lib.hid (show L = b - a by omega)
    have wL : IntKind.i64.wrap (L : Int) = (L : Int) := by rw [IntKind.wrap_i64]; omega
    by_cases h12 : L ≤ 12
    · have h12z : (L : Int) ≤ 12 := by omega
      have h12b : decide ((L : Int) ≤ 12) = true := decide_eq_true h12z
      have hc := Lib.hid (insertion_any blk off cap a b d0 dk w0 wr R (hsk.trans HZ.out) S1.out (by omega) (by omega) hab)
      rw [hsk] at hc
      go_wp2_with (go_at_call 12; refine hc.out.mono ?_; rintro e w1 ⟨rfl, d', hs', hd', S'⟩)
      ((try simp only [Exit.inBlock, Exit.then]); refine bodyPost_ret (results_none rfl _ _ _) rfl ?_)
      exact ⟨rfl, d', hs', by rw [hd', ← HI.out, pdq_small (by rw [← HL.out]; exact h12)], S'⟩
    · have h12z : ¬ (L : Int) ≤ 12 := by omega
      have h12b : decide ((L : Int) ≤ 12) = false := decide_eq_false h12z
      have HN12 := Lib.hid (show ¬ b - a ≤ 12 by rw [← HL.out]; exact h12)
      by_cases hl0' : lim = 0
      · subst hl0'
        have hc := Lib.hid (heap_any blk off cap a b d0 dk w0 wr R (hsk.trans HZ.out) S1.out (by omega) (by omega) (by omega))
        rw [hsk] at hc
        go_wp2_with (go_at_call 13; refine hc.out.mono ?_; rintro e w1 ⟨rfl, d', hs', hd', S'⟩)
        ((try simp only [Exit.inBlock, Exit.then]); refine bodyPost_ret (results_none rfl _ _ _) rfl ?_)
        exact ⟨rfl, d', hs', by rw [hd', ← HI.out, pdq_heap HN12.out rfl], S'⟩
      · have hlz : ¬ (lim : Int) = 0 := by omega
        have hlb : ((lim : Int) == 0) = false := by simp; omega
        have HL0 := Lib.hid hl0'
        obtain ⟨⟨d1, l1, ⟨cv, ch⟩, d2, pv, ht, ⟨d3, fin⟩⟩, hr⟩ : ∃ r, rd ltInt dk a b lim wb wp = r := ⟨_, rfl⟩
        have F := rd_facts (limit := lim) (wb := wb) (wp := wp) swo_ltInt partialInsertionSort_holds reverseRange_holds (show a < b by omega) (show b ≤ dk.size by omega) HB.out
        rw [hr] at F
        dsimp only at F
        obtain ⟨s1, B1, ⟨c1, c2⟩, s2, B2, ⟨p1, p2⟩, s3, B3⟩ := F
        rw [hsk] at s1 s2 s3
        have HB3 := Lib.hid B3
        have HR := Lib.hid (rd_parts hr)
        have hl1 : l1 ≤ lim := by have h := @rd_lim_le Int _ ltInt dk a b lim wb wp; rw [hr] at h; exact h
        have HRR := Lib.hid hr
        have h13 : 13 ≤ b - a := by have := HN12.out; omega
        clear hr B1 B2 B3 HB hl0' h12
        go_upto_if 35 with fail
        go_cut [3] from 19 (fun t3 wx => t3 = .int .i64 (l1 : Int) ∧ Hid (SW enc w0 blk off d1 wx))
        case first =>
          cases wb
          · have hc := Lib.hid (break_any blk off cap a b d0 dk w0 wr R (hsk.trans HZ.out) S1.out (by omega) (by omega) h13)
            rw [hsk] at hc
            have e1 : d1 = breakPatterns dk a b := HR.out.1
            have e2 : l1 = lim - 1 := HR.out.2.1
            have e3 : (lim : Int) - 1 = (l1 : Int) := by omega
            have e4 : IntKind.i64.wrap (l1 : Int) = (l1 : Int) := by rw [IntKind.wrap_i64]; omega
            have HE := Lib.hid e1
            clear e1 e2
            go_wp2_with (go_at_call 14; refine hc.out.mono ?_; rintro e w1 ⟨rfl, d', hs', hd', S'⟩)
            go_meet
            exact ⟨by first | rfl | go_num | (congr 1; omega), Lib.hid (by rw [HE.out, ← hd']; exact S')⟩
          · have HE := Lib.hid (show d1 = dk ∧ l1 = lim from ⟨HR.out.1, HR.out.2.1⟩)
            go_wp2_with fail
            go_meet
            exact ⟨by rw [HE.out.2], by rw [HE.out.1]; exact S1⟩
        case rest =>
        obtain ⟨rfl, S2⟩ := hcut
        clear S1
        generalize wc = v1 at S2 ⊢
        clear wc
        have hc := Lib.hid (choose_any blk off cap a b d0 d1 w0 v1 R (s1.trans HZ.out) S2.out (by omega) (by omega) h13)
        rw [s1, HR.out.2.2.1] at hc
        dsimp only at hc
        obtain ⟨hv, hhv⟩ : ∃ hv, hv = hintV ch := ⟨_, rfl⟩
        rw [← hhv] at hc
        have HHV := Lib.hid hhv
        clear hhv
        go_upto_if 50 with (go_at_call 15; refine hc.out.mono ?_; rintro e w2 ⟨rfl, S3⟩)
        replace S3 := Lib.hid S3
        clear S2 hc
        obtain ⟨hw, hhw⟩ : ∃ hw, hw = hintV ht := ⟨_, rfl⟩
        have HHW := Lib.hid hhw
        clear hhw
        go_cut [11, 12] from 19 (fun t11 t12 wx => t11 = .int .i64 (pv : Int) ∧ t12 = .int .i64 hw ∧ Hid (SW enc w0 blk off d2 wx))
        case first =>
          by_cases hh : ch = .decreasing
          · have e0 := hintV_dec.1 hh
            rw [← HHV.out] at e0
            have HE := Lib.hid (show d2 = reverseRange d1 a b ∧ pv = b - 1 - (cv - a) ∧ ht = .increasing from ⟨HR.out.2.2.2.1.trans (if_pos hh), HR.out.2.2.2.2.1.trans (if_pos hh), HR.out.2.2.2.2.2.1.trans (if_pos hh)⟩)
            have e5 : hw = 1 := by rw [HHW.out]; exact hintV_inc.1 HE.out.2.2
            obtain ⟨bm, hbm⟩ : ∃ bm : Nat, (b : Int) - 1 = (bm : Int) := ⟨b - 1, by omega⟩
            obtain ⟨ca, hca⟩ : ∃ ca : Nat, (cv : Int) - (a : Int) = (ca : Int) := ⟨cv - a, by omega⟩
            have hpv : (bm : Int) - (ca : Int) = (pv : Int) := by have := HE.out.2.1; omega
            have wbm : IntKind.i64.wrap (bm : Int) = (bm : Int) := by rw [IntKind.wrap_i64]; omega
            have wca : IntKind.i64.wrap (ca : Int) = (ca : Int) := by rw [IntKind.wrap_i64]; omega
            have wpv : IntKind.i64.wrap (pv : Int) = (pv : Int) := by rw [IntKind.wrap_i64]; omega
            have hc := Lib.hid (reverse_any blk off cap a b d0 d1 w0 w2 R (s1.trans HZ.out) S3.out (by omega) (by omega) (by omega))
            rw [s1] at hc
            clear hh
            subst e0 e5
            go_wp2_with (go_at_call 16; refine hc.out.mono ?_; rintro e w3 ⟨rfl, d', hs', hd', S'⟩)
            go_meet
            exact ⟨by first | rfl | go_num | (congr 1; omega), rfl, Lib.hid (by rw [HE.out.1, ← hd']; exact S')⟩
          · have e0 : ¬ hv = 2 := fun h => hh (hintV_dec.2 (HHV.out.symm.trans h))
            have e0b : (hv == 2) = false := by simp [e0]
            have HE := Lib.hid (show d2 = d1 ∧ pv = cv ∧ ht = ch from ⟨HR.out.2.2.2.1.trans (if_neg hh), HR.out.2.2.2.2.1.trans (if_neg hh), HR.out.2.2.2.2.2.1.trans (if_neg hh)⟩)
            go_wp2_with fail
            go_meet
            exact ⟨by rw [HE.out.2.1], by rw [HHW.out, HE.out.2.2, ← HHV.out], by rw [HE.out.1]; exact S3⟩
        case rest =>
        obtain ⟨rfl, rfl, S4⟩ := hcut
        clear S3
        generalize wc = v2 at S4 ⊢
        clear wc
        obtain ⟨tt, htt⟩ : ∃ tt, tt = (wb && wp && decide (ht = .increasing)) := ⟨_, rfl⟩
        have HT := Lib.hid htt
        clear htt
        go_upto_region 15 with fail
        go_cut [12, 68] from 19 (fun t12 t68 wx => t12 = .int .i64 hw ∧ t68 = .bool tt ∧ wx = v2)
        case first =>
          by_cases hi : ht = .increasing
          · have e0 := hintV_inc.1 hi
            rw [← HHW.out] at e0
            have hid : decide (ht = .increasing) = true := decide_eq_true hi
            subst e0
            cases wb <;> cases wp <;>
              (go_wp2_with fail
               go_meet
               exact ⟨rfl, by rw [HT.out, hid]; rfl, rfl⟩)
          · have e0 : ¬ hw = 1 := fun h => hi (hintV_inc.2 (HHW.out.symm.trans h))
            have e0b : (hw == 1) = false := by simp [e0]
            have hid : decide (ht = .increasing) = false := decide_eq_false hi
            cases wb <;> cases wp <;>
              (go_wp2_with fail
               go_meet
               exact ⟨rfl, by rw [HT.out, hid]; rfl, rfl⟩)
        case rest =>
        obtain ⟨rfl, rfl, rfl⟩ := hcut
        go_upto_if 68 with fail
        go_cut [] from 19 (fun wx => fin = false ∧ Hid (SW enc w0 blk off d3 wx))
        case first =>
          cases tt
          · have HE := Lib.hid (show (d2, false) = (d3, fin) by have h := HR.out.2.2.2.2.2.2; rw [← HT.out, if_neg Bool.false_ne_true] at h; exact h)
            go_wp2_with fail
            go_meet
            exact ⟨(congrArg Prod.snd HE.out).symm, by rw [← show d2 = d3 from congrArg Prod.fst HE.out]; exact S4⟩
          · have HE := Lib.hid (show partialInsertionSort ltInt d2 a b = (d3, fin) by have h := HR.out.2.2.2.2.2.2; rw [← HT.out, if_pos rfl] at h; exact h)
            have hc := Lib.hid (partial_any blk off cap a b d0 d2 w0 _ R (s2.trans HZ.out) S4.out (by omega) (by omega) (by omega))
            rw [s2, HE.out] at hc
            dsimp only at hc
            cases fin
            · go_wp2_with (go_at_call 17; refine hc.out.mono ?_; rintro e w3 ⟨rfl, d', hs', hd', S'⟩)
              go_meet
              exact ⟨by first | rfl | trivial, Lib.hid (by rw [← hd']; exact S')⟩
            · go_wp2_with (go_at_call 17; refine hc.out.mono ?_; rintro e w3 ⟨rfl, d', hs', hd', S'⟩)
              ((try simp only [Exit.inBlock, Exit.then]); refine bodyPost_ret (results_none rfl _ _ _) rfl ?_)
              exact ⟨rfl, d', hs', by rw [hd', ← HI.out, pdq_done HN12.out HL0.out (by rw [HRR.out]), HRR.out], S'⟩
        case rest =>
        obtain ⟨rfl, S5⟩ := hcut
        clear S4
        generalize wc = v3 at S5 ⊢
        clear wc
        obtain ⟨uu, huu⟩ : ∃ uu, uu = (decide (a > 0) && !ltInt d3[a - 1]! d3[pv]!) := ⟨_, rfl⟩
        have HU := Lib.hid huu
        clear huu
        go_upto_region 17 with fail
        go_cut [1, 87] from 19 (fun t1 t87 wx => t1 = .int .i64 (a : Int) ∧ t87 = .bool uu ∧ Hid (SW enc w0 blk off d3 wx))
        case first =>
          by_cases ha0 : 0 < a
          · obtain ⟨jp, hjp⟩ : ∃ q, q + 1 = a := ⟨a - 1, by omega⟩
            have zjp : (a : Int) = (jp : Int) + 1 := by omega
            obtain ⟨ibN, hibN⟩ : ∃ q, q = a - 1 := ⟨_, rfl⟩
            have ga : (0 : Int) < (jp : Int) + 1 := by omega
            have ibe : ((jp : Int)).toNat = ibN := by omega
            have ibp : (0 : Int) ≤ (jp : Int) := by omega
            have ibb : (jp : Int) < (d.size : Int) := by omega
            have ibr : IntKind.i64.wrap ((jp : Int)) = (jp : Int) := by rw [IntKind.wrap_i64]; omega
            have q2 : (0 : Int) ≤ (pv : Int) := by omega
            have q3 : (pv : Int) < (d.size : Int) := by omega
            obtain ⟨x, hx⟩ : ∃ x, x = d3[a - 1]! := ⟨_, rfl⟩
            obtain ⟨y, hy⟩ : ∃ x, x = d3[pv]! := ⟨_, rfl⟩
            have lx := S5.out.c1 R (by have := HZ.out; omega) (a - 1) (by omega)
            have ly := S5.out.c1 R (by have := HZ.out; omega) pv (by omega)
            rw [← hx, ← hibN] at lx
            rw [← hy] at ly
            unfold enc at lx ly
            have HX := Lib.hid (And.intro hx (And.intro hy (And.intro hjp ha0)))
            clear hx hy hibN hjp
            rw [zjp]
            rcases hlv : ltInt x y with _ | _
            · go_wp2_with fail
              go_quiet (first | (go_at_call 18; refine Calls.quiet_of_same (less_any _ _ _)))
              have S6 : Hid (SW enc w0 blk off d3 (v3.drewN nq)) := Lib.hid (S5.out.drewN nq)
              clear lx ly
              generalize v3.drewN nq = w4 at S6 ⊢
              go_wp2_with fail
              go_meet
              exact ⟨by first | rfl | (congr 1; omega), by rw [HU.out, ← HX.out.1, ← HX.out.2.1, hlv, decide_eq_true HX.out.2.2.2]; rfl, S6⟩
            · go_wp2_with fail
              go_quiet (first | (go_at_call 18; refine Calls.quiet_of_same (less_any _ _ _)))
              have S6 : Hid (SW enc w0 blk off d3 (v3.drewN nq)) := Lib.hid (S5.out.drewN nq)
              clear lx ly
              generalize v3.drewN nq = w4 at S6 ⊢
              go_wp2_with fail
              go_meet
              exact ⟨by first | rfl | (congr 1; omega), by rw [HU.out, ← HX.out.1, ← HX.out.2.1, hlv, decide_eq_true HX.out.2.2.2]; rfl, S6⟩
          · have ga : ¬ (0 : Int) < (a : Int) := by omega
            have gab : decide ((0 : Int) < (a : Int)) = false := decide_eq_false ga
            have gac : decide ((a : Int) > 0) = false := decide_eq_false ga
            have gad : ¬ (a : Int) > 0 := ga
            have HX := Lib.hid ha0
            have gan : decide (0 < a) = false := decide_eq_false ha0
            go_wp2_with fail
            go_big_region
            have S6 : Hid (SW enc w0 blk off d3 v3.drew) := Lib.hid S5.out.drew
            generalize v3.drew = w4 at S6 ⊢
            go_wp2_with fail
            go_meet
            exact ⟨rfl, by rw [HU.out, decide_eq_false HX.out]; rfl, S6⟩
        case rest =>
        obtain ⟨rfl, rfl, S6⟩ := hcut
        clear S5
        generalize wc = v4 at S6 ⊢
        clear wc
        cases uu
        · obtain ⟨mid, ap, d4, hx⟩ : ∃ mid ap d4, partition ltInt d3 a b pv = (mid, ap, d4) := ⟨_, _, _, rfl⟩
          obtain ⟨r1, r2, r3, r4, r5, r6, r7⟩ := round_part swo_ltInt (partition_holds ltInt) p1 p2 (show b ≤ d3.size by omega) HB3.out hx
          have hc := Lib.hid (part_any blk off cap a b pv d0 d3 w0 v4 R (s3.trans HZ.out) S6.out (by omega) (by omega) p1 p2)
          rw [s3, hx] at hc
          dsimp only at hc
          rw [s3] at r3
          have X := Lib.hid (And.intro hx (And.intro (And.intro r4 r5) (And.intro r6 r7)))
          clear hx r4 r5 r6 r7
          obtain ⟨ml, hml⟩ : ∃ ml : Nat, (mid : Int) - (a : Int) = (ml : Int) := ⟨mid - a, by omega⟩
          obtain ⟨mr, hmr⟩ : ∃ mr : Nat, (b : Int) - (mid : Int) = (mr : Int) := ⟨b - mid, by omega⟩
          obtain ⟨q8, hq8⟩ : ∃ q8 : Nat, (L : Int).tdiv 8 = (q8 : Int) := ⟨L / 8, by rw [Int.tdiv_eq_ediv_of_nonneg (by omega)]; omega⟩
          have hq8' : (L : Int) / 8 = (q8 : Int) := by rw [Int.tdiv_eq_ediv_of_nonneg (by omega)] at hq8; omega
          have HQ8 := Lib.hid (show q8 = (b - a) / 8 by rw [← HL.out]; omega)
          have HM := Lib.hid (show ml = mid - a ∧ mr = b - mid by omega)
          have wml : IntKind.i64.wrap (ml : Int) = (ml : Int) := by rw [IntKind.wrap_i64]; omega
          have wmr : IntKind.i64.wrap (mr : Int) = (mr : Int) := by rw [IntKind.wrap_i64]; omega
          have wq8 : IntKind.i64.wrap (q8 : Int) = (q8 : Int) := by rw [IntKind.wrap_i64]; omega
          have wmid : IntKind.i64.wrap ((mid : Int) + 1) = (mid : Int) + 1 := by rw [IntKind.wrap_i64]; omega
          go_upto_if 113 with (go_at_call 20; refine hc.out.mono ?_; rintro e w7 ⟨rfl, d4', hs4, hd4, S7⟩)
          rw [hd4] at S7
          clear hd4 hs4
          replace S7 := Lib.hid S7
          clear S6 hc
          by_cases h4 : ml < mr
          · have h4z : (ml : Int) < (mr : Int) := by omega
            have hih := Lib.hid (IH.out a mid l1 d4 w7 (by omega) (r3.trans HZ.out) S7.out r1 (by omega) (by omega) (by omega) X.out.2.1.1)
            rw [r3] at hih
            have HPL := Lib.hid (pdq_sorts ltInt swo_ltInt d4 a mid l1 true true r1 (by omega) X.out.2.1.1)
            have HF := Lib.hid (show pdq ltInt (pdq ltInt d4 a mid l1 true true) (mid + 1) b l1 (decide (mid - a ≥ (b - a) / 8)) ap = PD by
              rw [← HI.out, pdq_left HN12.out HL0.out (by rw [HRR.out]) (by rw [HRR.out]; exact HU.out.symm) (by rw [HRR.out]; dsimp only; rw [X.out.1]; exact ⟨r1, r2⟩) (by rw [HRR.out]; dsimp only; rw [X.out.1]; dsimp only; rw [← HM.out.1, ← HM.out.2]; exact h4), HRR.out]
              dsimp only
              rw [X.out.1])
            go_wp2_with (go_at_call 10; refine hih.out.mono ?_; rintro e w8 ⟨rfl, d5, hs5, hd5, S8⟩)
            go_roundg (b - (mid + 1))
            case measure => omega
            case rel =>
              refine ⟨mid + 1, b, l1, decide (mid - a ≥ (b - a) / 8), ap, d5, by first | rfl | go_num | (congr 1; omega), rfl, rfl, ?_, rfl, by omega, hb, Nat.le_refl _, by omega, by omega, hs5.trans HZ.out.symm, Lib.hid (by rw [hd5]; exact (X.out.2.2.1 _ HPL.out.1 HPL.out.2).1), Lib.hid S8, by rw [hd5]; exact HF⟩
              have e1 := HQ8.out
              have e2 := HM.out.1
              congr 1
              exact decide_eq_decide.2 (by omega)
          · have h4z : ¬ (ml : Int) < (mr : Int) := by omega
            have h4b : decide ((ml : Int) < (mr : Int)) = false := decide_eq_false h4z
            have hih := Lib.hid (IH.out (mid + 1) b l1 d4 w7 (by omega) (r3.trans HZ.out) S7.out (by omega) (by omega) (by omega) (by omega) X.out.2.1.2)
            rw [r3, show ((mid + 1 : Nat) : Int) = (mid : Int) + 1 by omega] at hih
            have HPL := Lib.hid (pdq_sorts ltInt swo_ltInt d4 (mid + 1) b l1 true true (by omega) (by omega) X.out.2.1.2)
            have HF := Lib.hid (show pdq ltInt (pdq ltInt d4 (mid + 1) b l1 true true) a mid l1 (decide (b - mid ≥ (b - a) / 8)) ap = PD by
              rw [← HI.out, pdq_right HN12.out HL0.out (by rw [HRR.out]) (by rw [HRR.out]; exact HU.out.symm) (by rw [HRR.out]; dsimp only; rw [X.out.1]; exact ⟨r1, r2⟩) (by rw [HRR.out]; dsimp only; rw [X.out.1]; dsimp only; rw [← HM.out.1, ← HM.out.2]; exact h4), HRR.out]
              dsimp only
              rw [X.out.1])
            go_wp2_with (go_at_call 10; refine hih.out.mono ?_; rintro e w8 ⟨rfl, d5, hs5, hd5, S8⟩)
            go_roundg (mid - a)
            case measure => omega
            case rel =>
              refine ⟨a, mid, l1, decide (b - mid ≥ (b - a) / 8), ap, d5, rfl, rfl, rfl, ?_, rfl, r1, by omega, Nat.le_refl _, by omega, by omega, hs5.trans HZ.out.symm, Lib.hid (by rw [hd5]; exact (X.out.2.2.2 _ HPL.out.1 HPL.out.2).1), Lib.hid S8, by rw [hd5]; exact HF⟩
              have e1 := HQ8.out
              have e2 := HM.out.2
              congr 1
              exact decide_eq_decide.2 (by omega)
        · have HU2 := Lib.hid (show 0 < a ∧ ltInt d3[a - 1]! d3[pv]! = false by have h := HU.out.symm; simp only [Bool.and_eq_true, decide_eq_true_eq, Bool.not_eq_true'] at h; exact h)
          obtain ⟨mid, d4, hx⟩ : ∃ mid d4, partitionEqual ltInt d3 a b pv = (mid, d4) := ⟨_, _, rfl⟩
          obtain ⟨r1, r2, r3, r4, _⟩ := round_eq swo_ltInt (partitionEqual_holds ltInt) HU2.out.1 p1 p2 (show b ≤ d3.size by omega) HB3.out HU2.out.2 hx
          have hc := Lib.hid (parteq_any blk off cap a b pv d0 d3 w0 v4 R (s3.trans HZ.out) S6.out (by omega) (by omega) p1 p2)
          rw [s3, hx] at hc
          dsimp only at hc
          rw [s3] at r3
          have HF := Lib.hid (show pdq ltInt d4 mid b l1 wb wp = PD by
            rw [← HI.out, pdq_eq HN12.out HL0.out (by rw [HRR.out]) (by rw [HRR.out]; exact HU.out.symm) (by rw [HRR.out]; dsimp only; rw [hx]; exact ⟨r1, r2⟩), HRR.out]
            dsimp only
            rw [hx])
          have HB4 := Lib.hid r4
          clear hx r4
          go_wp2_with (go_at_call 19; refine hc.out.mono ?_; rintro e w7 ⟨rfl, d4', hs4, rfl, S7⟩)
          go_roundg (b - mid)
          case measure => omega
          case rel => exact ⟨mid, b, l1, wb, wp, d4', rfl, rfl, rfl, rfl, rfl, r2, hb, Nat.le_refl _, by omega, by omega, r3, HB4, Lib.hid S7, HF⟩
end Go.Proofs.YtjpimamjcckieaaDoor.Pq
