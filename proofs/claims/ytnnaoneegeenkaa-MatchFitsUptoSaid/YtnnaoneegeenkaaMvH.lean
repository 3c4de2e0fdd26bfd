/- Which card fits: the law MatchFits. -/
import Derived.Test.YtnnaoneegeenkaaMvG
import Derived.StillTailTactics
namespace Go.Proofs.Ytnnaoneegeenkaa.Mv
open Go.ChangeShapes Go.WideShapes Go.ChangeAt Go.RowKit Own Ro Kc wordsNames Go.Maps Go.WideMaps
open Mt

theorem Lent.cap {W : World} {base n c : Nat} {A : Option Addr} {L : List Cd} {R : List Sl} (h : Lent W base A n c L R) (k : Nat) : (R.getD k sl0).2.1 ≤ (R.getD k sl0).2.2 ∧ Neat (R.getD k sl0) := by
  by_cases hk : k < n
  · obtain ⟨q, h1, _, _, h2, _⟩ := h.inner hk
    exact ⟨by omega, fun e => by rw [h1] at e; cases e⟩
  · have e : R.getD k sl0 = sl0 := by
      rw [List.getD_eq_getElem?_getD, List.getElem?_eq_none (by rw [h.rn, ← h.ln]; omega)]
      rfl
    rw [e]
    exact ⟨Nat.le_refl _, fun _ => rfl⟩
set_option maxRecDepth 100000 in
set_option maxHeartbeats 32000000 in
theorem law_any (A B : Option Addr) (c n d m : Nat) (L : List Cd) (R0 : List Sl) (ls : List Tx) (w : World) (hm : MildL 1048576 L) (hnc : n ≤ c) (hA : Ro.RowsIn KC w A n L R0) (hneat : ∀ k, Neat (R0.getD k sl0))
    (hmn : m = ls.length) (hmb : m ≤ 1048576) (hml : ∀ j, (ls.getD j []).length ≤ 1048576) (hB : CellsIn w 1 B m (Kc.strs ls)) (hnB : Neat (B, m, d)) :
    Calls Try.prog 3 #[.slice A n c, .slice B m d] w fun e w' => e = .returned (.bool true) ∧ Below w.heap.size w w' := by
  have HL := Lib.hid (lent_any A c n L R0 w hm hA hneat)
  obtain ⟨cd, tx, er, hf⟩ := fitRel_ex L ls
  have HRF := Lib.hid (fun W (hW : Below w.heap.size w W) => refFit_any A B c n d m L R0 ls cd tx er W hf (mildL_mono hm (by decide)) hnc (hA.below hW) hmn (by omega) (hB.below hW))
  have HFT := Lib.hid (fun W A1 c1 R gs c3 b1 (hx : Lent W w.heap.size A1 n c1 L R) (ht : TL W b1 gs m c3 ls) => fit_any A1 (some ⟨gs, 0, none⟩) c1 n c3 m L R ls cd tx er W hf (mildL_mono hm (by decide)) (fun k => (hx.cap k).1) hx.rows hmn (by omega) (fun j => Nat.le_trans (hml j) (by unfold maxLen; decide)) ht.cells)
  have HKP := Lib.hid (fun W A1 c1 R (hW : Below w.heap.size w W) (hx : Lent W w.heap.size A1 n c1 L R) (hc1 : n + 1 ≤ c1) => kept_any A1 A c1 n c w.heap.size L R R0 W hm hx hc1 (hA.below hW))
  have HB := Lib.hid (fun W (hW : Below w.heap.size w W) => (hB.below hW).src hnB)
  have HBC := Lib.hid (fun W (hW : Below w.heap.size w W) => hB.below hW)
  have hnb : n ≤ 1048576 := by rw [hA.1]; exact hm.1
  have HN := Lib.hid hA.1
  have HM := Lib.hid hm
  have HML := Lib.hid hml
  have HMN := Lib.hid hmn
  clear hm hA hneat hf hB hnB hml hmn
  go_enter Try.func3, Try.ntmps3
  go_wp2_with fail
  refine HL.out.mono ?_
  rintro e w1 ⟨A1, c1, R, rfl, hx1, hc1, hb1⟩
  have X1 := Lib.hid hx1
  have B1 := Lib.hid hb1
  have HC1 := Lib.hid hc1
  have z1 := hb1.size
  have hB1 := HB.out _ (bt B1.out (grows' w1 (.cells #[] 9)))
  clear hx1 hb1 HL hc1
  go_wp2_with (first
    | ((with_reducible (show wpList _ _ _ ((⟨some 19, _, _, _, _, _⟩ : Oper) :: _) _ _)); refine wpList_append_srcK (o := ⟨some 19, _, _, _, _, _⟩) rfl (.tmp 17) (.tmp 18) 23 rfl w1.heap.size 9 (.string ⟨#[]⟩) 1 16 (by omega) Try.underlying23 info_str rfl _ 0 [] rfl (own_emptyK w1 9 1) B m d (Kc.strs ls) rfl hB1 (one_strs ls) (by omega) (by omega) (by simp) ?_; intro v2 w2 ho2 hg2; rw [Nat.zero_add, List.nil_append] at ho2; have B2 := Lib.hid (below_first hg2); have HO2 := Lib.hid ho2; clear ho2 hg2)
    | ((with_reducible (show wpList _ _ _ ((⟨some 21, _, _, _, _, _⟩ : Oper) :: _) _ _)); refine wpList_append_srcK (o := ⟨some 21, _, _, _, _, _⟩) rfl (.tmp 19) (.tmp 20) 23 rfl w1.heap.size 9 (.string ⟨#[]⟩) 1 16 (by omega) Try.underlying23 info_str rfl _ m (Kc.strs ls) rfl (own_belowK HO2.out (grows' w2 _)) _ 1 1 [.string (str markT)] rfl (src_mark w2) (by intro u hu; simp at hu; subst hu; rfl) (by omega) (by omega) (by have := B2.out.size; simp; omega) ?_; intro v3 w3 ho3 hg3; have B3 := Lib.hid (below_grown' B2.out B2.out.size HO2.out (Nat.le_refl _) hg3); have HO3 := Lib.hid ho3; clear ho3 hg3; obtain ⟨A3, c3, rfl, _, hc3⟩ := own_srcK HO3.out; obtain ⟨gs, rfl, hb3, hl3⟩ := own_shapeK HO3.out (by omega))
    | fail)
  have T3 : Hid (TL w3 w1.heap.size gs m c3 ls) := Lib.hid ⟨HO3.out, HMN.out⟩
  have hgs : w.heap.size ≤ gs := Nat.le_trans z1 hb3
  have hm3 : m ≤ c3 := by omega
  have hlA := Lib.hid (fun g (hg : A1 = some ⟨g, 0, none⟩) => show g < w1.heap.size from by
    obtain ⟨g', h1, _, h3, _⟩ := X1.out.mark
    rw [h1] at hg
    injection hg with hg
    injection hg with hg
    omega)
  have hlo := Lib.hid (fun k (hk : k < n) q (hq : (innV (R.getD k sl0)).ownBlock = some q) => show q < w1.heap.size from by
    obtain ⟨q', _, h2, _, h4⟩ := own_some (X1.out.inn k hk)
    rw [h2] at hq
    injection hq with hq
    omega)
  have B4 := Lib.hid (bt B1.out B3.out)
  have X3 := Lib.hid (X1.out.below B3.out)
  clear HO3 HO2 B2 hc3 hl3 hB1 HB
  have e3 := B3.out.size
  generalize w1.heap.size = b1 at *
  clear B3 X1 B1
  refine (HRF.out w3 B4.out).mono ?_
  rintro e w4 ⟨rfl, hb4⟩
  have B5 := Lib.hid (bt B4.out hb4)
  have X4 := Lib.hid (X3.out.below hb4)
  have T4 := Lib.hid (T3.out.below hb4)
  clear hb4 HRF X3 T3 B4
  go_upto_region 4 with (fail)
  have C5 := Lib.hid (cells2_new w4 (.int .i64 cd) (.int .i64 tx) 26)
  have H5 := Lib.hid (there2_new w4 (.int .i64 cd) (.int .i64 tx) 26)
  have G5 := Lib.hid (grows' w4 (.cells #[.int .i64 cd, .int .i64 tx] 26))
  have X5 := Lib.hid (X4.out.below G5.out)
  have T5 := Lib.hid (T4.out.below G5.out)
  have B6 := Lib.hid (bt B5.out G5.out)
  have z4 := B5.out.size
  have hgm : gs < w4.heap.size := T4.out.at.2.1
  have s5 : w4.heap.size < (w4.alloc (.cells #[.int .i64 cd, .int .i64 tx] 26)).heap.size := by simp
  generalize w4.alloc (.cells #[.int .i64 cd, .int .i64 tx] 26) = w5 at *
  generalize w4.heap.size = bm at *
  clear X4 T4 B5 G5
  have m1 : (0 : Int) ≤ (m : Int) := by omega
  have m2 : (m : Int) ≤ (c3 : Int) := by omega
  have m3 : (m : Int) ≤ (m : Int) + 1 := by omega
  go_wp2_with fail
  refine (HFT.out w5 A1 c1 R gs c3 b1 X5.out T5.out).mono ?_
  rintro e w6 ⟨rfl, hb6⟩
  have B7 := Lib.hid (bt B6.out hb6)
  have X6 := Lib.hid (X5.out.below hb6)
  have T6 := Lib.hid (T5.out.below hb6)
  have C6 := Lib.hid (cells2_below C5.out hb6)
  have H6 := Lib.hid (there2_below H5.out hb6)
  have hmn : bm < w6.heap.size := Nat.lt_of_lt_of_le s5 hb6.size
  clear hb6 X5 T5 C5 H5 B6 HFT
  go_upto_region 5 with (fail)
  have C7 := Lib.hid (cells2_new w6 (.int .i64 cd) (.int .i64 tx) 30)
  have H7 := Lib.hid (there2_new w6 (.int .i64 cd) (.int .i64 tx) 30)
  have G7 := Lib.hid (grows' w6 (.cells #[.int .i64 cd, .int .i64 tx] 30))
  have X7 := Lib.hid (X6.out.below G7.out)
  have T7 := Lib.hid (T6.out.below G7.out)
  have B8 := Lib.hid (bt B7.out G7.out)
  have C8 := Lib.hid (cells2_below C6.out G7.out)
  have H8 := Lib.hid (there2_below H6.out G7.out)
  have z6 := B7.out.size
  generalize w6.alloc (.cells #[.int .i64 cd, .int .i64 tx] 30) = w7 at *
  generalize w6.heap.size = bn at *
  clear X6 T6 C6 H6 B7 G7
  have p0 := C8.out.1
  have p1 := C8.out.2
  have p2 := C7.out.1
  have p3 := C7.out.2
  go_wp2_with fail
  refine (HKP.out w7 A1 c1 R B8.out X7.out HC1.out).mono ?_
  rintro e w8 ⟨rfl, hb8⟩
  have B9 := Lib.hid (bt B8.out hb8)
  have X8 := Lib.hid (X7.out.below hb8)
  have T8 := Lib.hid (T7.out.below hb8)
  have C9 := Lib.hid (cells2_below C7.out hb8)
  have H9 := Lib.hid (there2_below H7.out hb8)
  have C8' := Lib.hid (cells2_below C8.out hb8)
  have H8' := Lib.hid (there2_below H8.out hb8)
  clear hb8 X7 T7 C7 H7 C8 H8 B8 HKP p0 p1 p2 p3
  obtain ⟨_, _, _, hmk, _, hts⟩ := T8.out.at
  have HTS := Lib.hid hts
  have qm : ((str markT).toList == ([109, 97, 114, 107] : List UInt8)) = true := by rw [str_back]; rfl
  clear hts
  generalize hS : str markT = S at *
  have m4 : (m : Int) < (m : Int) + 1 := by omega
  go_wp2_with fail
  clear hmk m4 m3
  go_loopw [11] (fun v11 wr => ∃ i : Nat, i ≤ m ∧ v11 = .int .i64 (i : Nat) ∧ Below w8.heap.size w8 wr) (fun v11 _ => m - (RowKit.intOf v11).toNat)
  case atStart => exact ⟨0, by omega, rfl, Below.refl _ _⟩
  case round =>
    obtain ⟨i, hi, rfl, hbw⟩ := hrel
    have BW := Lib.hid hbw
    clear hbw
    by_cases hlt : i < m
    · have i1 : (0 : Int) ≤ (i : Int) := by omega
      have i2 : (i : Int) < (m : Int) := by omega
      have i3 : (i : Int) < (m : Int) + 1 := by omega
      have hs := (BW.out.cell (p := ⟨gs, i, none⟩) (cell_lt (HTS.out i hlt))).trans (HTS.out i hlt)
      obtain ⟨tb, to_, rfl, htb, htc⟩ := (HBC.out wr (bt B9.out BW.out)).at (by omega)
      have et := htc i _ (strs_at ls i (by rw [← HMN.out]; exact hlt))
      clear htc htb
      have qs : ((str (ls.getD i [])).toList == (str (ls.getD i [])).toList) = true := by simp
      generalize str (ls.getD i []) = S1 at hs et qs
      go_wp2_with fail
      go_quiet (fail)
      go_wp2_with fail
      go_roundw
      case rel => exact ⟨i + 1, by omega, by go_num, below_dr BW.out _⟩
      case measure => simp [RowKit.intOf]; omega
    · obtain rfl : m = i := by omega
      have X9 := Lib.hid (X8.out.below BW.out)
      have T9 := Lib.hid (T8.out.below BW.out)
      have Ha := Lib.hid (there2_below H9.out BW.out)
      have Hb := Lib.hid (there2_below H8'.out BW.out)
      have Ba := Lib.hid (bt B9.out BW.out)
      clear X8 T8 H9 H8' C9 C8' B9 BW HBC HTS
      go_wp2_with fail
      go_loopw [12, 13] (fun v12 _ wr => ∃ (i : Nat) (L' : List Cd), i ≤ n ∧ v12 = .int .i64 (i : Nat) ∧ Lent wr w.heap.size A1 n c1 L' R ∧ TL wr b1 gs m c3 ls ∧ there2 wr bm ∧ there2 wr bn ∧ Below w.heap.size w wr ∧ (∀ k, i ≤ k → L'.getD k cd0 = L.getD k cd0) ∧ MildL 1048578 L') (fun v12 _ _ => n - (RowKit.intOf v12).toNat)
      case atStart => exact ⟨0, L, by omega, rfl, X9.out, T9.out, Hb.out, Ha.out, Ba.out, fun _ _ => rfl, mildL_mono HM.out (by decide)⟩
      case round =>
        clear X9 T9 Ha Hb Ba
        obtain ⟨i, L1, hi, rfl, hx, ht, hm_, hn_, hb_, heq, hmi⟩ := hrel
        have X := Lib.hid hx
        have T := Lib.hid ht
        have Tm := Lib.hid hm_
        have Tn := Lib.hid hn_
        have BB := Lib.hid hb_
        have EQ := Lib.hid heq
        have MI := Lib.hid hmi
        clear hx ht hm_ hn_ hb_ heq hmi
        by_cases hlt : i < n
        · have i1 : (0 : Int) ≤ (i : Int) := by omega
          have i2 : (i : Int) < (n : Int) := by omega
          obtain ⟨g, rfl, hgb, hgl, _, hfz, hrow⟩ := X.out.mark
          have hiL : i < L1.length := by rw [← X.out.ln]; exact hlt
          have e4 : wr.cell? ⟨g, i * 7 + 4, none⟩ = some (.int .i8 (L1.getD i cd0).score) := hrow i 4 _ hlt rfl
          have f4 := hfz (i * 7 + 4)
          have HSC := Lib.hid (fun s => X.out.setScore hlt s)
          clear hrow hfz
          generalize (L1.getD i cd0).score = sc at e4
          go_upto_block 4 with (fail)
          have X2 := Lib.hid (HSC.out (IntKind.i8.wrap (-sc)))
          have T2 := Lib.hid (T.out.keptLow (p := ⟨g, i * 7 + 4, none⟩) (u := .int .i8 (IntKind.i8.wrap (-sc))) (hlA.out g rfl))
          have Tm2 := Lib.hid (there2_one (b := g) (o := i * 7 + 4) Tm.out (.int .i8 (IntKind.i8.wrap (-sc))))
          have Tn2 := Lib.hid (there2_one (b := g) (o := i * 7 + 4) Tn.out (.int .i8 (IntKind.i8.wrap (-sc))))
          have B2 := Lib.hid (BB.out.setCell hgb (p := ⟨g, i * 7 + 4, none⟩) (.int .i8 (IntKind.i8.wrap (-sc))))
          have M2 := Lib.hid (mild_score MI.out hiL (IntKind.i8.wrap (-sc)))
          have E2 := Lib.hid (fun k (hk : i + 1 ≤ k) => show (L1.set i { L1.getD i cd0 with score := IntKind.i8.wrap (-sc) }).getD k cd0 = L.getD k cd0 from by rw [getD_set _ _ _ _ _ hiL, if_neg (by omega)]; exact EQ.out k (by omega))
          have P2 := Lib.hid (show ((L1.set i { L1.getD i cd0 with score := IntKind.i8.wrap (-sc) }).getD i cd0).compat = (L.getD i cd0).compat from by rw [getD_set _ _ _ _ _ hiL, if_pos rfl, ← EQ.out i (Nat.le_refl i)])
          clear X T Tm Tn BB EQ MI HSC e4 f4
          generalize L1.set i { L1.getD i cd0 with score := IntKind.i8.wrap (-sc) } = L2 at *
          generalize wr.setCell ⟨g, i * 7 + 4, none⟩ (.int .i8 (IntKind.i8.wrap (-sc))) = ws at *
          obtain ⟨q, hq1, hqb, _, _, _, _, _⟩ := X2.out.inner hlt
          have hql := hlo.out i hlt q (by unfold innV; rw [hq1]; rfl)
          generalize hr : R.getD i sl0 = r at hq1
          obtain ⟨ra, rn, rc⟩ := r
          obtain rfl : ra = some ⟨q, 0, none⟩ := hq1
          have HR := Lib.hid hr
          have hrb : rn ≤ 1048578 := by
            have h1 := X2.out.len i hlt
            rw [hr] at h1
            have h2 : rn = _ := h1
            rw [h2]
            exact (M2.out.2 i).2.2.2.1
          clear hr
          go_wp2_with fail
          go_loopw [13] (fun v13 wr => ∃ (j : Nat) (L3 : List Cd), j ≤ rn ∧ v13 = .int .i64 (j : Nat) ∧ Lent wr w.heap.size (some ⟨g, 0, none⟩) n c1 L3 R ∧ TL wr b1 gs m c3 ls ∧ there2 wr bm ∧ there2 wr bn ∧ Below w.heap.size w wr ∧ (∀ k, i + 1 ≤ k → L3.getD k cd0 = L.getD k cd0) ∧ MildL 1048578 L3 ∧ ∀ k, j ≤ k → (L3.getD i cd0).compat.getD k [] = (L.getD i cd0).compat.getD k []) (fun v13 _ => rn - (RowKit.intOf v13).toNat)
          case atStart => exact ⟨0, L2, by omega, rfl, X2.out, T2.out, Tm2.out, Tn2.out, B2.out, E2.out, M2.out, fun k _ => by rw [P2.out]⟩
          case round =>
            clear X2 T2 Tm2 Tn2 B2 M2 E2 P2
            obtain ⟨j, L3, hj, rfl, hx, ht, hm_, hn_, hb_, heq, hmi, hcp⟩ := hrel
            have X := Lib.hid hx
            have T := Lib.hid ht
            have Tm := Lib.hid hm_
            have Tn := Lib.hid hn_
            have BB := Lib.hid hb_
            have EQ := Lib.hid heq
            have MI := Lib.hid hmi
            have CP := Lib.hid hcp
            clear hx ht hm_ hn_ hb_ heq hmi hcp
            obtain ⟨g', hg', _, _, _, _, hrow⟩ := X.out.mark
            obtain rfl : g = g' := by injection hg' with hg'; injection hg'
            have e3 : wr.cell? ⟨g, i * 7 + 3, none⟩ = some (slV (R.getD i sl0)) := hrow i 3 _ hlt rfl
            rw [HR.out] at e3
            simp only [slV] at e3
            clear hrow hg'
            have i3 : (i : Int) < (n : Int) := by omega
            by_cases hjl : j < rn
            · have j1 : (0 : Int) ≤ (j : Int) := by omega
              have j2 : (j : Int) < (rn : Int) := by omega
              obtain ⟨q', hq', _, _, hcap, _, hfz, htx⟩ := X.out.inner hlt
              have hln := X.out.len i hlt
              rw [HR.out] at hq' hln hcap
              obtain rfl : q = q' := by
                have h0 : (some ⟨q, 0, none⟩ : Option Addr) = some ⟨q', 0, none⟩ := hq'
                injection h0 with h0
                injection h0
              have hln' : rn = (L3.getD i cd0).compat.length := hln
              have et := htx j (by omega)
              have ft := hfz j
              have HST := Lib.hid (fun x => X.out.setText hlt HR.out hjl x)
              clear hq' hcap hfz htx hln
              generalize hTx : (L3.getD i cd0).compat.getD j [] = tt at et
              have HTX := Lib.hid hTx
              have HLN := Lib.hid hln'
              have hsz : (str tt).size ≤ 1048576 := by
                rw [str_size, ← hTx, CP.out j (Nat.le_refl j)]
                exact (HM.out.2 i).2.2.2.2 j
              have nz : ¬ 9223372036854775807 < (str tt).size + 2 := by omega
              have HTL : Hid (tt.length ≤ 1048576) := Lib.hid (by rw [str_size] at hsz; exact hsz)
              have HAP : Hid (str tt ++ ⟨#[45, 98]⟩ = str (tt ++ [45, 98])) := Lib.hid (bytes_ext (by show (str tt ++ str [45, 98]).data.toList = tt ++ [45, 98]; simp [str]))
              clear hTx hln' hsz
              generalize str tt = S1 at et nz HAP
              go_wp2_with fail
              go_still_tail 16, (by kernel_rfl)
              change wpList _ _ _ _ _ wr.drew
              have f2 : wr.drew.frozen? ⟨q, j, none⟩ = false := ft
              have e2 : wr.drew.cell? ⟨q, j, none⟩ = some (.string S1) := et
              go_wp2_with fail
              have X3 : Hid (Lent (wr.setCell ⟨q, j, none⟩ (.string (S1 ++ ⟨#[45, 98]⟩))) w.heap.size (some ⟨g, 0, none⟩) n c1 (L3.set i { L3.getD i cd0 with compat := (L3.getD i cd0).compat.set j (tt ++ [45, 98]) }) R) := Lib.hid (by have h := HST.out (tt ++ [45, 98]); rw [← HAP.out] at h; exact h)
              have T3 := Lib.hid (T.out.keptLow (p := ⟨q, j, none⟩) (u := .string (S1 ++ ⟨#[45, 98]⟩)) hql)
              have Tm3 := Lib.hid (there2_one (b := q) (o := j) Tm.out (.string (S1 ++ ⟨#[45, 98]⟩)))
              have Tn3 := Lib.hid (there2_one (b := q) (o := j) Tn.out (.string (S1 ++ ⟨#[45, 98]⟩)))
              have B3 := Lib.hid (BB.out.setCell hqb (p := ⟨q, j, none⟩) (.string (S1 ++ ⟨#[45, 98]⟩)))
              have hi3 : i < L3.length := by rw [← X.out.ln]; exact hlt
              have hj3 : j < (L3.getD i cd0).compat.length := by rw [← HLN.out]; exact hjl
              have M3 := Lib.hid (mild_text MI.out hi3 hj3 (tt ++ [45, 98]) (by rw [List.length_append]; have := HTL.out; simp only [List.length_cons, List.length_nil]; omega))
              generalize wr.setCell ⟨q, j, none⟩ (.string (S1 ++ ⟨#[45, 98]⟩)) = wz at *
              have D : Below wz.heap.size wz wz.drew := below_dr (Below.refl _ _) 1
              go_roundw
              case rel => exact ⟨j + 1, _, by omega, by go_num, X3.out.below D, T3.out.below D, there2_below Tm3.out D, there2_below Tn3.out D, below_dr B3.out 1, fun k hk => (by rw [getD_set _ _ _ _ _ hi3, if_neg (by omega)]; exact EQ.out k hk), M3.out, fun k hk => (by rw [getD_set _ _ _ _ _ hi3, if_pos rfl, getD_set _ _ _ _ _ hj3, if_neg (by omega)]; exact CP.out k (by omega))⟩
              case measure => simp [RowKit.intOf]; omega
            · obtain rfl : j = rn := by omega
              go_wp2_with fail
              go_roundw
              case rel => exact ⟨i + 1, L3, by omega, by go_num, X.out, T.out, Tm.out, Tn.out, BB.out, EQ.out, MI.out⟩
              case measure => simp [RowKit.intOf]; omega
        · obtain rfl : n = i := by omega
          go_wp2_with fail
          go_loopw [14] (fun v14 wr => ∃ (j : Nat) (l2 : List Tx), j ≤ m ∧ v14 = .int .i64 (j : Nat) ∧ Lent wr w.heap.size A1 n c1 L1 R ∧ TL wr b1 gs m c3 l2 ∧ there2 wr bm ∧ there2 wr bn ∧ Below w.heap.size w wr ∧ (∀ k, j ≤ k → l2.getD k [] = ls.getD k []) ∧ ∀ k, (l2.getD k []).length ≤ 1048578) (fun v14 _ => m - (RowKit.intOf v14).toNat)
          case atStart => exact ⟨0, ls, by omega, rfl, X.out, T.out, Tm.out, Tn.out, BB.out, fun _ _ => rfl, fun k => Nat.le_trans (HML.out k) (by decide)⟩
          case round =>
            clear X T Tm Tn BB EQ
            obtain ⟨j, l2, hj, rfl, hx, ht, hm_, hn_, hb_, heq, hml⟩ := hrel
            have X := Lib.hid hx
            have T := Lib.hid ht
            have Tm := Lib.hid hm_
            have Tn := Lib.hid hn_
            have BB := Lib.hid hb_
            have EQ := Lib.hid heq
            have ML := Lib.hid hml
            clear hx ht hm_ hn_ hb_ heq hml
            by_cases hjl : j < m
            · have j1 : (0 : Int) ≤ (j : Int) := by omega
              have j2 : (j : Int) < (m : Int) := by omega
              have j3 : (j : Int) < (m : Int) + 1 := by omega
              obtain ⟨_, _, _, _, hfz, hts⟩ := T.out.at
              have et := hts j hjl
              have ft := hfz j
              have HST := Lib.hid (fun x => T.out.setText hjl x)
              have hsz : (str (l2.getD j [])).size ≤ 1048576 := by
                rw [str_size, EQ.out j (Nat.le_refl j)]
                exact HML.out j
              have nz : ¬ 9223372036854775807 < (str (l2.getD j [])).size + 2 := by omega
              have HTL : Hid ((l2.getD j []).length ≤ 1048576) := Lib.hid (by rw [str_size] at hsz; exact hsz)
              generalize l2.getD j [] = tt at et nz HTL
              have HAP : Hid (str tt ++ ⟨#[45, 98]⟩ = str (tt ++ [45, 98])) := Lib.hid (bytes_ext (by show (str tt ++ str [45, 98]).data.toList = tt ++ [45, 98]; simp [str]))
              clear hts hfz hsz
              generalize str tt = S1 at et nz HAP
              go_wp2_with fail
              have T3 : Hid (TL (wr.setCell ⟨gs, j, none⟩ (.string (S1 ++ ⟨#[45, 98]⟩))) b1 gs m c3 (l2.set j (tt ++ [45, 98]))) := Lib.hid (by have h := HST.out (tt ++ [45, 98]); rw [← HAP.out] at h; exact h)
              have X3 := Lib.hid (X.out.setHi ⟨gs, j, none⟩ (.string (S1 ++ ⟨#[45, 98]⟩)) hb3 hlA.out hlo.out)
              have Tm3 := Lib.hid (there2_one (b := gs) (o := j) Tm.out (.string (S1 ++ ⟨#[45, 98]⟩)))
              have Tn3 := Lib.hid (there2_one (b := gs) (o := j) Tn.out (.string (S1 ++ ⟨#[45, 98]⟩)))
              have B3 := Lib.hid (BB.out.setCell hgs (p := ⟨gs, j, none⟩) (.string (S1 ++ ⟨#[45, 98]⟩)))
              have hj3 : j < l2.length := by rw [← T.out.2]; exact hjl
              have M3 : Hid (∀ k, ((l2.set j (tt ++ [45, 98])).getD k []).length ≤ 1048578) := Lib.hid (fun k => by
                rw [getD_set _ _ _ _ _ hj3]
                by_cases hkj : k = j
                · rw [if_pos hkj, List.length_append]
                  have := HTL.out
                  simp only [List.length_cons, List.length_nil]
                  omega
                · rw [if_neg hkj]
                  exact ML.out k)
              generalize wr.setCell ⟨gs, j, none⟩ (.string (S1 ++ ⟨#[45, 98]⟩)) = wz at *
              go_roundw
              case rel => exact ⟨j + 1, _, by omega, by go_num, X3.out, T3.out, Tm3.out, Tn3.out, B3.out, fun k hk => (by rw [getD_set _ _ _ _ _ hj3, if_neg (by omega)]; exact EQ.out k (by omega)), M3.out⟩
              case measure => simp [RowKit.intOf]; omega
            · obtain rfl : m = j := by omega
              go_upto_region 24 with (fail)
              obtain ⟨cd2, tx2, er2, hf2⟩ := fitRel_ex L1 l2
              have HTW := Lib.hid (fun W (hx : Lent W w.heap.size A1 n c1 L1 R) => twins_any A1 c1 n L1 R W (mildL_mono MI.out (by decide)) hx.rows (fun k => (hx.cap k).2))
              have HRF2 := Lib.hid (fun W A k n' R' A' c' (hr : Ro.RowsIn KC W A n' L1 R') (hk : n' ≤ k) (hc : CellsIn W 1 A' m (Kc.strs l2)) => refFit_any A A' k n' c' m L1 R' l2 cd2 tx2 er2 W hf2 (mildL_mono MI.out (by decide)) hk hr T.out.2 (by omega) hc)
              have HFT2 := Lib.hid (fun W (hx : Lent W w.heap.size A1 n c1 L1 R) (ht : TL W b1 gs m c3 l2) => fit_any A1 (some ⟨gs, 0, none⟩) c1 n c3 m L1 R l2 cd2 tx2 er2 W hf2 (mildL_mono MI.out (by decide)) (fun k => (hx.cap k).1) hx.rows ht.2 (by omega) (fun j => Nat.le_trans (ML.out j) (by unfold maxLen; decide)) ht.cells)
              have hbm : b1 ≤ bm := by omega
              have hgn : gs ≠ bm := by omega
              have hmn2 : bn ≠ bm := by omega
              have hl2 : (Kc.strs l2).length = m * 1 := by rw [strs_len, ← T.out.2, Nat.mul_one]
              have D0 : Hid (Below wr.heap.size wr wr.drew) := Lib.hid (below_dr (Below.refl _ _) 1)
              clear hf2 EQ HML
              unfold MadeL at HTW
              refine wp_region_noPanic ?_
              refine wp_region_held_drew (S := fun _ : World => True) (by kernel_rfl) trivial (fun hHeld => ?_)
              first | (refine skipH (i := 0) (dst := some 140) rfl rfl (by kernel_rfl) (by kernel_rfl) (by kernel_rfl) (fun _ _ _ h => h) (by rfl) hHeld ?_) | (refine' takeH (i := 0) (dst := some 140) (v := _) rfl rfl (by kernel_rfl) (by kernel_rfl) (by kernel_rfl) (fun _ _ _ h => h) (by rfl) ?hy hHeld ?_; case hy => (intro w hSw; clear hSw; (first | done | go_simp); try with_reducible rfl)) | fail
              try simp only [Act.put, List.setIfInBounds_toArray, List.set_cons_zero, List.set_cons_succ]
              first | (refine skipH (i := 3) (dst := some 143) rfl rfl (by kernel_rfl) (by kernel_rfl) (by kernel_rfl) (fun _ _ _ h => h) (by rfl) hHeld ?_) | (refine' takeH (i := 3) (dst := some 143) (v := _) rfl rfl (by kernel_rfl) (by kernel_rfl) (by kernel_rfl) (fun _ _ _ h => h) (by rfl) ?hy hHeld ?_; case hy => (intro w hSw; clear hSw; (first | done | go_simp); try with_reducible rfl)) | fail
              try simp only [Act.put, List.setIfInBounds_toArray, List.set_cons_zero, List.set_cons_succ]
              first | (refine skipH (i := 4) (dst := some 144) rfl rfl (by kernel_rfl) (by kernel_rfl) (by kernel_rfl) (fun _ _ _ h => h) (by rfl) hHeld ?_) | (refine' takeH (i := 4) (dst := some 144) (v := _) rfl rfl (by kernel_rfl) (by kernel_rfl) (by kernel_rfl) (fun _ _ _ h => h) (by rfl) ?hy hHeld ?_; case hy => (intro w hSw; clear hSw; (first | done | go_simp); try with_reducible rfl)) | fail
              try simp only [Act.put, List.setIfInBounds_toArray, List.set_cons_zero, List.set_cons_succ]
              first | (refine skipH (i := 5) (dst := some 145) rfl rfl (by kernel_rfl) (by kernel_rfl) (by kernel_rfl) (fun _ _ _ h => h) (by rfl) hHeld ?_) | (refine' takeH (i := 5) (dst := some 145) (v := _) rfl rfl (by kernel_rfl) (by kernel_rfl) (by kernel_rfl) (fun _ _ _ h => h) (by rfl) ?hy hHeld ?_; case hy => (intro w hSw; clear hSw; (first | done | go_simp); try with_reducible rfl)) | fail
              try simp only [Act.put, List.setIfInBounds_toArray, List.set_cons_zero, List.set_cons_succ]
              first | (refine skipH (i := 6) (dst := some 146) rfl rfl (by kernel_rfl) (by kernel_rfl) (by kernel_rfl) (fun _ _ _ h => h) (by rfl) hHeld ?_) | (refine' takeH (i := 6) (dst := some 146) (v := _) rfl rfl (by kernel_rfl) (by kernel_rfl) (by kernel_rfl) (fun _ _ _ h => h) (by rfl) ?hy hHeld ?_; case hy => (intro w hSw; clear hSw; (first | done | go_simp); try with_reducible rfl)) | fail
              try simp only [Act.put, List.setIfInBounds_toArray, List.set_cons_zero, List.set_cons_succ]
              refine wpAnyH_ready (rs := [1, 2]) (by kernel_rfl) (by simp) ?_
              refine AllReadyH.cons (i := 1) (o := ⟨some 141, .call _, _, _, _, _⟩) rfl (fun K hK => ?_) (AllReadyH.cons (i := 2) (o := ⟨some 142, .buildSlice _ _ _, _, _, _, _⟩) rfl (fun K hK => ?_) AllReadyH.nil)
              · go_simp
                refine (HTW.out _ (X.out.below D0.out)).mono ?_
                rintro e wa ⟨A2, k2, n2, R2, rfl, hr2, hb2⟩
                have RW := Lib.hid hr2
                have DA := Lib.hid (bt D0.out hb2)
                have hH : True := trivial
                clear hr2 hb2
                refine hK.out _ _ hH (fun _ => ?_)
                clear hK K hHeld
                have hHeld := hH
                clear hH
                try simp only [Act.put, List.setIfInBounds_toArray, List.set_cons_zero, List.set_cons_succ]
                refine wpAnyH_ready (rs := [2]) (by kernel_rfl) (by simp) ?_
                refine AllReadyH.cons (i := 2) (o := ⟨some 142, .buildSlice _ _ _, _, _, _, _⟩) rfl (fun K hK => ?_) AllReadyH.nil
                go_simp
                have OE := Lib.hid (own_emptyK wa 9 1)
                have GE := Lib.hid (grows' wa (.cells #[] 9))
                have DE := Lib.hid (bt DA.out GE.out)
                have zE := DA.out.size
                have zE2 := GE.out.size
                refine hK.out _ _ trivial (fun _ => ?_)
                clear hK K hHeld
                have hHeld : True := trivial
                try simp only [Act.put, List.setIfInBounds_toArray, List.set_cons_zero, List.set_cons_succ]
                generalize hwe : wa.alloc (.cells #[] 9) = we at *
                clear hwe
                have TE := Lib.hid (T.out.below DE.out)
                refine wpAnyH_ready (rs := [7]) (by kernel_rfl) (by simp) ?_
                refine AllReadyH.cons (i := 7) (o := ⟨some 147, .call _, _, _, _, _⟩) rfl (fun K hK => ?_) AllReadyH.nil
                refine step_ownK (by first | rfl | simp [Region.wanted, yielded]) (.tmp 142) (.tmp 146) 23 (by rfl) wa.heap.size 9 (.string ⟨#[]⟩) 1 16 (by omega) Try.underlying23 info_str rfl (some ⟨wa.heap.size, 0, none⟩) 0 0 [] (by rfl) OE.out ⟨gs, 0, none⟩ m c3 (Kc.strs l2) (by rfl) hl2 TE.out.src (one_strs l2) (by unfold maxLen; omega) (by omega) zE2 ?_
                intro v9 w9 ho9 hg9
                rw [Nat.zero_add, List.nil_append] at ho9
                have D9 := Lib.hid (DE.out.grown hg9 DE.out.size (fun k hk => by have e : some (wa.heap.size) = some k := hk; injection e with e; have := zE; omega))
                have GB : Hid (Below wa.heap.size wa w9) := Lib.hid (GE.out.grown hg9 GE.out.size (fun k hk => by have e : some (wa.heap.size) = some k := hk; injection e with e; have := zE; omega))
                have R9 := Lib.hid (RW.out.below GB.out)
                clear GB RW DA DE OE GE TE
                obtain ⟨A9, c9, rfl, _, _⟩ := own_srcK ho9
                have C9 := Lib.hid (own_cells ho9)
                clear ho9 hg9
                refine hK.out _ _ trivial (fun _ => ?_)
                clear hK K hHeld
                have hHeld : True := trivial
                try simp only [Act.put, List.setIfInBounds_toArray, List.set_cons_zero, List.set_cons_succ]
                refine wpAnyH_ready (rs := [8]) (by kernel_rfl) (by simp) ?_
                refine AllReadyH.cons (i := 8) (o := ⟨some 148, .call _, _, _, _, _⟩) rfl (fun K hK => ?_) AllReadyH.nil
                go_simp
                refine (HRF2.out w9 A2 k2 n2 R2 A9 c9 R9.out.rows R9.out.neatA.2 C9.out).mono ?_
                rintro e w10 ⟨rfl, hb10⟩
                have D10 := Lib.hid (bt D9.out hb10)
                have X10 := Lib.hid (X.out.below D10.out)
                have T10 := Lib.hid (T.out.below D10.out)
                have Tm10 := Lib.hid (there2_below Tm.out D10.out)
                have Tn10 := Lib.hid (there2_below Tn.out D10.out)
                have B10 := Lib.hid (bt BB.out D10.out)
                have hH : True := trivial
                clear hb10 D10 D9 R9 C9 X T Tm Tn BB
                refine hK.out _ _ hH (fun _ => ?_)
                clear hK K hHeld
                have hHeld := hH
                clear hH
                try simp only [Act.put, List.setIfInBounds_toArray, List.set_cons_zero, List.set_cons_succ]
                first | (refine skipH (i := 9) (dst := some 139) rfl rfl (by kernel_rfl) (by kernel_rfl) (by kernel_rfl) (fun _ _ _ h => h) (by rfl) hHeld ?_) | (refine' takeH (i := 9) (dst := some 139) (v := _) rfl rfl (by kernel_rfl) (by kernel_rfl) (by kernel_rfl) (fun _ _ _ h => h) (by rfl) ?hy hHeld ?_; case hy => (intro w hSw; clear hSw; (first | done | go_simp); try with_reducible rfl)) | fail
                try simp only [Act.put, List.setIfInBounds_toArray, List.set_cons_zero, List.set_cons_succ]
                first | (refine skipH (i := 10) (dst := some 149) rfl rfl (by kernel_rfl) (by kernel_rfl) (by kernel_rfl) (fun _ _ _ h => h) (by rfl) hHeld ?_) | (refine' takeH (i := 10) (dst := some 149) (v := _) rfl rfl (by kernel_rfl) (by kernel_rfl) (by kernel_rfl) (fun _ _ _ h => h) (by rfl) ?hy hHeld ?_; case hy => (intro w hSw; clear hSw; (first | done | go_simp); try with_reducible rfl)) | fail
                try simp only [Act.put, List.setIfInBounds_toArray, List.set_cons_zero, List.set_cons_succ]
                first | (refine skipH (i := 11) (dst := some 150) rfl rfl (by kernel_rfl) (by kernel_rfl) (by kernel_rfl) (fun _ _ _ h => h) (by rfl) hHeld ?_) | (refine' takeH (i := 11) (dst := some 150) (v := _) rfl rfl (by kernel_rfl) (by kernel_rfl) (by kernel_rfl) (fun _ _ _ h => h) (by rfl) ?hy hHeld ?_; case hy => (intro w hSw; clear hSw; (first | done | go_simp); try with_reducible rfl)) | fail
                try simp only [Act.put, List.setIfInBounds_toArray, List.set_cons_zero, List.set_cons_succ]
                refine wpAnyH_ready (rs := [12]) (by kernel_rfl) (by simp) ?_
                refine AllReadyH.cons (i := 12) (o := ⟨none, .store _ _ _, _, _, _, _⟩) rfl (fun K hK => ?_) AllReadyH.nil
                obtain ⟨⟨z0, z1⟩, u0, u1, y0, y1⟩ := there2_z Tm10.out
                go_simp
                refine hK.out _ _ trivial (fun _ => ?_)
                clear hK K hHeld z0 z1 y0 y1
                have hHeld : True := trivial
                try simp only [Act.put, List.setIfInBounds_toArray, List.set_cons_zero, List.set_cons_succ]
                first | (refine skipH (i := 13) (dst := some 8) rfl rfl (by kernel_rfl) (by kernel_rfl) (by kernel_rfl) (fun _ _ _ h => h) (by rfl) hHeld ?_) | (refine' takeH (i := 13) (dst := some 8) (v := _) rfl rfl (by kernel_rfl) (by kernel_rfl) (by kernel_rfl) (fun _ _ _ h => h) (by rfl) ?hy hHeld ?_; case hy => (intro w hSw; clear hSw; (first | done | go_simp); try with_reducible rfl)) | fail
                try simp only [Act.put, List.setIfInBounds_toArray, List.set_cons_zero, List.set_cons_succ]
                refine wpAnyH_done (by kernel_rfl) (NoPanic.normal ?_) _
                clear hHeld
                have CM := Lib.hid (cells2_set Tm10.out (.int .i64 cd2) (.int .i64 tx2))
                have X11 := Lib.hid ((X10.out.setHi ⟨bm, 0, none⟩ (.int .i64 cd2) hbm hlA.out hlo.out).setHi ⟨bm, 1, none⟩ (.int .i64 tx2) hbm hlA.out hlo.out)
                have T11 := Lib.hid ((T10.out.setNe (p := ⟨bm, 0, none⟩) (u := .int .i64 cd2) hgn).setNe (p := ⟨bm, 1, none⟩) (u := .int .i64 tx2) hgn)
                have Tn11 := Lib.hid (there2_set (g' := bm) Tn10.out (.int .i64 cd2) (.int .i64 tx2))
                have B11 := Lib.hid ((B10.out.setCell z4 (p := ⟨bm, 0, none⟩) (.int .i64 cd2)).setCell z4 (p := ⟨bm, 1, none⟩) (.int .i64 tx2))
                clear X10 T10 Tm10 Tn10 B10
                generalize (w10.setCell ⟨bm, 0, none⟩ (.int .i64 cd2)).setCell ⟨bm, 1, none⟩ (.int .i64 tx2) = w11 at *
                go_wp2_with fail
                refine (HFT2.out w11 X11.out T11.out).mono ?_
                rintro e w12 ⟨rfl, hb12⟩
                have CM12 := Lib.hid (cells2_below CM.out hb12)
                have Tn12 := Lib.hid (there2_below Tn11.out hb12)
                have B12 := Lib.hid (bt B11.out hb12)
                clear hb12 CM Tn11 B11 X11 T11
                obtain ⟨⟨z0, z1⟩, u0, u1, y0, y1⟩ := there2_z Tn12.out
                go_upto_region 26 with (fail)
                have CN := Lib.hid (cells2_set Tn12.out (.int .i64 cd2) (.int .i64 tx2))
                have CM13 := Lib.hid (cells2_other CM12.out hmn2 (.int .i64 cd2) (.int .i64 tx2))
                have B13 := Lib.hid ((B12.out.setCell z6 (p := ⟨bn, 0, none⟩) (.int .i64 cd2)).setCell z6 (p := ⟨bn, 1, none⟩) (.int .i64 tx2))
                clear z0 z1 y0 y1 CM12 Tn12 B12
                generalize (w12.setCell ⟨bn, 0, none⟩ (.int .i64 cd2)).setCell ⟨bn, 1, none⟩ (.int .i64 tx2) = w13 at *
                have p0 := CM13.out.1
                have p1 := CM13.out.2
                have p2 := CN.out.1
                have p3 := CN.out.2
                go_wp2_with fail
                go_ret
                exact ⟨rfl, B13.out⟩
              · go_simp
                have OE : Hid ((wr.alloc (.cells #[] 9)).drew.ownsRow wr.heap.size 9 1 (.slice (some ⟨wr.heap.size, 0, none⟩) 0 0) 0 []) := Lib.hid (own_emptyK wr.drew 9 1)
                have DE : Hid (Below wr.heap.size wr (wr.alloc (.cells #[] 9)).drew) := Lib.hid (below_dr (grows' wr (.cells #[] 9)) 1)
                have sE : wr.heap.size < (wr.alloc (.cells #[] 9)).drew.heap.size := by show wr.heap.size < (wr.alloc (.cells #[] 9)).heap.size; simp
                refine hK.out _ _ trivial (fun _ => ?_)
                clear hK K hHeld
                have hHeld : True := trivial
                try simp only [Act.put, List.setIfInBounds_toArray, List.set_cons_zero, List.set_cons_succ]
                generalize hwe : (wr.alloc (.cells #[] 9)).drew = we at *
                clear hwe
                refine wpAnyH_ready (rs := [1]) (by kernel_rfl) (by simp) ?_
                refine AllReadyH.cons (i := 1) (o := ⟨some 141, .call _, _, _, _, _⟩) rfl (fun K hK => ?_) AllReadyH.nil
                go_simp
                refine (HTW.out we (X.out.below DE.out)).mono ?_
                rintro e wa ⟨A2, k2, n2, R2, rfl, hr2, hb2⟩
                have RW := Lib.hid hr2
                have DA := Lib.hid (bt DE.out hb2)
                have OA := Lib.hid (own_belowK OE.out hb2)
                have hH : True := trivial
                clear hr2 hb2
                refine hK.out _ _ hH (fun _ => ?_)
                clear hK K hHeld
                have hHeld := hH
                clear hH
                try simp only [Act.put, List.setIfInBounds_toArray, List.set_cons_zero, List.set_cons_succ]
                have TE := Lib.hid (T.out.below DA.out)
                have zE2 := DA.out.size
                refine wpAnyH_ready (rs := [7]) (by kernel_rfl) (by simp) ?_
                refine AllReadyH.cons (i := 7) (o := ⟨some 147, .call _, _, _, _, _⟩) rfl (fun K hK => ?_) AllReadyH.nil
                refine step_ownK (by first | rfl | simp [Region.wanted, yielded]) (.tmp 142) (.tmp 146) 23 (by rfl) wr.heap.size 9 (.string ⟨#[]⟩) 1 16 (by omega) Try.underlying23 info_str rfl (some ⟨wr.heap.size, 0, none⟩) 0 0 [] (by rfl) OA.out ⟨gs, 0, none⟩ m c3 (Kc.strs l2) (by rfl) hl2 TE.out.src (one_strs l2) (by unfold maxLen; omega) (by omega) zE2 ?_
                intro v9 w9 ho9 hg9
                rw [Nat.zero_add, List.nil_append] at ho9
                have D9 := Lib.hid (DA.out.grown hg9 DA.out.size (fun k hk => by have e : some (wr.heap.size) = some k := hk; injection e with e; have := zE2; omega))
                have R9 := Lib.hid (RW.out.keptLow (g := wr.heap.size) hg9 sE)
                clear RW DA DE OE OA TE
                obtain ⟨A9, c9, rfl, _, _⟩ := own_srcK ho9
                have C9 := Lib.hid (own_cells ho9)
                clear ho9 hg9
                refine hK.out _ _ trivial (fun _ => ?_)
                clear hK K hHeld
                have hHeld : True := trivial
                try simp only [Act.put, List.setIfInBounds_toArray, List.set_cons_zero, List.set_cons_succ]
                refine wpAnyH_ready (rs := [8]) (by kernel_rfl) (by simp) ?_
                refine AllReadyH.cons (i := 8) (o := ⟨some 148, .call _, _, _, _, _⟩) rfl (fun K hK => ?_) AllReadyH.nil
                go_simp
                refine (HRF2.out w9 A2 k2 n2 R2 A9 c9 R9.out.rows R9.out.neatA.2 C9.out).mono ?_
                rintro e w10 ⟨rfl, hb10⟩
                have D10 := Lib.hid (bt D9.out hb10)
                have X10 := Lib.hid (X.out.below D10.out)
                have T10 := Lib.hid (T.out.below D10.out)
                have Tm10 := Lib.hid (there2_below Tm.out D10.out)
                have Tn10 := Lib.hid (there2_below Tn.out D10.out)
                have B10 := Lib.hid (bt BB.out D10.out)
                have hH : True := trivial
                clear hb10 D10 D9 R9 C9 X T Tm Tn BB
                refine hK.out _ _ hH (fun _ => ?_)
                clear hK K hHeld
                have hHeld := hH
                clear hH
                try simp only [Act.put, List.setIfInBounds_toArray, List.set_cons_zero, List.set_cons_succ]
                first | (refine skipH (i := 9) (dst := some 139) rfl rfl (by kernel_rfl) (by kernel_rfl) (by kernel_rfl) (fun _ _ _ h => h) (by rfl) hHeld ?_) | (refine' takeH (i := 9) (dst := some 139) (v := _) rfl rfl (by kernel_rfl) (by kernel_rfl) (by kernel_rfl) (fun _ _ _ h => h) (by rfl) ?hy hHeld ?_; case hy => (intro w hSw; clear hSw; (first | done | go_simp); try with_reducible rfl)) | fail
                try simp only [Act.put, List.setIfInBounds_toArray, List.set_cons_zero, List.set_cons_succ]
                first | (refine skipH (i := 10) (dst := some 149) rfl rfl (by kernel_rfl) (by kernel_rfl) (by kernel_rfl) (fun _ _ _ h => h) (by rfl) hHeld ?_) | (refine' takeH (i := 10) (dst := some 149) (v := _) rfl rfl (by kernel_rfl) (by kernel_rfl) (by kernel_rfl) (fun _ _ _ h => h) (by rfl) ?hy hHeld ?_; case hy => (intro w hSw; clear hSw; (first | done | go_simp); try with_reducible rfl)) | fail
                try simp only [Act.put, List.setIfInBounds_toArray, List.set_cons_zero, List.set_cons_succ]
                first | (refine skipH (i := 11) (dst := some 150) rfl rfl (by kernel_rfl) (by kernel_rfl) (by kernel_rfl) (fun _ _ _ h => h) (by rfl) hHeld ?_) | (refine' takeH (i := 11) (dst := some 150) (v := _) rfl rfl (by kernel_rfl) (by kernel_rfl) (by kernel_rfl) (fun _ _ _ h => h) (by rfl) ?hy hHeld ?_; case hy => (intro w hSw; clear hSw; (first | done | go_simp); try with_reducible rfl)) | fail
                try simp only [Act.put, List.setIfInBounds_toArray, List.set_cons_zero, List.set_cons_succ]
                refine wpAnyH_ready (rs := [12]) (by kernel_rfl) (by simp) ?_
                refine AllReadyH.cons (i := 12) (o := ⟨none, .store _ _ _, _, _, _, _⟩) rfl (fun K hK => ?_) AllReadyH.nil
                obtain ⟨⟨z0, z1⟩, u0, u1, y0, y1⟩ := there2_z Tm10.out
                go_simp
                refine hK.out _ _ trivial (fun _ => ?_)
                clear hK K hHeld z0 z1 y0 y1
                have hHeld : True := trivial
                try simp only [Act.put, List.setIfInBounds_toArray, List.set_cons_zero, List.set_cons_succ]
                first | (refine skipH (i := 13) (dst := some 8) rfl rfl (by kernel_rfl) (by kernel_rfl) (by kernel_rfl) (fun _ _ _ h => h) (by rfl) hHeld ?_) | (refine' takeH (i := 13) (dst := some 8) (v := _) rfl rfl (by kernel_rfl) (by kernel_rfl) (by kernel_rfl) (fun _ _ _ h => h) (by rfl) ?hy hHeld ?_; case hy => (intro w hSw; clear hSw; (first | done | go_simp); try with_reducible rfl)) | fail
                try simp only [Act.put, List.setIfInBounds_toArray, List.set_cons_zero, List.set_cons_succ]
                refine wpAnyH_done (by kernel_rfl) (NoPanic.normal ?_) _
                clear hHeld
                have CM := Lib.hid (cells2_set Tm10.out (.int .i64 cd2) (.int .i64 tx2))
                have X11 := Lib.hid ((X10.out.setHi ⟨bm, 0, none⟩ (.int .i64 cd2) hbm hlA.out hlo.out).setHi ⟨bm, 1, none⟩ (.int .i64 tx2) hbm hlA.out hlo.out)
                have T11 := Lib.hid ((T10.out.setNe (p := ⟨bm, 0, none⟩) (u := .int .i64 cd2) hgn).setNe (p := ⟨bm, 1, none⟩) (u := .int .i64 tx2) hgn)
                have Tn11 := Lib.hid (there2_set (g' := bm) Tn10.out (.int .i64 cd2) (.int .i64 tx2))
                have B11 := Lib.hid ((B10.out.setCell z4 (p := ⟨bm, 0, none⟩) (.int .i64 cd2)).setCell z4 (p := ⟨bm, 1, none⟩) (.int .i64 tx2))
                clear X10 T10 Tm10 Tn10 B10
                generalize (w10.setCell ⟨bm, 0, none⟩ (.int .i64 cd2)).setCell ⟨bm, 1, none⟩ (.int .i64 tx2) = w11 at *
                go_wp2_with fail
                refine (HFT2.out w11 X11.out T11.out).mono ?_
                rintro e w12 ⟨rfl, hb12⟩
                have CM12 := Lib.hid (cells2_below CM.out hb12)
                have Tn12 := Lib.hid (there2_below Tn11.out hb12)
                have B12 := Lib.hid (bt B11.out hb12)
                clear hb12 CM Tn11 B11 X11 T11
                obtain ⟨⟨z0, z1⟩, u0, u1, y0, y1⟩ := there2_z Tn12.out
                go_upto_region 26 with (fail)
                have CN := Lib.hid (cells2_set Tn12.out (.int .i64 cd2) (.int .i64 tx2))
                have CM13 := Lib.hid (cells2_other CM12.out hmn2 (.int .i64 cd2) (.int .i64 tx2))
                have B13 := Lib.hid ((B12.out.setCell z6 (p := ⟨bn, 0, none⟩) (.int .i64 cd2)).setCell z6 (p := ⟨bn, 1, none⟩) (.int .i64 tx2))
                clear z0 z1 y0 y1 CM12 Tn12 B12
                generalize (w12.setCell ⟨bn, 0, none⟩ (.int .i64 cd2)).setCell ⟨bn, 1, none⟩ (.int .i64 tx2) = w13 at *
                have p0 := CM13.out.1
                have p1 := CM13.out.2
                have p2 := CN.out.1
                have p3 := CN.out.2
                go_wp2_with fail
                go_ret
                exact ⟨rfl, B13.out⟩
end Go.Proofs.Ytnnaoneegeenkaa.Mv
