/- The law RollAgain (P13.7). -/
import Derived.Test.YtmlfnihicocilaaRlJ
namespace Go.Proofs.Ytmlfnihicocilaa.Ko
open Go.ChangeShapes Go.WideShapes Go.ChangeAt Go.RowKit Own Ro wordsNames Kc Kr

/-- The five lists' values. -/
def fiveV (t1 t2 t3 t4 t5 : Nat) : List Value := [.slice (some ⟨t1, 0, none⟩) 5 5, .slice (some ⟨t2, 0, none⟩) 6 6, .slice (some ⟨t3, 0, none⟩) 5 5, .slice (some ⟨t4, 0, none⟩) 5 5, .slice (some ⟨t5, 0, none⟩) 6 6]
/-- A family's list in whatever world of the entering. -/
theorem fam_kp {W V : World} {lo hi b n c : Nat} {A : Option Addr} {L : List Cd} {R : List Sl} (h : RowsOwn KC W b A n c L R) (hk : Kp lo hi W V) (hb : hi ≤ b) : RowsOwn KC V b A n c L R :=
  rows_kp h hk ⟨fun g hg => .inr (Nat.le_trans hb (h.2.1.lt g hg).1), fun i hi' g hg => .inr (Nat.le_trans hb ((h.2.2.2.1 i hi').2.lt g hg).1)⟩
set_option maxRecDepth 100000 in
set_option maxHeartbeats 16000000 in
theorem again_any (B : Option Addr) (d m : Nat) (ls : List Int) (w : World) (hml : m = ls.length) (hB : CellsIn w 1 B m (Ci.i64s ls)) :
    Calls Try.prog 3 #[.slice B m d] w (fun e w' => e = .returned (.bool true) ∧ Below w.heap.size w w') := by
  have GB := Lib.hid hB
  have HML := Lib.hid hml
  clear hB hml
  go_enter Try.func3, Try.ntmps3
  go_wp2_with fail
  refine (new_any w).mono ?_
  rintro e v1 ⟨rfl, hw1⟩
  have RR1 : Hid (RegAt v1 w.heap.size [] [] [] false) := Lib.hid (by rw [hw1]; exact new_reg w)
  have C1 : Hid (Below w.heap.size w v1) := Lib.hid (by rw [hw1]; exact grows' w _)
  have hr1 : w.heap.size < v1.heap.size := RR1.out.blk.lt
  clear hw1
  go_wp2_with fail
  refine (new_any v1).mono ?_
  rintro e v2 ⟨rfl, hw2⟩
  have RQ2 : Hid (RegAt v2 v1.heap.size [] [] [] false) := Lib.hid (by rw [hw2]; exact new_reg v1)
  have C2' : Hid (Below v1.heap.size v1 v2) := Lib.hid (by rw [hw2]; exact grows' v1 _)
  have RR2 := Lib.hid (RR1.out.below C2'.out)
  have C2 := Lib.hid (bt C1.out C2'.out)
  have hr2 : v1.heap.size < v2.heap.size := RQ2.out.blk.lt
  clear hw2 C1 C2' RR1
  go_wp2_with fail
  refine (fam_c _).mono ?_
  rintro e w1 ⟨rfl, hw⟩
  have b1 := madeF_below FLc v2
  have r1 : RowsOwn KC (madeF FLc v2) v2.heap.size (some ⟨top v2.heap.size FLc, 0, none⟩) 5 5 FLc (pl v2.heap.size FLc) := fam_rows v2 FLc (by decide +kernel) (by decide)
  rw [← hw] at b1 r1
  clear hw
  simp only [show FLc.length = 5 from rfl]
  generalize top v2.heap.size FLc = t1 at r1 ⊢
  generalize pl v2.heap.size FLc = R1 at r1
  replace b1 := Lib.hid b1
  replace r1 := Lib.hid r1
  go_wp2_with fail
  refine (fam_s _).mono ?_
  rintro e w2 ⟨rfl, hw⟩
  have b2 := madeF_below FLs w1
  have r2 : RowsOwn KC (madeF FLs w1) w1.heap.size (some ⟨top w1.heap.size FLs, 0, none⟩) 6 6 FLs (pl w1.heap.size FLs) := fam_rows w1 FLs (by decide +kernel) (by decide)
  rw [← hw] at b2 r2
  clear hw
  simp only [show FLs.length = 6 from rfl]
  generalize top w1.heap.size FLs = t2 at r2 ⊢
  generalize pl w1.heap.size FLs = R2 at r2
  replace b2 := Lib.hid b2
  replace r2 := Lib.hid r2
  go_wp2_with fail
  refine (fam_b _).mono ?_
  rintro e w3 ⟨rfl, hw⟩
  have b3 := madeF_below FLb w2
  have r3 : RowsOwn KC (madeF FLb w2) w2.heap.size (some ⟨top w2.heap.size FLb, 0, none⟩) 5 5 FLb (pl w2.heap.size FLb) := fam_rows w2 FLb (by decide +kernel) (by decide)
  rw [← hw] at b3 r3
  clear hw
  simp only [show FLb.length = 5 from rfl]
  generalize top w2.heap.size FLb = t3 at r3 ⊢
  generalize pl w2.heap.size FLb = R3 at r3
  replace b3 := Lib.hid b3
  replace r3 := Lib.hid r3
  go_wp2_with fail
  refine (fam_e _).mono ?_
  rintro e w4 ⟨rfl, hw⟩
  have b4 := madeF_below FLe w3
  have r4 : RowsOwn KC (madeF FLe w3) w3.heap.size (some ⟨top w3.heap.size FLe, 0, none⟩) 5 5 FLe (pl w3.heap.size FLe) := fam_rows w3 FLe (by decide +kernel) (by decide)
  rw [← hw] at b4 r4
  clear hw
  simp only [show FLe.length = 5 from rfl]
  generalize top w3.heap.size FLe = t4 at r4 ⊢
  generalize pl w3.heap.size FLe = R4 at r4
  replace b4 := Lib.hid b4
  replace r4 := Lib.hid r4
  go_wp2_with fail
  refine (fam_r _).mono ?_
  rintro e w5 ⟨rfl, hw⟩
  have b5 := madeF_below FLr w4
  have r5 : RowsOwn KC (madeF FLr w4) w4.heap.size (some ⟨top w4.heap.size FLr, 0, none⟩) 6 6 FLr (pl w4.heap.size FLr) := fam_rows w4 FLr (by decide +kernel) (by decide)
  rw [← hw] at b5 r5
  clear hw
  simp only [show FLr.length = 6 from rfl]
  generalize top w4.heap.size FLr = t5 at r5 ⊢
  generalize pl w4.heap.size FLr = R5 at r5
  replace b5 := Lib.hid b5
  replace r5 := Lib.hid r5
  go_wp2_with fail
  have B6 := Lib.hid (grows' w5 (.cells #[.slice (some ⟨t1, 0, none⟩) 5 5, .slice (some ⟨t2, 0, none⟩) 6 6, .slice (some ⟨t3, 0, none⟩) 5 5, .slice (some ⟨t4, 0, none⟩) 5 5, .slice (some ⟨t5, 0, none⟩) 6 6] 25))
  have HA : Hid (∀ j u, (fiveV t1 t2 t3 t4 t5)[j]? = some u → (w5.alloc (.cells #[.slice (some ⟨t1, 0, none⟩) 5 5, .slice (some ⟨t2, 0, none⟩) 6 6, .slice (some ⟨t3, 0, none⟩) 5 5, .slice (some ⟨t4, 0, none⟩) 5 5, .slice (some ⟨t5, 0, none⟩) 6 6] 25)).cell? ⟨w5.heap.size, j, none⟩ = some u) := Lib.hid (fun j u hu => by
    rw [World.cell?_alloc_at _ _ _ _ rfl]
    simpa [fiveV] using hu)
  have D5 := Lib.hid (B6.out)
  have D4 := Lib.hid (bt b5.out D5.out)
  have D3 := Lib.hid (bt b4.out D4.out)
  have D2 := Lib.hid (bt b3.out D3.out)
  have D1 := Lib.hid (bt b2.out D2.out)
  have D0 := Lib.hid (bt b1.out D1.out)
  have g7 : w5.heap.size < (w5.alloc (.cells #[.slice (some ⟨t1, 0, none⟩) 5 5, .slice (some ⟨t2, 0, none⟩) 6 6, .slice (some ⟨t3, 0, none⟩) 5 5, .slice (some ⟨t4, 0, none⟩) 5 5, .slice (some ⟨t5, 0, none⟩) 6 6] 25)).heap.size := by simp
  generalize w5.alloc (.cells #[.slice (some ⟨t1, 0, none⟩) 5 5, .slice (some ⟨t2, 0, none⟩) 6 6, .slice (some ⟨t3, 0, none⟩) 5 5, .slice (some ⟨t4, 0, none⟩) 5 5, .slice (some ⟨t5, 0, none⟩) 6 6] 25) = w6 at HA D0 D1 D2 D3 D4 D5 g7 ⊢
  have s1 := b1.out.size
  have s2 := b2.out.size
  have s3 := b3.out.size
  have s4 := b4.out.size
  have s5 := b5.out.size
  have HF : Hid (∀ k, k < 5 → ∀ W, Kp w.heap.size (w.heap.size + 1) w6 W → ∃ t R, (fiveV t1 t2 t3 t4 t5)[k]? = some (.slice (some ⟨t, 0, none⟩) (LsK k).length (LsK k).length) ∧ Ro.RowsIn KC W (some ⟨t, 0, none⟩) (LsK k).length (LsK k) R ∧ ∀ i, Neat (R.getD i sl0) ∧ (R.getD i sl0).2.1 ≤ (R.getD i sl0).2.2) := Lib.hid (fun k hk W hW => by
    obtain rfl | rfl | rfl | rfl | rfl : k = 0 ∨ k = 1 ∨ k = 2 ∨ k = 3 ∨ k = 4 := by omega
    · have h := fam_kp (r1.out.below D1.out) hW (by omega)
      exact ⟨t1, R1, rfl, h.rows, h.neat⟩
    · have h := fam_kp (r2.out.below D2.out) hW (by omega)
      exact ⟨t2, R2, rfl, h.rows, h.neat⟩
    · have h := fam_kp (r3.out.below D3.out) hW (by omega)
      exact ⟨t3, R3, rfl, h.rows, h.neat⟩
    · have h := fam_kp (r4.out.below D4.out) hW (by omega)
      exact ⟨t4, R4, rfl, h.rows, h.neat⟩
    · have h := fam_kp (r5.out.below D5.out) hW (by omega)
      exact ⟨t5, R5, rfl, h.rows, h.neat⟩)
  have RR6 := Lib.hid (RR2.out.below D0.out)
  have RQ6 := Lib.hid (RQ2.out.below D0.out)
  have BW6 := Lib.hid (bt C2.out D0.out)
  have hq6 : v1.heap.size < w6.heap.size := RQ6.out.blk.lt
  have hs6 : w.heap.size < w5.heap.size := by omega
  clear r1 r2 r3 r4 r5 b1 b2 b3 b4 b5 D0 D1 D2 D3 D4 D5 B6 RR2 RQ2 C2 R1 R2 R3 R4 R5 s1 s2 s3 s4 s5
  go_loopw [34] (fun v34 wr => ∃ (k : Nat) (C F : Cs), k ≤ 5 ∧ v34 = .int .i64 (k : Nat) ∧ RegAt wr w.heap.size C F [] false ∧ plain C = stI (offK k) ∧ plain F = rfI (offK k) ∧ Hi w6.heap.size C ∧ Hi w6.heap.size F ∧ Kp w.heap.size (w.heap.size + 1) w6 wr) (fun v34 _ => 5 - (RowKit.intOf v34).toNat)
  case atStart => exact ⟨0, [], [], by omega, rfl, RR6.out, rfl, rfl, Hi.nil _, Hi.nil _, Kp.refl _⟩
  case round =>
    clear RR6
    obtain ⟨k, C, F, hk, rfl, hreg, hpc, hpf, hic, hif, hkp⟩ := hrel
    have RR := Lib.hid hreg
    have PC := Lib.hid hpc
    have PF := Lib.hid hpf
    have HIC := Lib.hid hic
    have HIF := Lib.hid hif
    have HK := Lib.hid hkp
    clear hreg hpc hpf hic hif hkp
    by_cases hlt : k < 5
    · have i1 : (0 : Int) ≤ (k : Int) := by omega
      have i2 : (k : Int) < 5 := by omega
      obtain ⟨t, R, hv, _, _⟩ := HF.out k hlt wr HK.out
      have c0 : wr.cell? ⟨w5.heap.size, k, none⟩ = some (.slice (some ⟨t, 0, none⟩) (LsK k).length (LsK k).length) := by
        have h1 := HA.out k _ hv
        rw [← h1]
        exact World.cell?_of_block (HK.out.block _ g7 (.inr (show w.heap.size + 1 ≤ w5.heap.size by omega)))
      have HFV := Lib.hid hv
      have hn := LsK_len k hlt
      obtain ⟨hn1, hn2⟩ := hn
      have HLA := Lib.hid (LsK_at k hlt)
      have HLN := Lib.hid (offK_next k hlt)
      have HFK := Lib.hid (fun W hW => HF.out k hlt W hW)
      clear hv
      generalize hnk : (LsK k).length = n at c0 hn1 hn2 HLN HLA HFK
      have HNK := Lib.hid hnk
      clear hnk
      go_wp2_with fail
      go_loopw [7] (fun v7 wz => ∃ (i : Nat) (C F : Cs), i ≤ n ∧ v7 = .int .i64 (i : Nat) ∧ RegAt wz w.heap.size C F [] false ∧ plain C = stI (offK k + i) ∧ plain F = rfI (offK k + i) ∧ Hi w6.heap.size C ∧ Hi w6.heap.size F ∧ Kp w.heap.size (w.heap.size + 1) w6 wz) (fun v7 _ => n - (RowKit.intOf v7).toNat)
      case atStart => exact ⟨0, C, F, by omega, rfl, RR.out, PC.out, PF.out, HIC.out, HIF.out, HK.out⟩
      case round =>
        clear RR PC PF HIC HIF HK C F c0
        obtain ⟨i, C, F, hi, rfl, hreg, hpc, hpf, hic, hif, hkp⟩ := hrel
        have RR := Lib.hid hreg
        have PC := Lib.hid hpc
        have PF := Lib.hid hpf
        have HIC := Lib.hid hic
        have HIF := Lib.hid hif
        have HK := Lib.hid hkp
        clear hreg hpc hpf hic hif hkp
        by_cases hli : i < n
        · have j1 : (0 : Int) ≤ (i : Int) := by omega
          have j2 : (i : Int) < (n : Int) := by omega
          obtain ⟨t', R', hv', hrows, hneat⟩ := HFK.out wr HK.out
          have ht : t' = t := by
            have h1 := HFV.out
            rw [hv'] at h1
            injection h1 with h1
            injection h1 with h1
            injection h1 with h1
            injection h1
          subst ht
          obtain ⟨b, o, hA', hbs, hc, hlen, hin⟩ := hrows.at hli
          injection hA' with hA'
          injection hA' with hA1 hA2
          subst hA1 hA2
          have e0 : wr.cell? ⟨t', 0 + i * 7, none⟩ = some (.string (str ((LsK k).getD i cd0).name)) := hc 0 _ rfl
          have e1 : wr.cell? ⟨t', 0 + i * 7 + 1, none⟩ = some (.string (str ((LsK k).getD i cd0).fam)) := hc 1 _ rfl
          have e2 : wr.cell? ⟨t', 0 + i * 7 + 2, none⟩ = some (.int .u8 ((LsK k).getD i cd0).level) := hc 2 _ rfl
          have e3 : wr.cell? ⟨t', 0 + i * 7 + 3, none⟩ = some (slV (R'.getD i sl0)) := hc 3 _ rfl
          have e4 : wr.cell? ⟨t', 0 + i * 7 + 4, none⟩ = some (.int .i8 ((LsK k).getD i cd0).score) := hc 4 _ rfl
          have e5 : wr.cell? ⟨t', 0 + i * 7 + 5, none⟩ = some (.string (str ((LsK k).getD i cd0).quirk)) := hc 5 _ rfl
          have e6 : wr.cell? ⟨t', 0 + i * 7 + 6, none⟩ = some (.int .i16 ((LsK k).getD i cd0).entry) := hc 6 _ rfl
          simp only [Nat.zero_add] at e0 e1 e2 e3 e4 e5 e6
          have hla := HLA.out i hli
          have HST := Lib.hid (fun (C' F' : Cs) (er : Int) (he : EnterRel C F false ((LsK k).getD i cd0) wr.heap.size C' F' er) => ent_step PC.out PF.out hla.2 (by rw [hla.1]; exact he))
          have HE := Lib.hid (enter_any w.heap.size C F [] false ((LsK k).getD i cd0) (R'.getD i sl0) wr RR.out (by rw [← hla.1]; exact mild_up (mild_AL _) (by decide)) hlen (hneat i).1 (hneat i).2 hin)
          unfold cardV cells7 at HE
          have hsz := HK.out.size
          clear hc hlen hin hbs hrows hneat RR hla hv' PC PF
          generalize (LsK k).getD i cd0 = dd at e0 e1 e2 e3 e4 e5 e6 HE HST
          generalize R'.getD i sl0 = rr at e3 HE
          obtain ⟨ra, rn, rc⟩ := rr
          simp only [slV] at e3 HE
          go_wp2_with fail
          refine HE.out.mono ?_
          rintro e w7 ⟨C', F', er, rfl, hreg, hgb, hrel⟩
          have K7 := Lib.hid (HK.out.grown hgb (fun k hk => by injection hk with hk; exact .inl (by omega)))
          have S7 := Lib.hid (HST.out C' F' er hrel)
          have H7 := Lib.hid (Hi.enter hrel HIC.out HIF.out hsz)
          have R7 := Lib.hid hreg
          clear hreg hgb hrel HE HK HST HIC HIF e0 e1 e2 e3 e4 e5 e6
          go_wp2_with fail
          go_roundw
          case rel => exact ⟨i + 1, C', F', by omega, by go_num, R7.out, S7.out.1, S7.out.2, H7.out.1, H7.out.2, K7.out⟩
          case measure => simp [RowKit.intOf]; omega
        · obtain rfl : i = n := by omega
          have HP : Hid (plain C = stI (offK (k + 1)) ∧ plain F = rfI (offK (k + 1))) := Lib.hid (by rw [HLN.out]; exact ⟨PC.out, PF.out⟩)
          go_wp2_with fail
          go_roundw
          case rel => exact ⟨k + 1, C, F, by omega, by go_num, RR.out, HP.out.1, HP.out.2, HIC.out, HIF.out, HK.out⟩
          case measure => simp [RowKit.intOf]; omega
    · obtain rfl : k = 5 := by omega
      have hge : decide (((5 : Nat) : Int) < 5) = false := by decide
      have PC2 : Hid (plain C = SL) := Lib.hid PC.out
      have PF2 : Hid (plain F = RL) := Lib.hid PF.out
      have RQ := Lib.hid (show RegAt wr v1.heap.size [] [] [] false from ⟨(HK.out.block _ hq6 (.inr (by omega))).trans RQ6.out.blk, by simp, by simp, by simp, TxAll.nil _ _, TxAll.nil _ _, RQ6.out.cm, RQ6.out.fm⟩)
      have BW := Lib.hid (HK.out.low BW6.out (Nat.le_refl _) (by omega))
      have hq : v1.heap.size < wr.heap.size := RQ.out.blk.lt
      clear PC PF HIC HIF HK RQ6 BW6 HF HA
      go_wp2_with fail
      clear hge
      generalize (((5 : Nat) : Int)) = i5
      obtain ⟨wA, rfl⟩ : ∃ wA : World, wA = wr := ⟨_, rfl⟩
      refine (rCards_any wA).mono ?_
      rintro e x1 ⟨A8, c8, R8, rfl, hr8, hb8⟩
      obtain ⟨g8, rfl, hg8, hg8'⟩ := own_shapeK hr8.2.1 (by omega)
      have RO := Lib.hid hr8
      have X1 := Lib.hid hb8
      clear hr8 hb8
      go_wp2_with fail
      refine (check_any (some ⟨g8, 0, none⟩) c8 22 SL R8 0 0 x1 SL_chk ⟨by rw [SL_len]; omega, fun k => mild_up (mild_SL k) (by omega)⟩ (fun k => (RO.out.neat k).2) RO.out.rows).mono ?_
      rintro e x2 ⟨rfl, hb⟩
      have RO2 := Lib.hid (RO.out.below hb)
      have X2 := Lib.hid (bt X1.out hb)
      have hs2 := hb.size
      have HRR := Lib.hid (Kr.cards_any w.heap.size C F [] false x2 (RR.out.below X2.out))
      clear hb RO X1
      rw [PC2.out] at HRR
      go_wp2_with fail
      refine HRR.out.mono ?_
      rintro e x3 ⟨A3, c3, n3, R3, rfl, hr3, hb⟩
      obtain rfl : n3 = 22 := hr3.1.trans SL_len
      have RO3 := Lib.hid (RO2.out.below hb)
      have X3 := Lib.hid (bt X2.out hb)
      have hs3 := Nat.le_trans hs2 hb.size
      have HS3 := Lib.hid (lawSame_any A3 (some ⟨g8, 0, none⟩) c3 22 c8 22 SL SL R3 R8 true x3 (by simp) ⟨by rw [SL_len]; omega, fun k => mild_up (mild_SL k) (by omega)⟩ ⟨by rw [SL_len]; omega, fun k => mild_up (mild_SL k) (by omega)⟩ hr3.rows RO3.out.rows)
      clear hb hr3 RO2 X2 HRR hs2
      go_wp2_with fail
      refine HS3.out.mono ?_
      rintro e x4 ⟨rfl, hb⟩
      have RO4 := Lib.hid (RO3.out.below hb)
      have X4 := Lib.hid (bt X3.out hb)
      have hs4 := Nat.le_trans hs3 hb.size
      have HRF := Lib.hid (Kr.refused_any w.heap.size C F [] false x4 (RR.out.below X4.out))
      clear hb RO3 X3 HS3 hs3
      rw [PF2.out] at HRF
      go_wp2_with fail
      refine HRF.out.mono ?_
      rintro e x5 ⟨A5, c5, n5, R5, rfl, hr5, hb⟩
      obtain rfl : n5 = 5 := hr5.1.trans RL_len
      have RO5 := Lib.hid (RO4.out.below hb)
      have X5 := Lib.hid (bt X4.out hb)
      have hs5 := Nat.le_trans hs4 hb.size
      have HR5 := Lib.hid hr5
      clear hb hr5 RO4 X4 HRF hs4
      go_wp2_with fail
      refine (rRefused_any x5).mono ?_
      rintro e x6 ⟨A6, c6, R6, rfl, hr6, hb⟩
      have RO6 := Lib.hid (RO5.out.below hb)
      have X6 := Lib.hid (bt X5.out hb)
      have hs6' := Nat.le_trans hs5 hb.size
      have HS6 := Lib.hid (lawSame_any A5 A6 c5 5 c6 5 RL RL R5 R6 true x6 (by simp) ⟨by rw [RL_len]; omega, fun k => mild_up (mild_RL k) (by omega)⟩ ⟨by rw [RL_len]; omega, fun k => mild_up (mild_RL k) (by omega)⟩ (HR5.out.below hb).rows hr6.rows)
      clear hb hr6 RO5 X5 HR5 hs5
      go_wp2_with fail
      refine HS6.out.mono ?_
      rintro e x7 ⟨rfl, hb⟩
      have RO7 := Lib.hid (RO6.out.below hb)
      have X7 := Lib.hid (bt X6.out hb)
      have hs7 := Nat.le_trans hs6' hb.size
      have HH7 := Lib.hid (Half.of RO7.out)
      have GO7 : Hid (Good SL R8 wA.heap.size) := Lib.hid (Good.start (by rw [RO7.out.2.2.1]; exact SL_len) (fun i hi => own_from (RO7.out.2.2.2.1 i (by rw [RO7.out.2.2.1, SL_len]; exact hi)).2))
      have RQ7 := Lib.hid (RQ.out.below X7.out)
      have BW7 := Lib.hid (bt BW.out X7.out)
      clear hb RO6 X6 HS6 hs6' RO7 X7 RQ BW RR PC2 PF2
      go_wp2_with fail
      go_loopw [11] (fun v11 wr => ∃ (k : Nat) (L : List Cd) (R : List Sl), v11 = .int .i64 (k : Int) ∧ k ≤ 60 ∧ Half wr wA.heap.size (some ⟨g8, 0, none⟩) 22 c8 L R ∧ Good L R wA.heap.size ∧ RegAt wr v1.heap.size [] [] [] false ∧ Below w.heap.size w wr) (fun v11 _ => 60 - (RowKit.intOf v11).toNat)
      case atStart => exact ⟨0, SL, R8, rfl, by omega, HH7.out, GO7.out, RQ7.out, BW7.out⟩
      case round =>
        clear HH7 GO7 RQ7 BW7 hs7
        obtain ⟨k, L, R, rfl, hk, hh, hgo, hrq, hbk⟩ := hrel
        have HH := Lib.hid hh
        have GD := Lib.hid hgo
        have RQK := Lib.hid hrq
        have BK := Lib.hid hbk
        clear hh hgo hrq hbk
        by_cases hqq : k < m ∧ k < 60
        · obtain ⟨hlt, h60⟩ := hqq
          obtain ⟨bB, oB, rfl, hbB, hcB⟩ := GB.out.at (by omega)
          have p0 := hcB k _ (Ci.i64s_at ls k (by rw [← HML.out]; exact hlt))
          have e0 : wr.cell? ⟨bB, oB + k, none⟩ = some (.int .i64 (ls.getD k 0)) := (BK.out.cell (p := ⟨bB, oB + k, none⟩) hbB).trans p0
          clear hcB p0
          generalize ls.getD k 0 = x at e0
          have k1 : (0 : Int) ≤ (k : Int) := by omega
          have k2 : (k : Int) < (m : Int) := by omega
          have k3 : (k : Int) < 60 := by omega
          have HP : Hid (∀ (y : Int) W, Calls Try.prog 17 #[.int .i64 y, .int .i64 22] W (fun e w' => ∃ j : Nat, j < 22 ∧ e = .returned (.int .i64 (j : Int)) ∧ w' = W)) := Lib.hid (fun y W => pick_any y 22 W (by omega) (by omega))
          go_wp2_with fail
          refine (HP.out _ _).mono ?_
          rintro e y0 ⟨a, ha, rfl, hw⟩
          rw [hw]
          clear hw y0 e0
          have a1 : (0 : Int) ≤ (a : Int) := by omega
          have a2 : (a : Int) < 22 := by omega
          go_wp2_with fail
          refine (HP.out _ _).mono ?_
          rintro e y0 ⟨j, hj, rfl, hw⟩
          rw [hw]
          clear hw y0 HP
          have j1 : (0 : Int) ≤ (j : Int) := by omega
          have j2 : (j : Int) < 22 := by omega
          go_upto_region 22 with (fail)
          obtain ⟨g, rfl⟩ : ∃ g, g = g8 := ⟨_, rfl⟩
          obtain ⟨g', hgA', hgb, hgs, hfz, hca, _⟩ := HH.out.at ha
          injection hgA' with hgA'
          injection hgA' with hgA'
          subst hgA'
          obtain ⟨g', hgA', _, _, _, hcj, _⟩ := HH.out.at hj
          injection hgA' with hgA'
          injection hgA' with hgA'
          subst hgA'
          have TXA := Lib.hid (HH.out.tx a ha)
          have TXJ := Lib.hid (HH.out.tx j hj)
          clear hfz
          have SWP := Lib.hid (GD.out.swap ha hj)
          generalize L.getD a cd0 = da at hca TXA SWP
          generalize R.getD a sl0 = ra at hca TXA SWP
          generalize L.getD j cd0 = dj at hcj TXJ SWP
          generalize R.getD j sl0 = rj at hcj TXJ SWP
          obtain ⟨anm, afm, alv, acp, asc, aqk, aen⟩ := da
          obtain ⟨ara, arn, arc⟩ := ra
          obtain ⟨jnm, jfm, jlv, jcp, jsc, jqk, jen⟩ := dj
          obtain ⟨jra, jrn, jrc⟩ := rj
          have p0 : wr.cell? ⟨g, a * 7, none⟩ = some (.string (str anm)) := hca 0 _ rfl
          have p1 : wr.cell? ⟨g, a * 7 + 1, none⟩ = some (.string (str afm)) := hca 1 _ rfl
          have p2 : wr.cell? ⟨g, a * 7 + 2, none⟩ = some (.int .u8 alv) := hca 2 _ rfl
          have p3 : wr.cell? ⟨g, a * 7 + 3, none⟩ = some (.slice ara arn arc) := hca 3 _ rfl
          have p4 : wr.cell? ⟨g, a * 7 + 4, none⟩ = some (.int .i8 asc) := hca 4 _ rfl
          have p5 : wr.cell? ⟨g, a * 7 + 5, none⟩ = some (.string (str aqk)) := hca 5 _ rfl
          have p6 : wr.cell? ⟨g, a * 7 + 6, none⟩ = some (.int .i16 aen) := hca 6 _ rfl
          clear hca
          have hgw : g ≠ wr.heap.size := by omega
          go_upto_region 23 with (fail)
          have q0 : wr.cell? ⟨g, j * 7, none⟩ = some (.string (str jnm)) := hcj 0 _ rfl
          have q1 : wr.cell? ⟨g, j * 7 + 1, none⟩ = some (.string (str jfm)) := hcj 1 _ rfl
          have q2 : wr.cell? ⟨g, j * 7 + 2, none⟩ = some (.int .u8 jlv) := hcj 2 _ rfl
          have q3 : wr.cell? ⟨g, j * 7 + 3, none⟩ = some (.slice jra jrn jrc) := hcj 3 _ rfl
          have q4 : wr.cell? ⟨g, j * 7 + 4, none⟩ = some (.int .i8 jsc) := hcj 4 _ rfl
          have q5 : wr.cell? ⟨g, j * 7 + 5, none⟩ = some (.string (str jqk)) := hcj 5 _ rfl
          have q6 : wr.cell? ⟨g, j * 7 + 6, none⟩ = some (.int .i16 jen) := hcj 6 _ rfl
          clear hcj
          have YB := Lib.hid (grows' wr (.cells #[.string (str anm), .string (str afm), .int .u8 alv, .slice ara arn arc, .int .i8 asc, .string (str aqk), .int .i16 aen] 34))
          replace p0 := (YB.out.cell (p := ⟨g, a * 7, none⟩) hgs).trans p0
          replace q0 := (YB.out.cell (p := ⟨g, j * 7, none⟩) hgs).trans q0
          replace p1 := (YB.out.cell (p := ⟨g, a * 7 + 1, none⟩) hgs).trans p1
          replace q1 := (YB.out.cell (p := ⟨g, j * 7 + 1, none⟩) hgs).trans q1
          replace p2 := (YB.out.cell (p := ⟨g, a * 7 + 2, none⟩) hgs).trans p2
          replace q2 := (YB.out.cell (p := ⟨g, j * 7 + 2, none⟩) hgs).trans q2
          replace p3 := (YB.out.cell (p := ⟨g, a * 7 + 3, none⟩) hgs).trans p3
          replace q3 := (YB.out.cell (p := ⟨g, j * 7 + 3, none⟩) hgs).trans q3
          replace p4 := (YB.out.cell (p := ⟨g, a * 7 + 4, none⟩) hgs).trans p4
          replace q4 := (YB.out.cell (p := ⟨g, j * 7 + 4, none⟩) hgs).trans q4
          replace p5 := (YB.out.cell (p := ⟨g, a * 7 + 5, none⟩) hgs).trans p5
          replace q5 := (YB.out.cell (p := ⟨g, j * 7 + 5, none⟩) hgs).trans q5
          replace p6 := (YB.out.cell (p := ⟨g, a * 7 + 6, none⟩) hgs).trans p6
          replace q6 := (YB.out.cell (p := ⟨g, j * 7 + 6, none⟩) hgs).trans q6
          have x0 : (wr.alloc (.cells #[.string (str anm), .string (str afm), .int .u8 alv, .slice ara arn arc, .int .i8 asc, .string (str aqk), .int .i16 aen] 34)).cell? ⟨wr.heap.size, 0, none⟩ = some (.string (str anm)) := by rw [Lib.cell_of_heap (heap_alloc_new wr _)]; rfl
          have x1 : (wr.alloc (.cells #[.string (str anm), .string (str afm), .int .u8 alv, .slice ara arn arc, .int .i8 asc, .string (str aqk), .int .i16 aen] 34)).cell? ⟨wr.heap.size, 1, none⟩ = some (.string (str afm)) := by rw [Lib.cell_of_heap (heap_alloc_new wr _)]; rfl
          have x2 : (wr.alloc (.cells #[.string (str anm), .string (str afm), .int .u8 alv, .slice ara arn arc, .int .i8 asc, .string (str aqk), .int .i16 aen] 34)).cell? ⟨wr.heap.size, 2, none⟩ = some (.int .u8 alv) := by rw [Lib.cell_of_heap (heap_alloc_new wr _)]; rfl
          have x3 : (wr.alloc (.cells #[.string (str anm), .string (str afm), .int .u8 alv, .slice ara arn arc, .int .i8 asc, .string (str aqk), .int .i16 aen] 34)).cell? ⟨wr.heap.size, 3, none⟩ = some (.slice ara arn arc) := by rw [Lib.cell_of_heap (heap_alloc_new wr _)]; rfl
          have x4 : (wr.alloc (.cells #[.string (str anm), .string (str afm), .int .u8 alv, .slice ara arn arc, .int .i8 asc, .string (str aqk), .int .i16 aen] 34)).cell? ⟨wr.heap.size, 4, none⟩ = some (.int .i8 asc) := by rw [Lib.cell_of_heap (heap_alloc_new wr _)]; rfl
          have x5 : (wr.alloc (.cells #[.string (str anm), .string (str afm), .int .u8 alv, .slice ara arn arc, .int .i8 asc, .string (str aqk), .int .i16 aen] 34)).cell? ⟨wr.heap.size, 5, none⟩ = some (.string (str aqk)) := by rw [Lib.cell_of_heap (heap_alloc_new wr _)]; rfl
          have x6 : (wr.alloc (.cells #[.string (str anm), .string (str afm), .int .u8 alv, .slice ara arn arc, .int .i8 asc, .string (str aqk), .int .i16 aen] 34)).cell? ⟨wr.heap.size, 6, none⟩ = some (.int .i16 aen) := by rw [Lib.cell_of_heap (heap_alloc_new wr _)]; rfl
          generalize wr.alloc (.cells #[.string (str anm), .string (str afm), .int .u8 alv, .slice ara arn arc, .int .i8 asc, .string (str aqk), .int .i16 aen] 34) = y at YB p0 p1 p2 p3 p4 p5 p6 q0 q1 q2 q3 q4 q5 q6 x0 x1 x2 x3 x4 x5 x6 ⊢
          have HY := Lib.hid (HH.out.below YB.out)
          obtain ⟨g', hgA', _, _, hfz, _, hwa⟩ := HY.out.at ha
          injection hgA' with hgA'
          injection hgA' with hgA'
          subst hgA'
          have HP := Lib.hid (hwa ⟨jnm, jfm, jlv, jcp, jsc, jqk, jen⟩ (jra, jrn, jrc) ⟨TXJ.out.1, TXJ.out.2.1.below YB.out, TXJ.out.2.2⟩)
          simp only [slV] at HP
          have XS := Lib.hid (⟨x0, x1, x2, x3, x4, x5, x6⟩ : (y.cell? ⟨wr.heap.size, 0, none⟩ = some (.string (str anm)) ∧ y.cell? ⟨wr.heap.size, 1, none⟩ = some (.string (str afm)) ∧ y.cell? ⟨wr.heap.size, 2, none⟩ = some (.int .u8 alv) ∧ y.cell? ⟨wr.heap.size, 3, none⟩ = some (.slice ara arn arc) ∧ y.cell? ⟨wr.heap.size, 4, none⟩ = some (.int .i8 asc) ∧ y.cell? ⟨wr.heap.size, 5, none⟩ = some (.string (str aqk)) ∧ y.cell? ⟨wr.heap.size, 6, none⟩ = some (.int .i16 aen)))
          have f0 := hfz (a * 7)
          have f1 := hfz (a * 7 + 1)
          have f2 := hfz (a * 7 + 2)
          have f3 := hfz (a * 7 + 3)
          have f4 := hfz (a * 7 + 4)
          have f5 := hfz (a * 7 + 5)
          have f6 := hfz (a * 7 + 6)
          clear hwa hfz x0 x1 x2 x3 x4 x5 x6 HY
          go_upto_region 24 with (fail)
          clear p0 p1 p2 p3 p4 p5 p6 q0 q1 q2 q3 q4 q5 q6 f0 f1 f2 f3 f4 f5 f6
          have H1 := Lib.hid HP.out.1
          have G1 := Lib.hid HP.out.2
          clear HP
          generalize ((((((y.setCell _ _).setCell _ _).setCell _ _).setCell _ _).setCell _ _).setCell _ _).setCell _ _ = y1 at H1 G1 ⊢
          have D1 : Hid (Below y1.heap.size y1 y1) := Lib.hid (Below.refl y1.heap.size y1)
          have H2 := Lib.hid (H1.out.below D1.out)
          obtain ⟨x0, x1, x2, x3, x4, x5, x6⟩ := XS.out
          replace x0 := (D1.out.cell (p := ⟨wr.heap.size, 0, none⟩) (Nat.lt_of_lt_of_le (cell_lt x0) G1.out.size)).trans ((gb_cell G1.out (cell_lt x0) hgw.symm).trans x0)
          replace x1 := (D1.out.cell (p := ⟨wr.heap.size, 1, none⟩) (Nat.lt_of_lt_of_le (cell_lt x1) G1.out.size)).trans ((gb_cell G1.out (cell_lt x1) hgw.symm).trans x1)
          replace x2 := (D1.out.cell (p := ⟨wr.heap.size, 2, none⟩) (Nat.lt_of_lt_of_le (cell_lt x2) G1.out.size)).trans ((gb_cell G1.out (cell_lt x2) hgw.symm).trans x2)
          replace x3 := (D1.out.cell (p := ⟨wr.heap.size, 3, none⟩) (Nat.lt_of_lt_of_le (cell_lt x3) G1.out.size)).trans ((gb_cell G1.out (cell_lt x3) hgw.symm).trans x3)
          replace x4 := (D1.out.cell (p := ⟨wr.heap.size, 4, none⟩) (Nat.lt_of_lt_of_le (cell_lt x4) G1.out.size)).trans ((gb_cell G1.out (cell_lt x4) hgw.symm).trans x4)
          replace x5 := (D1.out.cell (p := ⟨wr.heap.size, 5, none⟩) (Nat.lt_of_lt_of_le (cell_lt x5) G1.out.size)).trans ((gb_cell G1.out (cell_lt x5) hgw.symm).trans x5)
          replace x6 := (D1.out.cell (p := ⟨wr.heap.size, 6, none⟩) (Nat.lt_of_lt_of_le (cell_lt x6) G1.out.size)).trans ((gb_cell G1.out (cell_lt x6) hgw.symm).trans x6)
          have TA2 := Lib.hid (((TXA.out.below YB.out).kept G1.out).below D1.out)
          have GY := Lib.hid (gb_trans G1.out (gb_below D1.out (some g)))
          clear D1 H1 G1 XS
          obtain ⟨y2, rfl⟩ : ∃ y2, y2 = y1 := ⟨_, rfl⟩
          obtain ⟨g', hgA', _, _, hfz, hcz, hwz⟩ := H2.out.at hj
          injection hgA' with hgA'
          injection hgA' with hgA'
          subst hgA'
          have HP := Lib.hid (hwz ⟨anm, afm, alv, acp, asc, aqk, aen⟩ (ara, arn, arc) TA2.out)
          simp only [slV] at HP
          obtain ⟨u0, z0⟩ : ∃ u, y2.cell? ⟨g, j * 7, none⟩ = some u := ⟨_, hcz 0 _ rfl⟩
          have f0 : y2.frozen? ⟨g, j * 7, none⟩ = false := hfz _
          obtain ⟨u1, z1⟩ : ∃ u, y2.cell? ⟨g, j * 7 + 1, none⟩ = some u := ⟨_, hcz 1 _ rfl⟩
          have f1 : y2.frozen? ⟨g, j * 7 + 1, none⟩ = false := hfz _
          obtain ⟨u2, z2⟩ : ∃ u, y2.cell? ⟨g, j * 7 + 2, none⟩ = some u := ⟨_, hcz 2 _ rfl⟩
          have f2 : y2.frozen? ⟨g, j * 7 + 2, none⟩ = false := hfz _
          obtain ⟨u3, z3⟩ : ∃ u, y2.cell? ⟨g, j * 7 + 3, none⟩ = some u := ⟨_, hcz 3 _ rfl⟩
          have f3 : y2.frozen? ⟨g, j * 7 + 3, none⟩ = false := hfz _
          obtain ⟨u4, z4⟩ : ∃ u, y2.cell? ⟨g, j * 7 + 4, none⟩ = some u := ⟨_, hcz 4 _ rfl⟩
          have f4 : y2.frozen? ⟨g, j * 7 + 4, none⟩ = false := hfz _
          obtain ⟨u5, z5⟩ : ∃ u, y2.cell? ⟨g, j * 7 + 5, none⟩ = some u := ⟨_, hcz 5 _ rfl⟩
          have f5 : y2.frozen? ⟨g, j * 7 + 5, none⟩ = false := hfz _
          obtain ⟨u6, z6⟩ : ∃ u, y2.cell? ⟨g, j * 7 + 6, none⟩ = some u := ⟨_, hcz 6 _ rfl⟩
          have f6 : y2.frozen? ⟨g, j * 7 + 6, none⟩ = false := hfz _
          clear hcz hwz hfz H2 TA2
          go_wp2_with fail
          have H3 := Lib.hid HP.out.1
          have GY3 := gb_trans GY.out HP.out.2
          have B3 := Lib.hid (bgb (bt BK.out YB.out) GY3 (show w.heap.size ≤ g by omega))
          have Q3 := Lib.hid ((RQK.out.below YB.out).kept GY3 (show v1.heap.size ≠ g by omega) (fun i hi => absurd hi (by simp)) (fun i hi => absurd hi (by simp)))
          clear HP GY GY3
          go_roundw
          case rel => exact ⟨k + 1, _, _, by go_num, by omega, H3.out, SWP.out, Q3.out, B3.out⟩
          case measure => simp [RowKit.intOf]; omega
        · have HX : Hid (k < m ∧ 60 ≤ k ∨ m ≤ k) := Lib.hid (by omega)
          obtain ⟨wo, rfl⟩ : ∃ wo : World, wo = wr := ⟨_, rfl⟩
          have HRW := Lib.hid (fun W (hW : Kp v1.heap.size (v1.heap.size + 1) wo W) => half_kp HH.out GD.out hW (by omega) hg8)
          have HNT := Lib.hid HH.out.neat
          have hqo : v1.heap.size < wo.heap.size := RQK.out.blk.lt
          clear HH hqq
          by_cases hlt : k < m
          case' pos => have h60 : (60 : Int) ≤ (k : Int) := by have := HX.out; omega
          all_goals
            go_wp2_with fail
            clear HX hlt
            generalize (k : Int) = kk
            go_loopw [15] (fun v15 wz => ∃ (i : Nat) (D : Cs), i ≤ 22 ∧ v15 = .int .i64 (i : Nat) ∧ RegAt wz v1.heap.size D [] [] false ∧ plain D = L.take i ∧ Kp v1.heap.size (v1.heap.size + 1) wo wz) (fun v15 _ => 22 - (RowKit.intOf v15).toNat)
            case atStart => exact ⟨0, [], by omega, rfl, RQK.out, by simp [plain], Kp.refl _⟩
            case round =>
              clear RQK
              obtain ⟨i, D, hi, rfl, hreg, hpd, hkp⟩ := hrel
              have RQ := Lib.hid hreg
              have PD := Lib.hid hpd
              have HK := Lib.hid hkp
              clear hreg hpd hkp
              by_cases hli : i < 22
              · have j1 : (0 : Int) ≤ (i : Int) := by omega
                have j2 : (i : Int) < 22 := by omega
                obtain ⟨b, o, hA', hbs, hc, hlen, hin⟩ := (HRW.out wr HK.out).at hli
                injection hA' with hA'
                injection hA' with hA1 hA2
                subst hA1 hA2
                have e0 : wr.cell? ⟨g8, 0 + i * 7, none⟩ = some (.string (str (L.getD i cd0).name)) := hc 0 _ rfl
                have e1 : wr.cell? ⟨g8, 0 + i * 7 + 1, none⟩ = some (.string (str (L.getD i cd0).fam)) := hc 1 _ rfl
                have e2 : wr.cell? ⟨g8, 0 + i * 7 + 2, none⟩ = some (.int .u8 (L.getD i cd0).level) := hc 2 _ rfl
                have e3 : wr.cell? ⟨g8, 0 + i * 7 + 3, none⟩ = some (slV (R.getD i sl0)) := hc 3 _ rfl
                have e4 : wr.cell? ⟨g8, 0 + i * 7 + 4, none⟩ = some (.int .i8 (L.getD i cd0).score) := hc 4 _ rfl
                have e5 : wr.cell? ⟨g8, 0 + i * 7 + 5, none⟩ = some (.string (str (L.getD i cd0).quirk)) := hc 5 _ rfl
                have e6 : wr.cell? ⟨g8, 0 + i * 7 + 6, none⟩ = some (.int .i16 (L.getD i cd0).entry) := hc 6 _ rfl
                simp only [Nat.zero_add] at e0 e1 e2 e3 e4 e5 e6
                have HST := Lib.hid (fun (D' G' : Cs) (er : Int) (he : EnterRel D [] false (L.getD i cd0) wr.heap.size D' G' er) => GD.out.enter hli PD.out he)
                have HE := Lib.hid (enter_any v1.heap.size D [] [] false (L.getD i cd0) (R.getD i sl0) wr RQ.out (mild_up (GD.out.mild i) (by decide)) hlen (HNT.out i).1 (HNT.out i).2 hin)
                unfold cardV cells7 at HE
                clear hc hlen hin hbs RQ PD
                generalize L.getD i cd0 = dd at e0 e1 e2 e3 e4 e5 e6 HE HST
                generalize R.getD i sl0 = rr at e3 HE
                obtain ⟨ra, rn, rc⟩ := rr
                simp only [slV] at e3 HE
                go_wp2_with fail
                refine HE.out.mono ?_
                rintro e x9 ⟨D', G', er, rfl, hreg, hgb, hrel⟩
                obtain ⟨rfl, rfl, hpd⟩ := HST.out D' G' er hrel
                have K9 := Lib.hid (HK.out.grown hgb (fun k hk => by injection hk with hk; exact .inl (by omega)))
                have R9 := Lib.hid hreg
                have P9 := Lib.hid hpd
                clear hreg hgb hrel hpd HE HK HST e0 e1 e2 e3 e4 e5 e6
                go_wp2_with fail
                go_roundw
                case rel => exact ⟨i + 1, D', by omega, by go_num, R9.out, P9.out, K9.out⟩
                case measure => simp [RowKit.intOf]; omega
              · obtain rfl : i = 22 := by omega
                have PD2 : Hid (plain D = L) := Lib.hid (PD.out.trans (by rw [List.take_of_length_le (by rw [GD.out.len]; omega)]))
                have HR9 := Lib.hid (HRW.out wr HK.out)
                have B9 := Lib.hid (HK.out.low BK.out (show w.heap.size ≤ v1.heap.size by omega) (by have := BK.out.size; omega))
                clear HRW HK BK PD
                go_wp2_with fail
                obtain ⟨w9, rfl⟩ : ∃ w9 : World, w9 = wr := ⟨_, rfl⟩
                clear hli
                generalize (((22 : Nat) : Int)) = i22
                go_loopw [16] (fun v16 wz => ∃ i : Nat, i ≤ 22 ∧ v16 = .int .i64 (i : Nat) ∧ Below w9.heap.size w9 wz) (fun v16 _ => 22 - (RowKit.intOf v16).toNat)
                case atStart => exact ⟨0, by omega, rfl, Below.refl _ _⟩
                case round =>
                  obtain ⟨i, hi, rfl, hbz⟩ := hrel
                  have BZ := Lib.hid hbz
                  clear hbz
                  by_cases hli : i < 22
                  · have j1 : (0 : Int) ≤ (i : Int) := by omega
                    have j2 : (i : Int) < 22 := by omega
                    have HRI := Lib.hid (fun W (hW : Below w9.heap.size w9 W) => (HR9.out.below hW).at hli)
                    obtain ⟨b, o, hA', hbs, hc, hlen, hin⟩ := HRI.out wr BZ.out
                    injection hA' with hA'
                    injection hA' with hA1 hA2
                    subst hA1 hA2
                    have e0 : wr.cell? ⟨g8, 0 + i * 7, none⟩ = some (.string (str (L.getD i cd0).name)) := hc 0 _ rfl
                    simp only [Nat.zero_add] at e0
                    have HFI := Lib.hid (rFind_any (L.getD i cd0).name wr)
                    have HFG := Lib.hid (fun (d : Cd) (er : Int) (hf : FindRel (L.getD i cd0).name d er) => GD.out.find i hli hf)
                    clear hc hlen hin hbs
                    go_wp2_with fail
                    refine HFI.out.mono ?_
                    rintro e y0 ⟨fd, ⟨qa, qn, qc⟩, er, rfl, hf, hql, ⟨qb, hqb, hqo⟩, hby⟩
                    obtain ⟨rfl, rfl⟩ := HFG.out fd er hf
                    have BY := Lib.hid (bt BZ.out hby)
                    have QC := Lib.hid (own_cells hqo)
                    have QL := Lib.hid hql
                    clear hf hql hqb hqo hby HFI HFG BZ
                    have HMI := Lib.hid (mild_up (GD.out.mild i) (show 63 ≤ 1099511627776 by decide))
                    obtain ⟨b, o, hA', hbs, hc, hlen, hin⟩ := HRI.out y0 BY.out
                    injection hA' with hA'
                    injection hA' with hA1 hA2
                    subst hA1 hA2
                    have HLN := Lib.hid hlen
                    clear hc hin hlen hbs e0
                    have HRI2 := Lib.hid (fun W (hW : Below w9.heap.size w9 W) => show (∀ j u, (KC.row (L.getD i cd0, R.getD i sl0))[j]? = some u → W.cell? ⟨g8, 0 + i * 7 + j, none⟩ = some u) ∧ CellsIn W 1 (R.getD i sl0).1 (R.getD i sl0).2.1 (strs (L.getD i cd0).compat) from by
                      obtain ⟨b, o, hA', _, hc, _, hin⟩ := HRI.out W hW
                      injection hA' with hA'
                      injection hA' with hA1 hA2
                      subst hA1 hA2
                      exact ⟨hc, hin⟩)
                    clear HRI
                    unfold cardV cells7
                    have HSM := Lib.hid (fun (W : World) (hW : Below y0.heap.size y0 W) => same_any (L.getD i cd0) (L.getD i cd0) (qa, qn, qc) (R.getD i sl0) true W (by simp) HMI.out HMI.out QL.out HLN.out (QC.out.below hW) (HRI2.out W (bt BY.out hW)).2)
                    unfold cardV cells7 at HSM
                    replace HRI2 := Lib.hid (fun W hW => (HRI2.out W hW).1)
                    clear HLN QL QC HMI
                    generalize L.getD i cd0 = dd at HSM HRI2 ⊢
                    generalize R.getD i sl0 = rr at HSM HRI2
                    obtain ⟨ra, rn, rc⟩ := rr
                    obtain ⟨nm, fm, lv, cp, sc, qk, en⟩ := dd
                    simp only [slV] at HSM ⊢
                    have HCL : Hid (∀ W, Below w9.heap.size w9 W → W.cell? ⟨g8, i * 7, none⟩ = some (.string (str nm)) ∧ W.cell? ⟨g8, i * 7 + 1, none⟩ = some (.string (str fm)) ∧ W.cell? ⟨g8, i * 7 + 2, none⟩ = some (.int .u8 lv) ∧ W.cell? ⟨g8, i * 7 + 3, none⟩ = some (.slice ra rn rc) ∧ W.cell? ⟨g8, i * 7 + 4, none⟩ = some (.int .i8 sc) ∧ W.cell? ⟨g8, i * 7 + 5, none⟩ = some (.string (str qk)) ∧ W.cell? ⟨g8, i * 7 + 6, none⟩ = some (.int .i16 en)) := Lib.hid (fun W hW => by
                      have h := HRI2.out W hW
                      simp only [Nat.zero_add] at h
                      exact ⟨h 0 _ rfl, h 1 _ rfl, h 2 _ rfl, h 3 _ rfl, h 4 _ rfl, h 5 _ rfl, h 6 _ rfl⟩)
                    clear HRI2
                    generalize str nm = S1 at HSM HCL ⊢
                    generalize str fm = S2 at HSM HCL ⊢
                    generalize str qk = S3 at HSM HCL ⊢
                    go_upto_region 34 with (fail)
                    have YA := Lib.hid (grows' y0 (.cells #[.string S1, .string S2, .int .u8 lv, .slice qa qn qc, .int .i8 sc, .string S3, .int .i16 en] 34))
                    have HBX : Hid (∀ j u, [Value.string S1, .string S2, .int .u8 lv, .slice qa qn qc, .int .i8 sc, .string S3, .int .i16 en][j]? = some u → (y0.alloc (.cells #[.string S1, .string S2, .int .u8 lv, .slice qa qn qc, .int .i8 sc, .string S3, .int .i16 en] 34)).cell? ⟨y0.heap.size, j, none⟩ = some u) := Lib.hid (fun j u hu => by
                      rw [World.cell?_alloc_at _ _ _ _ rfl]
                      simpa using hu)
                    have yb : y0.heap.size < (y0.alloc (.cells #[.string S1, .string S2, .int .u8 lv, .slice qa qn qc, .int .i8 sc, .string S3, .int .i16 en] 34)).heap.size := by simp
                    generalize y0.alloc (.cells #[.string S1, .string S2, .int .u8 lv, .slice qa qn qc, .int .i8 sc, .string S3, .int .i16 en] 34) = y1 at YA HBX yb ⊢
                    have HEK : Hid (∀ W, Below y1.heap.size y1 W → (W.cell? ⟨y0.heap.size, 0, none⟩ = some (.string S1) ∧ W.cell? ⟨y0.heap.size, 1, none⟩ = some (.string S2) ∧ W.cell? ⟨y0.heap.size, 2, none⟩ = some (.int .u8 lv) ∧ W.cell? ⟨y0.heap.size, 3, none⟩ = some (.slice qa qn qc) ∧ W.cell? ⟨y0.heap.size, 4, none⟩ = some (.int .i8 sc) ∧ W.cell? ⟨y0.heap.size, 5, none⟩ = some (.string S3) ∧ W.cell? ⟨y0.heap.size, 6, none⟩ = some (.int .i16 en) ∧ W.cell? ⟨g8, i * 7, none⟩ = some (.string S1) ∧ W.cell? ⟨g8, i * 7 + 1, none⟩ = some (.string S2) ∧ W.cell? ⟨g8, i * 7 + 2, none⟩ = some (.int .u8 lv) ∧ W.cell? ⟨g8, i * 7 + 3, none⟩ = some (.slice ra rn rc) ∧ W.cell? ⟨g8, i * 7 + 4, none⟩ = some (.int .i8 sc) ∧ W.cell? ⟨g8, i * 7 + 5, none⟩ = some (.string S3) ∧ W.cell? ⟨g8, i * 7 + 6, none⟩ = some (.int .i16 en)) ∧ Below y1.heap.size y1 W) := Lib.hid (fun W hW => by
                      obtain ⟨h0, h1, h2, h3, h4, h5, h6⟩ := HCL.out W (bt (bt BY.out YA.out) hW)
                      exact ⟨⟨(hW.cell (p := ⟨y0.heap.size, 0, none⟩) yb).trans (HBX.out 0 _ rfl), (hW.cell (p := ⟨y0.heap.size, 1, none⟩) yb).trans (HBX.out 1 _ rfl), (hW.cell (p := ⟨y0.heap.size, 2, none⟩) yb).trans (HBX.out 2 _ rfl), (hW.cell (p := ⟨y0.heap.size, 3, none⟩) yb).trans (HBX.out 3 _ rfl), (hW.cell (p := ⟨y0.heap.size, 4, none⟩) yb).trans (HBX.out 4 _ rfl), (hW.cell (p := ⟨y0.heap.size, 5, none⟩) yb).trans (HBX.out 5 _ rfl), (hW.cell (p := ⟨y0.heap.size, 6, none⟩) yb).trans (HBX.out 6 _ rfl), h0, h1, h2, h3, h4, h5, h6⟩, hW⟩)
                    have HSM1 := Lib.hid (fun W (hW : Below y1.heap.size y1 W) => HSM.out W (bt YA.out hW))
                    have BY1 := Lib.hid (bt BY.out YA.out)
                    clear HSM HCL HBX YA BY
                    generalize y0.heap.size = bx at *
                    refine wp_region_noPanic ?_
                    refine wp_region_held_drew (S := fun w' => (w'.cell? ⟨bx, 0, none⟩ = some (.string S1) ∧ w'.cell? ⟨bx, 1, none⟩ = some (.string S2) ∧ w'.cell? ⟨bx, 2, none⟩ = some (.int .u8 lv) ∧ w'.cell? ⟨bx, 3, none⟩ = some (.slice qa qn qc) ∧ w'.cell? ⟨bx, 4, none⟩ = some (.int .i8 sc) ∧ w'.cell? ⟨bx, 5, none⟩ = some (.string S3) ∧ w'.cell? ⟨bx, 6, none⟩ = some (.int .i16 en) ∧ w'.cell? ⟨g8, i * 7, none⟩ = some (.string S1) ∧ w'.cell? ⟨g8, i * 7 + 1, none⟩ = some (.string S2) ∧ w'.cell? ⟨g8, i * 7 + 2, none⟩ = some (.int .u8 lv) ∧ w'.cell? ⟨g8, i * 7 + 3, none⟩ = some (.slice ra rn rc) ∧ w'.cell? ⟨g8, i * 7 + 4, none⟩ = some (.int .i8 sc) ∧ w'.cell? ⟨g8, i * 7 + 5, none⟩ = some (.string S3) ∧ w'.cell? ⟨g8, i * 7 + 6, none⟩ = some (.int .i16 en)) ∧ Below y1.heap.size y1 w') (by kernel_rfl) (HEK.out _ (below_dr (Below.refl _ _) 1)) (fun hHeld => ?_)
                    first | (refine skipH (i := 0) (dst := some 142) rfl rfl (by kernel_rfl) (by kernel_rfl) (by kernel_rfl) (fun _ _ _ h => h) (by rfl) hHeld ?_) | (refine' takeH (i := 0) (dst := some 142) (v := _) rfl rfl (by kernel_rfl) (by kernel_rfl) (by kernel_rfl) (fun _ _ _ h => h) (by rfl) ?hy hHeld ?_; case hy => (intro w hSw; clear hSw; (first | done | go_simp); try with_reducible rfl)) | fail
                    try simp only [Act.put, List.setIfInBounds_toArray, List.set_cons_zero, List.set_cons_succ]
                    first | (refine skipH (i := 1) (dst := some 143) rfl rfl (by kernel_rfl) (by kernel_rfl) (by kernel_rfl) (fun _ _ _ h => h) (by rfl) hHeld ?_) | (refine' takeH (i := 1) (dst := some 143) (v := _) rfl rfl (by kernel_rfl) (by kernel_rfl) (by kernel_rfl) (fun _ _ _ h => h) (by rfl) ?hy hHeld ?_; case hy => (intro w hSw; clear hSw; (first | done | go_simp); try with_reducible rfl)) | fail
                    try simp only [Act.put, List.setIfInBounds_toArray, List.set_cons_zero, List.set_cons_succ]
                    first | (refine skipH (i := 2) (dst := some 144) rfl rfl (by kernel_rfl) (by kernel_rfl) (by kernel_rfl) (fun _ _ _ h => h) (by rfl) hHeld ?_) | (refine' takeH (i := 2) (dst := some 144) (v := _) rfl rfl (by kernel_rfl) (by kernel_rfl) (by kernel_rfl) (fun _ _ _ h => h) (by rfl) ?hy hHeld ?_; case hy => (intro w hSw; clear hSw; (first | done | go_simp); try with_reducible rfl)) | fail
                    try simp only [Act.put, List.setIfInBounds_toArray, List.set_cons_zero, List.set_cons_succ]
                    first | (refine skipH (i := 3) (dst := some 145) rfl rfl (by kernel_rfl) (by kernel_rfl) (by kernel_rfl) (fun _ _ _ h => h) (by rfl) hHeld ?_) | (refine' takeH (i := 3) (dst := some 145) (v := _) rfl rfl (by kernel_rfl) (by kernel_rfl) (by kernel_rfl) (fun _ _ _ h => h) (by rfl) ?hy hHeld ?_; case hy => (intro w hSw; obtain ⟨⟨_, _, _, _, _, _, _, _, _, _, _, _, _, _⟩, _⟩ := hSw; (first | done | go_simp); try with_reducible rfl)) | fail
                    try simp only [Act.put, List.setIfInBounds_toArray, List.set_cons_zero, List.set_cons_succ]
                    first | (refine skipH (i := 4) (dst := some 146) rfl rfl (by kernel_rfl) (by kernel_rfl) (by kernel_rfl) (fun _ _ _ h => h) (by rfl) hHeld ?_) | (refine' takeH (i := 4) (dst := some 146) (v := _) rfl rfl (by kernel_rfl) (by kernel_rfl) (by kernel_rfl) (fun _ _ _ h => h) (by rfl) ?hy hHeld ?_; case hy => (intro w hSw; clear hSw; (first | done | go_simp); try with_reducible rfl)) | fail
                    try simp only [Act.put, List.setIfInBounds_toArray, List.set_cons_zero, List.set_cons_succ]
                    first | (refine skipH (i := 5) (dst := some 147) rfl rfl (by kernel_rfl) (by kernel_rfl) (by kernel_rfl) (fun _ _ _ h => h) (by rfl) hHeld ?_) | (refine' takeH (i := 5) (dst := some 147) (v := _) rfl rfl (by kernel_rfl) (by kernel_rfl) (by kernel_rfl) (fun _ _ _ h => h) (by rfl) ?hy hHeld ?_; case hy => (intro w hSw; clear hSw; (first | done | go_simp); try with_reducible rfl)) | fail
                    try simp only [Act.put, List.setIfInBounds_toArray, List.set_cons_zero, List.set_cons_succ]
                    first | (refine skipH (i := 6) (dst := some 148) rfl rfl (by kernel_rfl) (by kernel_rfl) (by kernel_rfl) (fun _ _ _ h => h) (by rfl) hHeld ?_) | (refine' takeH (i := 6) (dst := some 148) (v := _) rfl rfl (by kernel_rfl) (by kernel_rfl) (by kernel_rfl) (fun _ _ _ h => h) (by rfl) ?hy hHeld ?_; case hy => (intro w hSw; clear hSw; (first | done | go_simp); try with_reducible rfl)) | fail
                    try simp only [Act.put, List.setIfInBounds_toArray, List.set_cons_zero, List.set_cons_succ]
                    first | (refine skipH (i := 7) (dst := some 149) rfl rfl (by kernel_rfl) (by kernel_rfl) (by kernel_rfl) (fun _ _ _ h => h) (by rfl) hHeld ?_) | (refine' takeH (i := 7) (dst := some 149) (v := _) rfl rfl (by kernel_rfl) (by kernel_rfl) (by kernel_rfl) (fun _ _ _ h => h) (by rfl) ?hy hHeld ?_; case hy => (intro w hSw; obtain ⟨⟨_, _, _, _, _, _, _, _, _, _, _, _, _, _⟩, _⟩ := hSw; (first | done | go_simp); try with_reducible rfl)) | fail
                    try simp only [Act.put, List.setIfInBounds_toArray, List.set_cons_zero, List.set_cons_succ]
                    refine wpAnyH_ready (rs := [8]) (by kernel_rfl) (by simp) ?_
                    refine AllReadyH.cons (i := 8) (o := ⟨some 150, .call _, _, _, _, _⟩) rfl (fun K hK => ?_) AllReadyH.nil
                    go_simp
                    refine (HSM1.out _ hHeld.2).mono ?_
                    rintro e w5' ⟨rfl, b5⟩
                    have hH := HEK.out _ (bt hHeld.2 b5)
                    clear b5
                    refine hK.out _ _ hH (fun _ => ?_)
                    clear hK K hHeld
                    have hHeld := hH
                    clear hH
                    try simp only [Act.put, List.setIfInBounds_toArray, List.set_cons_zero, List.set_cons_succ]
                    first | (refine skipH (i := 9) (dst := some 151) rfl rfl (by kernel_rfl) (by kernel_rfl) (by kernel_rfl) (fun _ _ _ h => h) (by rfl) hHeld ?_) | (refine' takeH (i := 9) (dst := some 151) (v := _) rfl rfl (by kernel_rfl) (by kernel_rfl) (by kernel_rfl) (fun _ _ _ h => h) (by rfl) ?hy hHeld ?_; case hy => (intro w hSw; clear hSw; (first | done | go_simp); try with_reducible rfl)) | fail
                    try simp only [Act.put, List.setIfInBounds_toArray, List.set_cons_zero, List.set_cons_succ]
                    first | (refine skipH (i := 10) (dst := some 152) rfl rfl (by kernel_rfl) (by kernel_rfl) (by kernel_rfl) (fun _ _ _ h => h) (by rfl) hHeld ?_) | (refine' takeH (i := 10) (dst := some 152) (v := _) rfl rfl (by kernel_rfl) (by kernel_rfl) (by kernel_rfl) (fun _ _ _ h => h) (by rfl) ?hy hHeld ?_; case hy => (intro w hSw; clear hSw; (first | done | go_simp); try with_reducible rfl)) | fail
                    try simp only [Act.put, List.setIfInBounds_toArray, List.set_cons_zero, List.set_cons_succ]
                    refine wpAnyH_done (by kernel_rfl) (NoPanic.normal ?_) _
                    have B5 := Lib.hid (bt BY1.out hHeld.2)
                    clear hHeld HEK HSM1
                    go_wp2_with fail
                    go_roundw
                    case rel => exact ⟨i + 1, by omega, by go_num, B5.out⟩
                    case measure => simp [RowKit.intOf]; omega
                  · obtain rfl : i = 22 := by omega
                    have B9' := Lib.hid (bt B9.out BZ.out)
                    have HRF := Lib.hid (Kr.refused_any v1.heap.size D [] [] false wr (RQ.out.below BZ.out))
                    have HR10 := Lib.hid (HR9.out.below BZ.out)
                    have RQ10 := Lib.hid (RQ.out.below BZ.out)
                    clear BZ HR9 RQ B9
                    go_wp2_with fail
                    refine HRF.out.mono ?_
                    rintro e z1 ⟨A1, c1, n1, R1, rfl, hr1', hb⟩
                    obtain rfl : n1 = 0 := hr1'.1
                    have HR11 := Lib.hid (HR10.out.below hb)
                    have HCC := Lib.hid (Kr.cards_any v1.heap.size D [] [] false z1 (RQ10.out.below hb))
                    have B11 := Lib.hid (bt B9'.out hb)
                    clear hr1' hb HRF HR10 RQ10 B9'
                    rw [PD2.out] at HCC
                    go_wp2_with fail
                    refine HCC.out.mono ?_
                    rintro e z2 ⟨A2, c2, n2, R2, rfl, hr2', hb⟩
                    obtain rfl : n2 = 22 := hr2'.1.trans GD.out.len
                    have HS12 := Lib.hid (lawSame_any A2 (some ⟨g8, 0, none⟩) c2 22 c8 22 L L R2 R true z2 (by simp) ⟨by rw [GD.out.len]; omega, fun k => mild_up (GD.out.mild k) (by omega)⟩ ⟨by rw [GD.out.len]; omega, fun k => mild_up (GD.out.mild k) (by omega)⟩ hr2'.rows (HR11.out.below hb))
                    have B12 := Lib.hid (bt B11.out hb)
                    clear hr2' hb HCC HR11 B11
                    go_wp2_with fail
                    refine HS12.out.mono ?_
                    rintro e z3 ⟨rfl, hb⟩
                    have B13 := Lib.hid (bt B12.out hb)
                    clear hb HS12 B12
                    go_wp2_with fail
                    go_ret
                    exact ⟨rfl, B13.out⟩
end Go.Proofs.Ytmlfnihicocilaa.Ko
