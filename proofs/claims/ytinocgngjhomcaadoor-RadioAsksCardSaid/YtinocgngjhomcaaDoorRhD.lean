/- Hops: the document's (P12.2). -/
import Derived.Test.YtinocgngjhomcaaDoorRhB
namespace Go.Proofs.YtinocgngjhomcaaDoor.Rh
open Go.ChangeShapes Go.WideShapes Go.ChangeAt Go.RowKit Own Ro Go.Sort

theorem rowV_snoc (k : Nat) : rowV (List.range k) ++ [.int .i64 (k : Int)] = rowV (List.range (k + 1)) := by
  rw [List.range_succ, ← rowV_app]
  rfl
/-- One more hop. -/
theorem hop_more (x n r i : Nat) (h : 20 * r + i < n) (hi : i < 20) (hn : n ≤ 4096) : rowV (hopN x (20 * r + i)) ++ [.int .i64 ((st x (r + 1)).1.getD i 0 : Nat)] = rowV (hopN x (20 * r + i + 1)) := by
  have h1 := hopN_at x (20 * r + i + 1) (20 * r + i) (by omega) (by omega)
  rw [show (20 * r + i) / 20 = r by omega, show (20 * r + i) % 20 = i by omega] at h1
  rw [← h1]
  have hl := hopN_len x (20 * r + i + 1) (by omega)
  have h2 : hopN x (20 * r + i) = (hopN x (20 * r + i + 1)).take (20 * r + i) := (hopN_take x _ _ (by omega)).symm
  rw [h2]
  generalize hopN x (20 * r + i + 1) = L at hl ⊢
  have h3 : L = L.take (20 * r + i) ++ [L.getD (20 * r + i) 0] := by
    conv => lhs; rw [← List.take_of_length_le (l := L) (i := 20 * r + i + 1) (by omega)]
    rw [List.take_add_one, List.getD_eq_getElem?_getD, List.getElem?_eq_getElem (by omega)]
    rfl
  conv => rhs; rw [h3]
  rw [← rowV_app]
  rfl
theorem refHops_bad (s : Nat) (n : Int) (w : World) (hn : n < 0 ∨ 4096 < n) : Calls Tryd.prog 16 #[.int .u64 s, .int .i64 n] w (fun e w' => e = .returned (.tuple #[.slice none 0 0, .int .i64 1]) ∧ w' = w) := by
  rcases hn with hn | hn
  · go_enter Tryd.func16, Tryd.ntmps16
    go_wp2_with fail
    go_ret2
    exact ⟨rfl, rfl⟩
  · have h1 : ¬ n < 0 := by omega
    go_enter Tryd.func16, Tryd.ntmps16
    go_wp2_with fail
    go_ret2
    exact ⟨rfl, rfl⟩
/-- A row of twenty that was appended. -/
def RowS (b g c : Nat) (l : List Nat) (w : World) : Prop := w.ownsRow b 3 1 (.slice (some ⟨g, 0, none⟩) 20 c) 20 (rowV l)
theorem RowS.lt {b g c : Nat} {l : List Nat} {w : World} (h : RowS b g c l w) : b ≤ g ∧ g < w.heap.size := by
  obtain ⟨g', hg, h1, h2⟩ := own_shapeK h (by omega)
  injection hg with hg
  injection hg with hg
  subst hg
  exact ⟨h1, h2⟩
theorem RowS.below {b g c : Nat} {l : List Nat} {w w' : World} (h : RowS b g c l w) (hb : Below w.heap.size w w') : RowS b g c l w' := own_belowK h hb
theorem RowS.grown {b g c : Nat} {l : List Nat} {w w' : World} (h : RowS b g c l w) {o : Option Nat} (hg : w.grownBy w' o) (hne : o ≠ some g) : RowS b g c l w' :=
  h.kept hg (.inr fun e => hne e.symm)
theorem RowS.at {b g c : Nat} {l : List Nat} {w : World} (h : RowS b g c l w) (hl : l.length = 20) (i : Nat) (hi : i < 20) : w.cell? ⟨g, i, none⟩ = some (.int .i64 (l.getD i 0 : Nat)) := by
  rw [h.cellAt i (by omega), rowV_at l i (by omega)]
theorem RowS.swap {b g c : Nat} {l : List Nat} {w : World} (h : RowS b g c l w) (i j : Nat) : RowS b g c (sw l i j) ((w.setCell ⟨g, i, none⟩ (.int .i64 (l.getD j 0 : Nat))).setCell ⟨g, j, none⟩ (.int .i64 (l.getD i 0 : Nat))) := by
  have h1 := (h.stored i (.int .i64 (l.getD j 0 : Nat))).1
  have h2 := (h1.stored j (.int .i64 (l.getD i 0 : Nat))).1
  rw [rowV_sw] at h2
  exact h2
set_option maxRecDepth 100000 in
set_option maxHeartbeats 16000000 in
theorem refHops_ok (s n : Nat) (hs : s < 18446744073709551616) (hn : n ≤ 4096) (w : World) :
    Calls Tryd.prog 16 #[.int .u64 s, .int .i64 n] w (fun e w' => (∃ A c, e = .returned (.tuple #[.slice A n c, .int .i64 0]) ∧ w'.ownsRow w.heap.size 3 1 (.slice A n c) n (rowV (hopN (seedN s) n))) ∧ Below w.heap.size w w') := by
  have n1 : ¬ (n : Int) < 0 := by omega
  have n2 : ¬ (4096 : Int) < (n : Int) := by omega
  have HX := Lib.hid (seed_lt s hs)
  go_enter Tryd.func16, Tryd.ntmps16
  go_upto_if 21 with fail
  go_cut [6, 21] (fun s6 _ wx => s6 = .int .u64 (seedN s : Nat) ∧ wx = w)
  case first =>
    by_cases h0 : s = 0
    · subst h0
      go_wp2_with fail
      go_meet
      exact ⟨rfl, rfl⟩
    · have h1 : ((s : Int) == 0) = false := by simp; omega
      have HV := Lib.hid (show seedN s = s by unfold seedN; rw [if_neg h0])
      clear h0
      go_wp2_with fail
      go_meet
      exact ⟨by rw [HV.out], rfl⟩
  case rest =>
    obtain ⟨rfl, hw⟩ := hcut
    rw [hw]
    clear hw wc
    obtain ⟨X, hXE⟩ : ∃ X, seedN s = X := ⟨_, rfl⟩
    rw [hXE] at HX ⊢
    have HXE := Lib.hid hXE
    have HNN := Lib.hid hn
    clear hXE hs n1 n2 hn
    go_wp2_with fail
    go_loopw [7, 8] (fun v7 v8 wr => ∃ (k : Nat), k ≤ 20 ∧ v8 = .int .i64 (k : Int) ∧ Below w.heap.size w wr ∧ ∃ A c, v7 = .slice A k c ∧ wr.ownsRow w.heap.size 3 1 (.slice A k c) k (rowV (List.range k))) (fun _ v8 _ => 20 - (RowKit.intOf v8).toNat)
    case atStart => exact ⟨0, by omega, rfl, Below.refl _ _, none, 0, rfl, own_nil _ _ _⟩
    case round =>
      obtain ⟨k, hk, rfl, hb, A, c, rfl, ho⟩ := hrel
      have HB := Lib.hid hb
      have HO := Lib.hid ho
      have hsz : w.heap.size ≤ wr.heap.size := hb.size
      clear hb ho
      by_cases hlt : k < 20
      · have l1 : (0 : Int) ≤ (k : Int) := by omega
        have l2 : (k : Int) < 20 := by omega
        have HSN := Lib.hid (rowV_snoc k)
        go_wp2_with (at_builtin; go_must (refine wpList_append_src rfl (.tmp 26) (.tmp 28) 33 rfl w.heap.size 3 (.int .i64 0) 8 Tryd.underlying33 info_int rfl _ k (rowV (List.range k)) rfl (own_belowK HO.out (grows' wr _)) _ 1 1 [.int .i64 (k : Int)] rfl (src_new _ _ _) (by intro u hu; simp at hu; subst hu; rfl) (by omega) (by omega) (by simp; omega) ?_); intro v1 w3 hown1 hg1)
        rw [HSN.out] at hown1
        obtain ⟨A', c', rfl, _⟩ := own_src hown1
        have HB3 := Lib.hid (below_grown' HB.out hsz HO.out (Nat.le_refl _) hg1)
        go_roundw
        case rel => exact ⟨k + 1, by omega, by go_num, HB3.out, A', c', rfl, hown1⟩
        case measure => simp [RowKit.intOf]; omega
      · obtain rfl : k = 20 := by omega
        obtain ⟨g, rfl, hg1, hg2⟩ := own_shapeK HO.out (by omega)
        have HR := Lib.hid (show RowS w.heap.size g c (st X 0).1 wr from HO.out)
        have hcc : (20 : Int) ≤ (c : Int) := by
          obtain ⟨_, _, hv, _, hle⟩ := own_srcK HO.out
          injection hv with _ _ hc
          omega
        clear HO hlt hk
        go_wp2_with fail
        generalize ((20 : Nat) : Int) = i20
        have HWW := Lib.hid (show Below w.heap.size w wr from HB.out)
        obtain ⟨b0, hb0⟩ : ∃ b0, w.heap.size = b0 := ⟨_, rfl⟩
        obtain ⟨b1, hb1⟩ : ∃ b1, wr.heap.size = b1 := ⟨_, rfl⟩
        rw [hb0] at HR HB hg1 HWW
        rw [hb1] at hg2
        have HG1 := Lib.hid (show g < b1 ∧ b0 ≤ b1 from ⟨hg2, by omega⟩)
        have HB00 := Lib.hid hb0
        generalize wr = W1 at HR HB hb1 hsz HWW ⊢
        have HSZ := Lib.hid (fun V (h : Below b0 W1 V) => show b1 ≤ V.heap.size from by have := h.size; omega)
        go_loopw [6, 9, 10, 11, 12] (fun v6 v9 _ _ _ wr => ∃ (r m : Nat) (A : Option Addr) (ca : Nat), Hid (m = min (20 * r) n) ∧ v6 = .int .u64 ((st X r).2 : Nat) ∧ v9 = .slice A m ca ∧ RowS b0 g c (st X r).1 wr ∧ wr.ownsRow b1 3 1 (.slice A m ca) m (rowV (hopN X m)) ∧ Below b0 W1 wr) (fun _ v9 _ _ _ _ => n - slLen v9)
        case atStart => exact ⟨0, 0, none, 0, Lib.hid (by omega), rfl, rfl, HR.out, by rw [show hopN X 0 = [] from rfl]; exact own_nil _ _ _, Below.refl _ _⟩
        case round =>
          clear HR HB hb0 hb1 hsz
          obtain ⟨r, m, A, ca, HM, rfl, rfl, h7, ho, hb⟩ := hrel
          have H7 := Lib.hid h7
          have HO := Lib.hid ho
          have HB := Lib.hid hb
          clear h7 ho hb
          by_cases hlt : m < n
          · have hlz : (m : Int) < (n : Int) := by omega
            have HL := Lib.hid (show m = 20 * r ∧ r < 205 ∧ m < n from by have := HM.out; have := HNN.out; omega)
            have HG := Lib.hid (st_good X r)
            have HXL := Lib.hid (st_lt X HX.out r)
            have HST := Lib.hid (st_succ X r)
            have HMG := Lib.hid (mixS_good 19 (by omega) _ HG.out)
            have HLA := Lib.hid (fun (h1 : 0 < r) (h2 : r < 205) => show (hopN X (20 * r)).getD (20 * r - 1) 0 = (st X r).1.getD 19 0 from by
              have := hopN_last X (r - 1) (by omega)
              rwa [show r - 1 + 1 = r by omega] at this)
            obtain ⟨M, hM⟩ : ∃ M, mixS 19 (st X r) = M := ⟨_, rfl⟩
            have HMM := Lib.hid (show mixS 19 ((st X r).1, (st X r).2) = M from hM)
            rw [hM] at HMG HST
            clear hM
            generalize (st X r).2 = x at HMM HXL ⊢
            generalize (st X r).1 = l at HMM HG H7 HST HLA
            replace hlt := Lib.hid hlt
            go_upto_block 4 with fail
            go_cut [6, 10, 11] (fun s6 _ _ wx => s6 = .int .u64 (M.2 : Nat) ∧ RowS b0 g c M.1 wx ∧ wx.ownsRow b1 3 1 (.slice A m ca) m (rowV (hopN X m)) ∧ Below b0 W1 wx)
            case first =>
              go_wp2_with fail
              go_loopw [6, 10, 11] (fun v6 v10 _ wr => ∃ (k x' : Nat) (l' : List Nat), k ≤ 19 ∧ x' < 18446744073709551616 ∧ v6 = .int .u64 (x' : Int) ∧ v10 = .int .i64 (k : Int) ∧ Good l' ∧ mixS k (l', x') = M ∧ RowS b0 g c l' wr ∧ wr.ownsRow b1 3 1 (.slice A m ca) m (rowV (hopN X m)) ∧ Below b0 W1 wr) (fun _ v10 _ _ => (RowKit.intOf v10).toNat)
              case atStart => exact ⟨19, x, l, by omega, HXL.out, rfl, rfl, HG.out, HMM.out, H7.out, HO.out, HB.out⟩
              case round =>
                clear H7 HO HB HMM HG HXL HLA HST HMG
                obtain ⟨k, x', l', hk, hx', rfl, rfl, hgd, hmx, h7, ho, hb⟩ := hrel
                have H7 := Lib.hid h7
                have HO := Lib.hid ho
                have HB := Lib.hid hb
                have HM2 := Lib.hid hmx
                have HG := Lib.hid hgd
                clear h7 ho hb hmx hgd
                by_cases hk0 : 1 ≤ k
                · have k1 : (1 : Int) ≤ (k : Int) := by omega
                  obtain ⟨P, B, lA, lB, e1, e2, e3⟩ := next_ex x' hx'
                  have HN := Lib.hid (xorNextN_lt x' hx')
                  have HM' := Lib.hid (show mixS (k - 1) (sw l' k (xorNextN x' % (k + 1)), xorNextN x') = M from by
                    have := HM2.out
                    rw [show k = k - 1 + 1 by omega, mixS_succ] at this
                    rwa [show k - 1 + 1 = k by omega, show k - 1 + 2 = k + 1 by omega] at this)
                  clear HM2
                  generalize xorNextN x' = N at e3 HN HM'
                  obtain ⟨i, hi⟩ : ∃ i, N % (k + 1) = i := ⟨_, rfl⟩
                  have hi1 : i < 20 := by have := Nat.mod_lt N (show 0 < k + 1 by omega); omega
                  have e4 : Int.tmod (N : Int) ((k : Int) + 1) = (i : Int) := by
                    rw [Int.tmod_eq_emod_of_nonneg (by omega), show (k : Int) + 1 = ((k + 1 : Nat) : Int) by simp, ← Int.natCast_emod, hi]
                  have e5 : (N : Int) % ((k : Int) + 1) = (i : Int) := by
                    rw [show (k : Int) + 1 = ((k + 1 : Nat) : Int) by simp, ← Int.natCast_emod, hi]
                  rw [hi] at HM'
                  have hll := HG.out.len
                  have k2 : k < 20 := by omega
                  have ci := H7.out.at hll i hi1
                  have ck := H7.out.at hll k k2
                  have fi := H7.out.frozenAt i
                  have fk := H7.out.frozenAt k
                  have ci2 := (H7.out.stored k (.int .i64 (l'.getD i 0 : Nat))).1.cellAt i (by omega)
                  have fi2 := (H7.out.stored k (.int .i64 (l'.getD i 0 : Nat))).1.frozenAt i
                  obtain ⟨u, hu⟩ : ∃ u, ((rowV l').set k (.int .i64 (l'.getD i 0 : Nat)))[i]? = some u := ⟨_, List.getElem?_eq_getElem (by rw [List.length_set, rowV_len]; omega)⟩
                  rw [hu] at ci2
                  have hne : (Value.slice A m ca).ownBlock ≠ some g := own_ge HO.out HG1.out.1
                  have S2 := Lib.hid (H7.out.swap k i)
                  have S4 := Lib.hid (own_keptNe (own_keptNe HO.out (set_grown wr ⟨g, k, none⟩ (.int .i64 (l'.getD i 0 : Nat))) hne) (set_grown _ ⟨g, i, none⟩ (.int .i64 (l'.getD k 0 : Nat))) hne)
                  have SB := Lib.hid ((HB.out.setCell (p := ⟨g, k, none⟩) hg1 (.int .i64 (l'.getD i 0 : Nat))).setCell (p := ⟨g, i, none⟩) hg1 (.int .i64 (l'.getD k 0 : Nat)))
                  have SG := Lib.hid (HG.out.sw k2 hi1)
                  clear hi hu hll H7 HO HB HG hne
                  generalize l'.getD i 0 = vi at *
                  generalize l'.getD k 0 = vk at *
                  have b1' : (0 : Int) ≤ (i : Int) := by omega
                  have b2' : (i : Int) < 20 := by omega
                  have b3' : (0 : Int) ≤ (k : Int) := by omega
                  have b4' : (k : Int) < 20 := by omega
                  have HAR := Lib.hid (And.intro hk0 hk)
                  go_upto_region 20 with fail
                  go_big_region
                  clear ci ck fi fk ci2 fi2 e1 e2 e3 e4 e5
                  have T2 := Lib.hid (S2.out.below (bdr (Below.refl _ _)))
                  have T4 := Lib.hid (own_belowK S4.out (bdr (Below.refl _ _)))
                  have TB := Lib.hid (bdr SB.out)
                  clear S2 S4 SB
                  generalize ((wr.setCell ⟨g, k, none⟩ (.int .i64 (vi : Int))).setCell ⟨g, i, none⟩ (.int .i64 (vk : Int))).drew = w3 at T2 T4 TB ⊢
                  go_wp2_with fail
                  go_roundw
                  case rel => exact ⟨k - 1, N, _, by omega, HN.out, by go_num, by go_num, SG.out, HM'.out, T2.out, T4.out, TB.out⟩
                  case measure => simp [RowKit.intOf]; have := HAR.out; omega
                · obtain rfl : k = 0 := by omega
                  have hML : mixS 0 (l', x') = M := HM2.out
                  rw [show mixS 0 (l', x') = (l', x') from rfl] at hML
                  subst hML
                  clear HM2
                  go_wp2_with fail
                  go_meet
                  exact ⟨rfl, H7.out, HO.out, HB.out⟩
            case rest =>
            obtain ⟨rfl, h7, ho, hb⟩ := hcut
            clear H7 HO HB HMM HG HXL
            have S7 := Lib.hid h7
            have SO := Lib.hid ho
            have SB := Lib.hid hb
            clear h7 ho hb
            go_upto_region 21 with fail
            by_cases hr : r = 0
            · have HE := Lib.hid (show st X (r + 1) = (M.1, M.2) from by rw [HST.out, hr]; rfl)
              have hm0 : ¬ (0 : Int) < (m : Int) := by have := HL.out.1; omega
              have hmN : decide (0 < m) = false := decide_eq_false (by omega)
              have hmZ : decide ((m : Int) > 0) = false := decide_eq_false hm0
              have hmZ2 : decide ((0 : Int) < (m : Int)) = false := decide_eq_false hm0
              clear hr HST
              go_wp2_with fail
              go_quiet (fail)
              have R7 := Lib.hid (S7.out.below (below_dr (Below.refl _ _) nq))
              have RO := Lib.hid (own_belowK SO.out (below_dr (Below.refl _ _) nq))
              have RB := Lib.hid (below_dr SB.out nq)
              clear S7 SO SB hm0 hmN hmZ hmZ2
              generalize wc.drewN nq = w4 at R7 RO RB ⊢
              have HLL := Lib.hid HMG.out.len
              clear HMG
              have HEQ := Lib.hid (show (st X (r + 1)).1 = M.1 ∧ (st X (r + 1)).2 = M.2 from by rw [HE.out]; exact ⟨rfl, rfl⟩)
              clear HE
              generalize M.1 = lr at R7 HLL HEQ
              go_wp2_with fail
              go_loopw [9, 12] (fun v9 v12 wr => ∃ (i m' : Nat) (A' : Option Addr) (c' : Nat), Hid (m' = m + i ∧ i ≤ 20 ∧ m' ≤ n) ∧ v12 = .int .i64 (i : Int) ∧ v9 = .slice A' m' c' ∧ RowS b0 g c lr wr ∧ wr.ownsRow b1 3 1 (.slice A' m' c') m' (rowV (hopN X m')) ∧ Below b0 W1 wr) (fun _ v12 _ => 20 - (RowKit.intOf v12).toNat)
              case atStart => exact ⟨0, m, _, _, Lib.hid ⟨rfl, by omega, by have := HM.out; omega⟩, rfl, rfl, R7.out, RO.out, RB.out⟩
              case round =>
                clear R7 RO RB
                obtain ⟨i, m', A', c', HI, rfl, rfl, h7, ho, hb⟩ := hrel
                have Q7 := Lib.hid h7
                have QO := Lib.hid ho
                have QB := Lib.hid hb
                clear h7 ho hb
                by_cases hi : i < 20
                · have i1 : (0 : Int) ≤ (i : Int) := by omega
                  have i2 : (i : Int) < 20 := by omega
                  have i3 : decide ((i : Int) < 20) = true := decide_eq_true i2
                  by_cases hmn : m' < n
                  · have j1 : (m' : Int) < (n : Int) := by omega
                    have j3 : decide ((m' : Int) < (n : Int)) = true := decide_eq_true j1
                    have ci := Q7.out.at HLL.out i hi
                    have HHM := Lib.hid (show rowV (hopN X m') ++ [.int .i64 (lr.getD i 0 : Nat)] = rowV (hopN X (m' + 1)) from by
                      have e1 : m' = 20 * r + i := by have := HI.out; have := HL.out; omega
                      rw [e1, ← HEQ.out.1]
                      exact hop_more X n r i (by omega) hi HNN.out)
                    generalize lr.getD i 0 = vi at ci HHM
                    have hsz : b1 ≤ wr.heap.size := by have := HSZ.out wr QB.out; exact this
                    have HAR := Lib.hid (And.intro hi hmn)
                    have hbo : m' ≤ 4096 := by have := HNN.out; omega
                    clear hi hmn
                    go_wp2_with (at_builtin; go_must (refine wpList_append_src rfl (.tmp 105) (.tmp 110) 33 rfl b1 3 (.int .i64 0) 8 Tryd.underlying33 info_int rfl _ m' (rowV (hopN X m')) rfl (own_belowK QO.out (grows' wr _)) _ 1 1 [.int .i64 (vi : Int)] rfl (src_new _ _ _) (by intro u hu; simp at hu; subst hu; rfl) (by omega) (by omega) (by simp; omega) ?_); intro v1 w3 hown1 hg1)
                    rw [HHM.out] at hown1
                    have T7 := Lib.hid ((Q7.out.below (grows' wr _)).grown hg1 (own_ge QO.out (by have := HG1.out; omega)))
                    have TB := Lib.hid (below_grown' QB.out (by have := HG1.out; omega) QO.out (by have := HG1.out; omega) hg1)
                    obtain ⟨A2, c2, rfl, _⟩ := own_src hown1
                    have TO := Lib.hid hown1
                    clear hown1 hg1 Q7 QO QB
                    go_roundw
                    case rel => exact ⟨i + 1, m' + 1, A2, c2, Lib.hid (by have := HI.out; have := HAR.out; omega), by go_num, by first | rfl | go_num, T7.out, TO.out, TB.out⟩
                    case measure => simp [RowKit.intOf]; have := HAR.out; omega
                  · have j1 : ¬ (m' : Int) < (n : Int) := by omega
                    have j3 : decide ((m' : Int) < (n : Int)) = false := decide_eq_false j1
                    have HAR := Lib.hid (And.intro hi hmn)
                    clear hi hmn
                    go_wp2_with fail
                    go_roundw
                    case rel => exact ⟨r + 1, m', A', c', Lib.hid (by have := HI.out; have := HAR.out; have := HL.out; omega), by rw [HEQ.out.2], rfl, by rw [HEQ.out.1]; exact Q7.out, QO.out, QB.out⟩
                    case measure => simp [slLen]; have := HAR.out; have := HM.out; omega
                · have i2 : ¬ (i : Int) < 20 := by omega
                  have i3 : decide ((i : Int) < 20) = false := decide_eq_false i2
                  have HAR := Lib.hid hi
                  clear hi
                  go_wp2_with fail
                  go_roundw
                  case rel => exact ⟨r + 1, m', A', c', Lib.hid (by have := HI.out; have := HAR.out; have := HL.out; have := HM.out; omega), by rw [HEQ.out.2], rfl, by rw [HEQ.out.1]; exact Q7.out, QO.out, QB.out⟩
                  case measure => simp [slLen]; have := HI.out; have := HAR.out; have := HM.out; omega
            · have HRR := Lib.hid (show 0 < r from by omega)
              obtain ⟨mp, hmp⟩ : ∃ mp : Nat, mp + 1 = m := ⟨m - 1, by have := HL.out.1; have := HRR.out; omega⟩
              obtain ⟨gh2, rfl, hh1, hh2⟩ := own_shapeK SO.out (by omega)
              have HDR := Lib.hid (show decide (0 < r) = true from decide_eq_true HRR.out)
              have ch := SO.out.cellAt mp (by omega)
              have c0 := S7.out.at HMG.out.len 0 (by omega)
              have HLS := Lib.hid (show (hopN X m).getD mp 0 = l.getD 19 0 from by rw [show mp = 20 * r - 1 by have := HL.out; omega, HL.out.1]; exact HLA.out HRR.out HL.out.2.1)
              rw [rowV_at _ mp (by rw [hopN_len X m (by have := HNN.out; have := HL.out; omega)]; omega), HLS.out] at ch
              have hm0 : (0 : Int) < (m : Int) := by omega
              have hmN : decide (0 < m) = true := decide_eq_true (by omega)
              have hmZ : decide ((m : Int) > 0) = true := decide_eq_true hm0
              have hmZ2 : decide ((0 : Int) < (m : Int)) = true := decide_eq_true hm0
              have hwm : IntKind.i64.wrap ((m : Int) - 1) = (mp : Int) := by have := HNN.out; have := HL.out; rw [IntWalk.i64_in _ (by omega)]; omega
              have mp0 : (0 : Int) ≤ (mp : Int) := by omega
              have mp1 : (mp : Int) < (m : Int) := by omega
              have HMP := Lib.hid hmp
              clear hmp hr hh1 hh2 HLS
              have HFX := Lib.hid (show ∀ b : Nat, l.getD 19 0 = b → st X (r + 1) = (fix true b M.1, M.2) from fun b hb => by rw [HST.out, HDR.out, hb])
              have hge : (Value.slice (some ⟨gh2, 0, none⟩) m ca).ownBlock ≠ some g := own_ge SO.out HG1.out.1
              replace hge := Lib.hid hge
              obtain ⟨a, haa⟩ : ∃ a, M.1.getD 0 0 = a := ⟨_, rfl⟩
              rw [haa] at c0
              have HAA := Lib.hid haa
              clear haa
              generalize l.getD 19 0 = b at ch HFX
              by_cases hab : a = b
              · have hq1 : ((a : Int) == (b : Int)) = true := by rw [hab]; simp
                have HE := Lib.hid (show st X (r + 1) = (sw M.1 0 1, M.2) from by
                  rw [HFX.out b rfl]
                  unfold fix
                  rw [if_pos ⟨rfl, HAA.out.trans hab⟩])
                clear hab HST HFX HDR
                go_wp2_with fail
                go_quiet (fail)
                have Q7 := Lib.hid (S7.out.below (below_dr (Below.refl _ _) nq))
                have QO := Lib.hid (own_belowK SO.out (below_dr (Below.refl _ _) nq))
                have QB := Lib.hid (below_dr SB.out nq)
                clear S7 SO SB c0 ch hm0 hmN hmZ hmZ2 hwm mp0 mp1 hq1
                generalize wc.drewN nq = w9 at Q7 QO QB ⊢
                have c0 := Q7.out.at HMG.out.len 0 (by omega)
                have c1 := Q7.out.at HMG.out.len 1 (by omega)
                have f0 := Q7.out.frozenAt 0
                have f1 := Q7.out.frozenAt 1
                have R7 := Lib.hid (Q7.out.swap 0 1)
                have RB := Lib.hid ((QB.out.setCell (p := ⟨g, 0, none⟩) hg1 (.int .i64 (M.1.getD 1 0 : Nat))).setCell (p := ⟨g, 1, none⟩) hg1 (.int .i64 (M.1.getD 0 0 : Nat)))
                have RO := Lib.hid (own_keptNe (own_keptNe QO.out (set_grown w9 ⟨g, 0, none⟩ (.int .i64 (M.1.getD 1 0 : Nat))) hge.out) (set_grown _ ⟨g, 1, none⟩ (.int .i64 (M.1.getD 0 0 : Nat))) hge.out)
                have LG9 := Lib.hid (HMG.out.sw (show 0 < 20 by omega) (show 1 < 20 by omega))
                have c12 : (w9.setCell ⟨g, 0, none⟩ (.int .i64 (M.1.getD 1 0 : Nat))).cell? ⟨g, 1, none⟩ = some (.int .i64 (M.1.getD 1 0 : Nat)) := by
                  rw [(Q7.out.stored 0 (.int .i64 (M.1.getD 1 0 : Nat))).1.cellAt 1 (by omega), List.getElem?_set_ne (by omega), rowV_at _ 1 (by rw [HMG.out.len]; omega)]
                have f12 := (Q7.out.stored 0 (.int .i64 (M.1.getD 1 0 : Nat))).1.frozenAt 1
                clear Q7 QO QB
                replace HAA := Lib.hid HAA
                generalize M.1.getD 0 0 = e0 at c0 RB RO R7
                generalize M.1.getD 1 0 = e1 at c1 RB RO R7 c12 f12
                go_wp2_with fail
                go_big_region
                have P7 := Lib.hid (R7.out.below (bdr (Below.refl _ _)))
                have PO := Lib.hid (own_belowK RO.out (bdr (Below.refl _ _)))
                have PB := Lib.hid (bdr RB.out)
                clear R7 RO RB c0 c1 f0 f1 c12 f12
                have R7 := P7
                have RO := PO
                have RB := PB
                clear P7 PO PB
                generalize ((w9.setCell ⟨g, 0, none⟩ (.int .i64 (e1 : Int))).setCell ⟨g, 1, none⟩ (.int .i64 (e0 : Int))).drew = w4 at R7 RO RB ⊢
                have HLL := Lib.hid LG9.out.len
                clear HMG
                have HEQ := Lib.hid (show (st X (r + 1)).1 = sw M.1 0 1 ∧ (st X (r + 1)).2 = M.2 from by rw [HE.out]; exact ⟨rfl, rfl⟩)
                clear HE
                generalize sw M.1 0 1 = lr at R7 HLL HEQ
                go_wp2_with fail
                go_loopw [9, 12] (fun v9 v12 wr => ∃ (i m' : Nat) (A' : Option Addr) (c' : Nat), Hid (m' = m + i ∧ i ≤ 20 ∧ m' ≤ n) ∧ v12 = .int .i64 (i : Int) ∧ v9 = .slice A' m' c' ∧ RowS b0 g c lr wr ∧ wr.ownsRow b1 3 1 (.slice A' m' c') m' (rowV (hopN X m')) ∧ Below b0 W1 wr) (fun _ v12 _ => 20 - (RowKit.intOf v12).toNat)
                case atStart => exact ⟨0, m, _, _, Lib.hid ⟨rfl, by omega, by have := HM.out; omega⟩, rfl, rfl, R7.out, RO.out, RB.out⟩
                case round =>
                  clear R7 RO RB
                  obtain ⟨i, m', A', c', HI, rfl, rfl, h7, ho, hb⟩ := hrel
                  have Q7 := Lib.hid h7
                  have QO := Lib.hid ho
                  have QB := Lib.hid hb
                  clear h7 ho hb
                  by_cases hi : i < 20
                  · have i1 : (0 : Int) ≤ (i : Int) := by omega
                    have i2 : (i : Int) < 20 := by omega
                    have i3 : decide ((i : Int) < 20) = true := decide_eq_true i2
                    by_cases hmn : m' < n
                    · have j1 : (m' : Int) < (n : Int) := by omega
                      have j3 : decide ((m' : Int) < (n : Int)) = true := decide_eq_true j1
                      have ci := Q7.out.at HLL.out i hi
                      have HHM := Lib.hid (show rowV (hopN X m') ++ [.int .i64 (lr.getD i 0 : Nat)] = rowV (hopN X (m' + 1)) from by
                        have e1 : m' = 20 * r + i := by have := HI.out; have := HL.out; omega
                        rw [e1, ← HEQ.out.1]
                        exact hop_more X n r i (by omega) hi HNN.out)
                      generalize lr.getD i 0 = vi at ci HHM
                      have hsz : b1 ≤ wr.heap.size := by have := HSZ.out wr QB.out; exact this
                      have HAR := Lib.hid (And.intro hi hmn)
                      have hbo : m' ≤ 4096 := by have := HNN.out; omega
                      clear hi hmn
                      go_wp2_with (at_builtin; go_must (refine wpList_append_src rfl (.tmp 105) (.tmp 110) 33 rfl b1 3 (.int .i64 0) 8 Tryd.underlying33 info_int rfl _ m' (rowV (hopN X m')) rfl (own_belowK QO.out (grows' wr _)) _ 1 1 [.int .i64 (vi : Int)] rfl (src_new _ _ _) (by intro u hu; simp at hu; subst hu; rfl) (by omega) (by omega) (by simp; omega) ?_); intro v1 w3 hown1 hg1)
                      rw [HHM.out] at hown1
                      have T7 := Lib.hid ((Q7.out.below (grows' wr _)).grown hg1 (own_ge QO.out (by have := HG1.out; omega)))
                      have TB := Lib.hid (below_grown' QB.out (by have := HG1.out; omega) QO.out (by have := HG1.out; omega) hg1)
                      obtain ⟨A2, c2, rfl, _⟩ := own_src hown1
                      have TO := Lib.hid hown1
                      clear hown1 hg1 Q7 QO QB
                      go_roundw
                      case rel => exact ⟨i + 1, m' + 1, A2, c2, Lib.hid (by have := HI.out; have := HAR.out; omega), by go_num, by first | rfl | go_num, T7.out, TO.out, TB.out⟩
                      case measure => simp [RowKit.intOf]; have := HAR.out; omega
                    · have j1 : ¬ (m' : Int) < (n : Int) := by omega
                      have j3 : decide ((m' : Int) < (n : Int)) = false := decide_eq_false j1
                      have HAR := Lib.hid (And.intro hi hmn)
                      clear hi hmn
                      go_wp2_with fail
                      go_roundw
                      case rel => exact ⟨r + 1, m', A', c', Lib.hid (by have := HI.out; have := HAR.out; have := HL.out; omega), by rw [HEQ.out.2], rfl, by rw [HEQ.out.1]; exact Q7.out, QO.out, QB.out⟩
                      case measure => simp [slLen]; have := HAR.out; have := HM.out; omega
                  · have i2 : ¬ (i : Int) < 20 := by omega
                    have i3 : decide ((i : Int) < 20) = false := decide_eq_false i2
                    have HAR := Lib.hid hi
                    clear hi
                    go_wp2_with fail
                    go_roundw
                    case rel => exact ⟨r + 1, m', A', c', Lib.hid (by have := HI.out; have := HAR.out; have := HL.out; have := HM.out; omega), by rw [HEQ.out.2], rfl, by rw [HEQ.out.1]; exact Q7.out, QO.out, QB.out⟩
                    case measure => simp [slLen]; have := HI.out; have := HAR.out; have := HM.out; omega
              · have hq1 : ((a : Int) == (b : Int)) = false := by simp; omega
                have HE := Lib.hid (show st X (r + 1) = (M.1, M.2) from by
                  rw [HFX.out b rfl]
                  unfold fix
                  rw [if_neg (fun h => hab (HAA.out.symm.trans h.2))])
                clear hab HST HFX HDR
                go_wp2_with fail
                go_quiet (fail)
                have R7 := Lib.hid (S7.out.below (below_dr (Below.refl _ _) nq))
                have RO := Lib.hid (own_belowK SO.out (below_dr (Below.refl _ _) nq))
                have RB := Lib.hid (below_dr SB.out nq)
                clear S7 SO SB c0 ch hm0 hmN hmZ hmZ2 hwm mp0 mp1 hq1
                generalize wc.drewN nq = w4 at R7 RO RB ⊢
                have HLL := Lib.hid HMG.out.len
                clear HMG
                have HEQ := Lib.hid (show (st X (r + 1)).1 = M.1 ∧ (st X (r + 1)).2 = M.2 from by rw [HE.out]; exact ⟨rfl, rfl⟩)
                clear HE
                generalize M.1 = lr at R7 HLL HEQ
                go_wp2_with fail
                go_loopw [9, 12] (fun v9 v12 wr => ∃ (i m' : Nat) (A' : Option Addr) (c' : Nat), Hid (m' = m + i ∧ i ≤ 20 ∧ m' ≤ n) ∧ v12 = .int .i64 (i : Int) ∧ v9 = .slice A' m' c' ∧ RowS b0 g c lr wr ∧ wr.ownsRow b1 3 1 (.slice A' m' c') m' (rowV (hopN X m')) ∧ Below b0 W1 wr) (fun _ v12 _ => 20 - (RowKit.intOf v12).toNat)
                case atStart => exact ⟨0, m, _, _, Lib.hid ⟨rfl, by omega, by have := HM.out; omega⟩, rfl, rfl, R7.out, RO.out, RB.out⟩
                case round =>
                  clear R7 RO RB
                  obtain ⟨i, m', A', c', HI, rfl, rfl, h7, ho, hb⟩ := hrel
                  have Q7 := Lib.hid h7
                  have QO := Lib.hid ho
                  have QB := Lib.hid hb
                  clear h7 ho hb
                  by_cases hi : i < 20
                  · have i1 : (0 : Int) ≤ (i : Int) := by omega
                    have i2 : (i : Int) < 20 := by omega
                    have i3 : decide ((i : Int) < 20) = true := decide_eq_true i2
                    by_cases hmn : m' < n
                    · have j1 : (m' : Int) < (n : Int) := by omega
                      have j3 : decide ((m' : Int) < (n : Int)) = true := decide_eq_true j1
                      have ci := Q7.out.at HLL.out i hi
                      have HHM := Lib.hid (show rowV (hopN X m') ++ [.int .i64 (lr.getD i 0 : Nat)] = rowV (hopN X (m' + 1)) from by
                        have e1 : m' = 20 * r + i := by have := HI.out; have := HL.out; omega
                        rw [e1, ← HEQ.out.1]
                        exact hop_more X n r i (by omega) hi HNN.out)
                      generalize lr.getD i 0 = vi at ci HHM
                      have hsz : b1 ≤ wr.heap.size := by have := HSZ.out wr QB.out; exact this
                      have HAR := Lib.hid (And.intro hi hmn)
                      have hbo : m' ≤ 4096 := by have := HNN.out; omega
                      clear hi hmn
                      go_wp2_with (at_builtin; go_must (refine wpList_append_src rfl (.tmp 105) (.tmp 110) 33 rfl b1 3 (.int .i64 0) 8 Tryd.underlying33 info_int rfl _ m' (rowV (hopN X m')) rfl (own_belowK QO.out (grows' wr _)) _ 1 1 [.int .i64 (vi : Int)] rfl (src_new _ _ _) (by intro u hu; simp at hu; subst hu; rfl) (by omega) (by omega) (by simp; omega) ?_); intro v1 w3 hown1 hg1)
                      rw [HHM.out] at hown1
                      have T7 := Lib.hid ((Q7.out.below (grows' wr _)).grown hg1 (own_ge QO.out (by have := HG1.out; omega)))
                      have TB := Lib.hid (below_grown' QB.out (by have := HG1.out; omega) QO.out (by have := HG1.out; omega) hg1)
                      obtain ⟨A2, c2, rfl, _⟩ := own_src hown1
                      have TO := Lib.hid hown1
                      clear hown1 hg1 Q7 QO QB
                      go_roundw
                      case rel => exact ⟨i + 1, m' + 1, A2, c2, Lib.hid (by have := HI.out; have := HAR.out; omega), by go_num, by first | rfl | go_num, T7.out, TO.out, TB.out⟩
                      case measure => simp [RowKit.intOf]; have := HAR.out; omega
                    · have j1 : ¬ (m' : Int) < (n : Int) := by omega
                      have j3 : decide ((m' : Int) < (n : Int)) = false := decide_eq_false j1
                      have HAR := Lib.hid (And.intro hi hmn)
                      clear hi hmn
                      go_wp2_with fail
                      go_roundw
                      case rel => exact ⟨r + 1, m', A', c', Lib.hid (by have := HI.out; have := HAR.out; have := HL.out; omega), by rw [HEQ.out.2], rfl, by rw [HEQ.out.1]; exact Q7.out, QO.out, QB.out⟩
                      case measure => simp [slLen]; have := HAR.out; have := HM.out; omega
                  · have i2 : ¬ (i : Int) < 20 := by omega
                    have i3 : decide ((i : Int) < 20) = false := decide_eq_false i2
                    have HAR := Lib.hid hi
                    clear hi
                    go_wp2_with fail
                    go_roundw
                    case rel => exact ⟨r + 1, m', A', c', Lib.hid (by have := HI.out; have := HAR.out; have := HL.out; have := HM.out; omega), by rw [HEQ.out.2], rfl, by rw [HEQ.out.1]; exact Q7.out, QO.out, QB.out⟩
                    case measure => simp [slLen]; have := HI.out; have := HAR.out; have := HM.out; omega
          · have HMN := Lib.hid (show m = n from by have := HM.out; omega)
            have hge : decide ((m : Int) < (n : Int)) = false := decide_eq_false (by omega)
            have hge2 : ¬ (m : Int) < (n : Int) := by omega
            clear HM hlt
            go_wp2_with fail
            go_ret2
            have hmn := HMN.out
            subst hmn
            exact ⟨⟨A, ca, rfl, by rw [HB00.out, HXE.out]; exact own_monoK HO.out HG1.out.2⟩, by rw [HB00.out]; exact HWW.out.trans HB.out⟩
end Go.Proofs.YtinocgngjhomcaaDoor.Rh
