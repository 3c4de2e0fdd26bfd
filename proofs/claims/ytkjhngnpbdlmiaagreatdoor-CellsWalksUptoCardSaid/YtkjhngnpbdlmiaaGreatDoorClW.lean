/- The walk of the law on readers that tell a value's cells, pairs and texts. -/
import Derived.Test.YtkjhngnpbdlmiaaGreatDoorClU
import Derived.Test.YtkjhngnpbdlmiaaGreatDoorClK
namespace Go.Proofs.YtkjhngnpbdlmiaaGreatDoor.Cl
open Go.ChangeShapes Go.WideShapes Go.ChangeAt Go.RowKit Own Bld Nums

theorem ne_some {a b : Nat} (h : a ≠ b) : some a ≠ some b := fun e => h (by injection e)
/-- Three readers, and what is kept. -/
def Ws (S : Nat → Prop) (W : World) (rp gp rq gq rr gr : Nat) (lp lq lr : List UInt8) (wr : World) : Prop :=
  Keeps S W wr ∧ Rd wr rp gp lp ∧ Rd wr rq gq lq ∧ Rd wr rr gr lr
def Sixth (S : Nat → Prop) (rp gp rq gq rr gr : Nat) : Prop :=
  ¬ S rp ∧ ¬ S rq ∧ ¬ S rr ∧ rp ≠ rq ∧ rp ≠ gq ∧ rp ≠ rr ∧ rp ≠ gr ∧ rq ≠ rr ∧ rq ≠ gr ∧ rq ≠ gp ∧ rr ≠ gp ∧ rr ≠ gq
section
variable {S : Nat → Prop} {W wr w' : World} {rp gp rq gq rr gr : Nat} {lp lq lr l' : List UInt8}
theorem Ws.p (h : Ws S W rp gp rq gq rr gr lp lq lr wr) (h6 : Sixth S rp gp rq gq rr gr) (hS : ∀ g, S g → g < W.heap.size) (hr : Rd w' rp gp l') (hg : wr.grownBy w' (some rp)) : Ws S W rp gp rq gq rr gr l' lq lr w' := by
  obtain ⟨a, b, c, d⟩ := h
  obtain ⟨s1, s2, s3, n1, n2, n3, n4, n5, n6, n7, n8, n9⟩ := h6
  exact ⟨a.grown hS hg (fun g e => by injection e with e; rw [← e]; exact s1), hr, c.kept hg (ne_some (Ne.symm n1)) (ne_some (Ne.symm n2)), d.kept hg (ne_some (Ne.symm n3)) (ne_some (Ne.symm n4))⟩
theorem Ws.q (h : Ws S W rp gp rq gq rr gr lp lq lr wr) (h6 : Sixth S rp gp rq gq rr gr) (hS : ∀ g, S g → g < W.heap.size) (hr : Rd w' rq gq l') (hg : wr.grownBy w' (some rq)) : Ws S W rp gp rq gq rr gr lp l' lr w' := by
  obtain ⟨a, b, c, d⟩ := h
  obtain ⟨s1, s2, s3, n1, n2, n3, n4, n5, n6, n7, n8, n9⟩ := h6
  exact ⟨a.grown hS hg (fun g e => by injection e with e; rw [← e]; exact s2), b.kept hg (ne_some n1) (ne_some (Ne.symm n7)), hr, d.kept hg (ne_some (Ne.symm n5)) (ne_some (Ne.symm n6))⟩
theorem Ws.r (h : Ws S W rp gp rq gq rr gr lp lq lr wr) (h6 : Sixth S rp gp rq gq rr gr) (hS : ∀ g, S g → g < W.heap.size) (hr : Rd w' rr gr l') (hg : wr.grownBy w' (some rr)) : Ws S W rp gp rq gq rr gr lp lq l' w' := by
  obtain ⟨a, b, c, d⟩ := h
  obtain ⟨s1, s2, s3, n1, n2, n3, n4, n5, n6, n7, n8, n9⟩ := h6
  exact ⟨a.grown hS hg (fun g e => by injection e with e; rw [← e]; exact s3), b.kept hg (ne_some n3) (ne_some (Ne.symm n8)), c.kept hg (ne_some n5) (ne_some (Ne.symm n9)), hr⟩
end
theorem split_rest (l : List UInt8) (T : List (List UInt8)) (p i : Nat) (h : split [] l = (T, [])) (hp : split [] (l.take p) = (T.take i, [])) (hi : i < T.length) :
    zat (l.drop p) < (l.drop p).length ∧ T[i] = (l.drop p).take (zat (l.drop p)) ∧ split [] (l.take (p + (zat (l.drop p) + 1))) = (T.take (i + 1), []) := by
  have h1 := split_append (l.take p) (l.drop p) []
  rw [List.take_append_drop, h, hp] at h1
  simp only [Prod.mk.injEq] at h1
  obtain ⟨h2, h3⟩ := h1
  have h4 : (split [] (l.drop p)).1 = T.drop i := by
    have : T.take i ++ T.drop i = T.take i ++ (split [] (l.drop p)).1 := by rw [List.take_append_drop]; exact h2
    exact (List.append_cancel_left this).symm
  have hz : zat (l.drop p) < (l.drop p).length := by
    apply Nat.lt_of_not_le
    intro hc
    have := split_end [] (l.drop p) [] rfl hc
    simp only [List.nil_append] at this
    rw [this] at h4
    have : (T.drop i).length = 0 := by rw [← h4]; rfl
    rw [List.length_drop] at this
    omega
  have h5 := split_cons' (l.drop p) hz
  rw [h5, List.drop_eq_getElem_cons hi] at h4
  simp only [List.cons.injEq] at h4
  refine ⟨hz, h4.1.symm, ?_⟩
  rw [List.take_add]
  have := split_next (l.take p) (l.drop p) (T.take i) hp hz
  rw [this, List.take_succ_eq_append_getElem hi, h4.1]
theorem split_done (l : List UInt8) (T : List (List UInt8)) (p : Nat) (h : split [] l = (T, [])) (hp : split [] (l.take p) = (T, [])) : l.drop p = [] := by
  have h1 := split_append (l.take p) (l.drop p) []
  rw [List.take_append_drop, h, hp] at h1
  simp only [Prod.mk.injEq] at h1
  obtain ⟨h2, h3⟩ := h1
  have h4 : (split [] (l.drop p)).1 = [] := by
    have : T ++ [] = T ++ (split [] (l.drop p)).1 := by rw [List.append_nil]; exact h2
    exact (List.append_cancel_left this).symm
  by_cases hz : zat (l.drop p) < (l.drop p).length
  · rw [split_cons' _ hz] at h4
    simp at h4
  · have := split_end [] (l.drop p) [] rfl (by omega)
    simp only [List.nil_append] at this
    rw [this] at h3
    exact h3.symm

set_option maxRecDepth 100000 in
set_option maxHeartbeats 8000000 in
theorem walkWalks (v : ByteArray) (w : World) (hv : v.size ≤ 1048576) (he : Env w) :
    Calls Tryz.prog 6 #[.string v] w fun e w' => e = .returned (.bool true) ∧ Below w.heap.size w w' := by
  have HE := Lib.hid he
  clear he
  have hz : v.data.toList.length = v.size := rfl
  have HZ := Lib.hid hz
  clear hz
  go_enter Tryz.func6, Tryz.ntmps6
  go_wp2_with fail
  refine (awake_any _ HE.out).mono ?_
  rintro e w0 ⟨rfl, b0⟩
  have B0 := Lib.hid b0
  clear b0 HE
  go_wp2_with fail
  refine (prog32_any v _ hv).mono ?_
  rintro e w1 ⟨A1, n1, c1, hn1, rfl, ho1, b1⟩
  rw [nats_len] at hn1
  have N1 := Lib.hid hn1
  have O1 := Lib.hid ho1
  have B1 := Lib.hid b1
  clear hn1 ho1 b1
  go_wp2_with fail
  refine (prog64_any v _ hv).mono ?_
  rintro e w2 ⟨A2, n2, c2, hn2, rfl, ho2, b2⟩
  rw [nats_len] at hn2
  have N2 := Lib.hid hn2
  have O2 := Lib.hid ho2
  have B2 := Lib.hid b2
  clear hn2 ho2 b2
  go_wp2_with fail
  refine (progTexts_any v _ hv).mono ?_
  rintro e w3 ⟨A3, n3, c3, hn3, rfl, ho3, b3⟩
  rw [strs_len] at hn3
  have N3 := Lib.hid hn3
  have O3 := Lib.hid ho3
  have B3 := Lib.hid b3
  clear hn3 ho3 b3
  go_wp2_with fail
  refine (new_ex v _).mono ?_
  rintro e w4 ⟨rp, gp, rfl, hrp, hgp, d4, b4⟩
  have D4 := Lib.hid d4
  have B4 := Lib.hid b4
  clear d4 b4
  go_wp2_with fail
  refine (new_ex v _).mono ?_
  rintro e w5 ⟨rq, gq, rfl, hrq, hgq, d5, b5⟩
  have D5 := Lib.hid d5
  have B5 := Lib.hid b5
  clear d5 b5
  go_wp2_with fail
  refine (new_ex v _).mono ?_
  rintro e w6 ⟨rr, gr, rfl, hrr, hgr, d6, b6⟩
  have D6 := Lib.hid d6
  have B6 := Lib.hid b6
  clear d6 b6
  obtain ⟨S, hSdef⟩ : ∃ S : Nat → Prop, S = fun g => g < w3.heap.size := ⟨_, rfl⟩
  have z0 := B0.out.size
  have z1 := B1.out.size
  have z2 := B2.out.size
  have z3 := B3.out.size
  have z4 := B4.out.size
  have z5 := B5.out.size
  have z6 := B6.out.size
  have x1 := D4.out.lt
  have x2 := D4.out.glt
  have x3 := D5.out.lt
  have x4 := D5.out.glt
  have x5 := D6.out.lt
  have x6 := D6.out.glt
  have H6 : Hid (Sixth S rp gp rq gq rr gr) := Lib.hid (by
    rw [hSdef]
    unfold Sixth
    refine ⟨?_, ?_, ?_, ?_, ?_, ?_, ?_, ?_, ?_, ?_, ?_, ?_⟩ <;> omega)
  have b36 := B4.out.trans (B5.out.trans (B6.out.mono z5) |>.mono z4)
  have hS : Hid (∀ g, S g → g < w6.heap.size) := Lib.hid (by rw [hSdef]; intro g hg; show g < _; have : g < w3.heap.size := hg; omega)
  have hW0 : Hid (Ws S w6 rp gp rq gq rr gr v.data.toList v.data.toList v.data.toList w6) := Lib.hid ⟨Keeps.refl _ _, (D4.out.kept (grown_of_below (B5.out.trans (B6.out.mono z5)) none) (by simp) (by simp)), D5.out.kept (grown_of_below B6.out none) (by simp) (by simp), D6.out⟩
  have F1 := made_src O1.out (B2.out.trans ((B3.out.trans (b36.mono z3)).mono z2))
  have F2 := made_src O2.out (B3.out.trans (b36.mono z3))
  have F3 := made_src O3.out b36
  have G1 : Hid (∀ wr, Keeps S w6 wr → Src wr A1 n1 c1 (nats .u32 (c32 v.data.toList))) := Lib.hid fun wr hk => src_keeps F1.1 hk (fun ad hA => by rw [hSdef]; have := F1.2 ad hA; show _ < _; omega)
  have G2 : Hid (∀ wr, Keeps S w6 wr → Src wr A2 n2 c2 (nats .u64 (c64 v.data.toList))) := Lib.hid fun wr hk => src_keeps F2.1 hk (fun ad hA => by rw [hSdef]; have := F2.2 ad hA; show _ < _; omega)
  have G3 : Hid (∀ wr, Keeps S w6 wr → Src wr A3 n3 c3 (strs (tx v.data.toList))) := Lib.hid fun wr hk => src_keeps F3.1 hk (fun ad hA => by rw [hSdef]; have := F3.2 ad hA; show _ < _; omega)
  have GB : Hid (∀ wr, Keeps S w6 wr → Below w.heap.size w wr) := Lib.hid fun wr hk => by
    have h06 := B0.out.trans ((B1.out.trans ((B2.out.trans ((B3.out.trans (b36.mono z3)).mono z2)).mono z1)).mono z0)
    exact h06.trans (hk.below (by intro g hg; rw [hSdef]; show g < _; omega))
  clear F1 F2 F3 b36 hSdef O1 O2 O3 B0 B1 B2 B3 B4 B5 B6 D4 D5 D6 z0 z1 z2 z3 z4 z5 z6 x1 x2 x3 x4 x5 x6 hrp hgp hrq hgq hrr hgr
  go_wp2_with fail
  obtain ⟨n4, q1, q2⟩ : ∃ n4, 4 * n4 ≤ v.size ∧ v.size < 4 * n4 + 4 := ⟨v.size / 4, by omega, by omega⟩
  obtain ⟨n8, q3, q4⟩ : ∃ n8, 8 * n8 ≤ v.size ∧ v.size < 8 * n8 + 8 := ⟨v.size / 8, by omega, by omega⟩
  have HWS := hW0
  clear hW0
  go_loopw [12] (fun i wr => ∃ k : Nat, k ≤ n4 ∧ i = .int .i64 k ∧ Ws S w6 rp gp rq gq rr gr (v.data.toList.drop (4 * k)) v.data.toList v.data.toList wr) (fun i _ => n4 - (intOf i).toNat)
  case atStart => exact ⟨0, by omega, rfl, HWS.out⟩
  case round =>
    clear HWS
    obtain ⟨k, hk, rfl, hws⟩ := hrel
    have HWS := Lib.hid hws
    clear hws
    by_cases hlt : k < n4
    · have hll : (v.data.toList.drop (4 * k)).length = v.size - 4 * k := by rw [List.length_drop, HZ.out]
      have HW : Hid (wideV (v.data.toList.drop (4 * k)) 1 = (num ((v.data.toList.drop (4 * k)).take 4), 0, v.data.toList.drop (4 * (k + 1)))) := Lib.hid (by
        have h := wideV_ok (n := 1) (l := v.data.toList.drop (4 * k)) (by omega) (by rw [hll]; omega)
        rw [List.drop_drop, (by omega : 4 * k + 4 * 1 = 4 * (k + 1))] at h
        exact h)
      clear hll
      go_wp2_with fail
      refine (cell_any rp gp _ _ HWS.out.2.1).mono ?_
      rw [HW.out]
      rintro e w7 ⟨rfl, d7, g7⟩
      have HWN := Lib.hid (Ws.p HWS.out H6.out hS.out d7 g7)
      clear d7 g7
      by_cases hm : v.size % 4 = 0
      · have hE0 : (e32 v.data.toList == (0 : Int)) = true := by unfold e32; rw [HZ.out, if_pos hm]; rfl
        have hcl : k < (c32 v.data.toList).length := by unfold c32; rw [HZ.out, if_pos hm, chunk_len]; omega
        have hnl : k < n1 := by rw [N1.out]; exact hcl
        obtain ⟨b, o, rfl, _, hc1⟩ := src_get (G1.out _ HWN.out.1) (by omega)
        have e1 := hc1 k _ (nats_at .u32 (c32 v.data.toList) k hcl)
        have hxv : (c32 v.data.toList).getD k 0 = num ((v.data.toList.drop (4 * k)).take 4) := by
          unfold c32
          rw [HZ.out, if_pos hm, List.getD_eq_getElem?_getD]
          simp only [chunk]
          rw [List.getElem?_map, List.getElem?_range (by omega)]
          rfl
        rw [hxv] at e1
        clear hc1 hxv hcl HW
        generalize num ((v.data.toList.drop (4 * k)).take 4) = x at e1 ⊢
        go_wp2_with fail
        go_roundw
        case rel => exact ⟨k + 1, by omega, by go_num, HWN.out⟩
        case measure => simp [intOf]; omega
      · have hE0 : (e32 v.data.toList == (0 : Int)) = false := by unfold e32; rw [HZ.out, if_neg hm]; rfl
        go_wp2_with fail
        go_roundw
        case rel => exact ⟨k + 1, by omega, by go_num, HWN.out⟩
        case measure => simp [intOf]; omega
    · obtain rfl : n4 = k := by omega
      clear hk hlt
      go_wp2_with fail
      go_loopw [15] (fun i wr => ∃ k : Nat, k ≤ n8 ∧ i = .int .i64 k ∧ Ws S w6 rp gp rq gq rr gr (v.data.toList.drop (4 * (n4))) (v.data.toList.drop (8 * k)) v.data.toList wr) (fun i _ => n8 - (intOf i).toNat)
      case atStart => exact ⟨0, by omega, rfl, HWS.out⟩
      case round =>
        clear HWS
        obtain ⟨k, hk, rfl, hws⟩ := hrel
        have HWS := Lib.hid hws
        clear hws
        by_cases hlt : k < n8
        · have hll : (v.data.toList.drop (8 * k)).length = v.size - 8 * k := by rw [List.length_drop, HZ.out]
          have HW : Hid (wideV (v.data.toList.drop (8 * k)) 2 = (num ((v.data.toList.drop (8 * k)).take 8), 0, v.data.toList.drop (8 * (k + 1)))) := Lib.hid (by
            have h := wideV_ok (n := 2) (l := v.data.toList.drop (8 * k)) (by omega) (by rw [hll]; omega)
            rw [List.drop_drop, (by omega : 8 * k + 4 * 2 = 8 * (k + 1))] at h
            exact h)
          clear hll
          go_wp2_with fail
          refine (wide_any rq gq _ 2 _ HWS.out.2.2.1).mono ?_
          rw [HW.out]
          rintro e w7 ⟨rfl, d7, g7⟩
          have HWN := Lib.hid (Ws.q HWS.out H6.out hS.out d7 g7)
          clear d7 g7
          by_cases hm : v.size % 8 = 0
          · have hE0 : (e64 v.data.toList == (0 : Int)) = true := by unfold e64; rw [HZ.out, if_pos hm]; rfl
            have hcl : k < (c64 v.data.toList).length := by unfold c64; rw [HZ.out, if_pos hm, chunk_len]; omega
            have hnl : k < n2 := by rw [N2.out]; exact hcl
            obtain ⟨b, o, rfl, _, hc1⟩ := src_get (G2.out _ HWN.out.1) (by omega)
            have e1 := hc1 k _ (nats_at .u64 (c64 v.data.toList) k hcl)
            have hxv : (c64 v.data.toList).getD k 0 = num ((v.data.toList.drop (8 * k)).take 8) := by
              unfold c64
              rw [HZ.out, if_pos hm, List.getD_eq_getElem?_getD]
              simp only [chunk]
              rw [List.getElem?_map, List.getElem?_range (by omega)]
              rfl
            rw [hxv] at e1
            clear hc1 hxv hcl HW
            generalize num ((v.data.toList.drop (8 * k)).take 8) = x at e1 ⊢
            go_wp2_with fail
            go_roundw
            case rel => exact ⟨k + 1, by omega, by go_num, HWN.out⟩
            case measure => simp [intOf]; omega
          · have hE0 : (e64 v.data.toList == (0 : Int)) = false := by unfold e64; rw [HZ.out, if_neg hm]; rfl
            go_wp2_with fail
            go_roundw
            case rel => exact ⟨k + 1, by omega, by go_num, HWN.out⟩
            case measure => simp [intOf]; omega
        · obtain rfl : n8 = k := by omega
          clear hk hlt
          go_wp2_with fail
          have HL4 : Hid (((v.size - 4 * n4 : Nat) : Int) = (v.size : Int) % 4) := Lib.hid (by omega)
          have HL8 : Hid (((v.size - 8 * n8 : Nat) : Int) = (v.size : Int) % 8) := Lib.hid (by omega)
          have HF4 : Hid (wideV (v.data.toList.drop (4 * n4)) 1 = (0, 4, v.data.toList.drop (4 * n4))) := Lib.hid (wideV_form (n := 1) (by omega) (by rw [List.length_drop, HZ.out]; omega))
          have HF8 : Hid (wideV (v.data.toList.drop (8 * n8)) 2 = (0, 4, v.data.toList.drop (8 * n8))) := Lib.hid (wideV_form (n := 2) (by omega) (by rw [List.length_drop, HZ.out]; omega))
          by_cases hT : (split [] v.data.toList).2 = []
          · have hG0 : (etx v.data.toList == (0 : Int)) = true := by unfold etx; rw [if_pos hT]; rfl
            have hG1 : (etx v.data.toList != (0 : Int)) = false := by unfold etx; rw [if_pos hT]; rfl
            have htx : tx v.data.toList = (split [] v.data.toList).1.map str := if_pos hT
            obtain ⟨T, hTT⟩ : ∃ T, split [] v.data.toList = (T, []) := ⟨(split [] v.data.toList).1, Prod.ext rfl hT⟩
            rw [hTT] at htx
            have HTT := Lib.hid hTT
            have HTX := Lib.hid htx
            have HN3 : Hid (n3 = T.length) := Lib.hid (by rw [N3.out, htx, List.length_map])
            have hn3 : n3 ≤ 1048576 := by
              have h1 := split_len v.data.toList []
              rw [hTT] at h1
              have h2 := HZ.out
              rw [HN3.out]
              simp only at h1
              omega
            clear hT hTT htx
            go_loopw [18] (fun i wr => ∃ k p : Nat, k ≤ n3 ∧ p ≤ v.size ∧ i = .int .i64 k ∧ Hid (split [] (v.data.toList.take p) = (T.take k, [])) ∧ Ws S w6 rp gp rq gq rr gr (v.data.toList.drop (4 * n4)) (v.data.toList.drop (8 * n8)) (v.data.toList.drop p) wr) (fun i _ => n3 - (intOf i).toNat)
            case atStart => exact ⟨0, 0, by omega, by omega, rfl, Lib.hid rfl, HWS.out⟩
            case round =>
              clear HWS
              obtain ⟨k, p, hk, hp, rfl, HSP, hws⟩ := hrel
              have HWS := Lib.hid hws
              clear hws
              by_cases hlt : k < n3
              · obtain ⟨hz, hTk, hnx⟩ := split_rest v.data.toList T p k HTT.out HSP.out (by rw [← HN3.out]; exact hlt)
                have HNX := Lib.hid hnx
                have hzl : zat (v.data.toList.drop p) < v.size - p := by rw [List.length_drop, HZ.out] at hz; exact hz
                have HTV : Hid (textV (v.data.toList.drop p) = ((v.data.toList.drop p).take (zat (v.data.toList.drop p)), 0, v.data.toList.drop (p + (zat (v.data.toList.drop p) + 1)))) := Lib.hid (by rw [textV_yes hz, List.drop_drop])
                have HTK : Hid ((tx v.data.toList).getD k ByteArray.empty = ⟨((v.data.toList.drop p).take (zat (v.data.toList.drop p))).toArray⟩) := Lib.hid (by
                  have hk2 : k < T.length := by rw [← HN3.out]; exact hlt
                  rw [HTX.out, List.getD_eq_getElem?_getD, List.getElem?_map, List.getElem?_eq_getElem hk2, hTk]
                  rfl)
                clear hz hTk hnx
                go_wp2_with fail
                refine (text_any rr gr _ _ HWS.out.2.2.2 (by rw [List.length_drop, HZ.out]; unfold maxLen; omega)).mono ?_
                rw [HTV.out]
                rintro e w7 ⟨rfl, d7, g7⟩
                have HWN := Lib.hid (Ws.r HWS.out H6.out hS.out d7 g7)
                clear d7 g7 HTV
                obtain ⟨b, o, rfl, _, hc1⟩ := src_get (G3.out _ HWN.out.1) (by omega)
                have e1 := hc1 k _ (strs_at (tx v.data.toList) k (by rw [← N3.out]; exact hlt))
                rw [HTK.out] at e1
                clear hc1 HTK
                generalize (⟨((v.data.toList.drop p).take (zat (v.data.toList.drop p))).toArray⟩ : ByteArray) = X at e1 ⊢
                generalize zat (v.data.toList.drop p) = z at hzl HNX HWN
                go_wp2_with fail
                go_roundw
                case rel => exact ⟨k + 1, p + (z + 1), by omega, by omega, by go_num, HNX, HWN.out⟩
                case measure => simp [intOf]; omega
              · obtain rfl : n3 = k := by omega
                have hdn : v.data.toList.drop p = [] := split_done v.data.toList T p HTT.out (by
                  have h1 := HSP.out
                  have hTl : T.take n3 = T := List.take_of_length_le (by rw [HN3.out]; exact Nat.le_refl _)
                  rw [hTl] at h1
                  exact h1)
                rw [hdn] at HWS
                clear hdn hk hlt
                go_wp2_with fail
                refine (cell_any rp gp _ _ HWS.out.2.1).mono ?_
                rw [HF4.out]
                rintro e w7 ⟨rfl, d7, g7⟩
                have HW1 := Lib.hid (Ws.p HWS.out H6.out hS.out d7 g7)
                clear d7 g7 HWS
                go_wp2_with fail
                refine (wide_any rq gq _ 2 _ HW1.out.2.2.1).mono ?_
                rw [HF8.out]
                rintro e w8 ⟨rfl, d8, g8⟩
                have HW2 := Lib.hid (Ws.q HW1.out H6.out hS.out d8 g8)
                clear d8 g8 HW1
                go_wp2_with fail
                refine (text_any rr gr _ _ HW2.out.2.2.2 (by simp)).mono ?_
                rw [show textV [] = ([], 4, []) from rfl]
                rintro e w9 ⟨rfl, d9, g9⟩
                have HW3 := Lib.hid (Ws.r HW2.out H6.out hS.out d9 g9)
                clear d9 g9 HW2
                go_wp2_with fail
                refine (left_any rr gr _ _ HW3.out.2.2.2).mono ?_
                rintro e wy ⟨rfl, rfl⟩
                go_wp2_with fail
                refine (left_any rp gp _ _ HW3.out.2.1).mono ?_
                rintro e wy ⟨rfl, rfl⟩
                rw [List.length_drop, HZ.out, HL4.out]
                go_wp2_with fail
                refine (left_any rq gq _ _ HW3.out.2.2.1).mono ?_
                rintro e wy ⟨rfl, rfl⟩
                rw [List.length_drop, HZ.out, HL8.out]
                go_wp2_with fail
                go_ret
                exact ⟨rfl, GB.out _ HW3.out.1⟩
          · have hG0 : (etx v.data.toList == (0 : Int)) = false := by unfold etx; rw [if_neg hT]; rfl
            have hG1 : (etx v.data.toList != (0 : Int)) = true := by unfold etx; rw [if_neg hT]; rfl
            clear hT
            refine wp_loop_rounds 1 ?_
            rw [rounds_succ]
            go_wp2_with fail
            refine (cell_any rp gp _ _ HWS.out.2.1).mono ?_
            rw [HF4.out]
            rintro e w7 ⟨rfl, d7, g7⟩
            have HW1 := Lib.hid (Ws.p HWS.out H6.out hS.out d7 g7)
            clear d7 g7 HWS
            go_wp2_with fail
            refine (wide_any rq gq _ 2 _ HW1.out.2.2.1).mono ?_
            rw [HF8.out]
            rintro e w8 ⟨rfl, d8, g8⟩
            have HW2 := Lib.hid (Ws.q HW1.out H6.out hS.out d8 g8)
            clear d8 g8 HW1
            go_wp2_with fail
            refine (text_any rr gr _ _ HW2.out.2.2.2 (by rw [HZ.out]; unfold maxLen; omega)).mono ?_
            rintro e w9 ⟨rfl, d9, g9⟩
            have HW3 := Lib.hid (Ws.r HW2.out H6.out hS.out d9 g9)
            clear d9 g9 HW2
            generalize textV v.data.toList = tv at HW3 ⊢
            go_wp2_with fail
            refine (left_any rp gp _ _ HW3.out.2.1).mono ?_
            rintro e wy ⟨rfl, rfl⟩
            rw [List.length_drop, HZ.out, HL4.out]
            go_wp2_with fail
            refine (left_any rq gq _ _ HW3.out.2.2.1).mono ?_
            rintro e wy ⟨rfl, rfl⟩
            rw [List.length_drop, HZ.out, HL8.out]
            go_wp2_with fail
            go_ret
            exact ⟨rfl, GB.out _ HW3.out.1⟩
end Go.Proofs.YtkjhngnpbdlmiaaGreatDoor.Cl
