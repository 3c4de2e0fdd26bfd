/- The law TreeAsks, walked. -/
import Derived.Test.YtfafhkhamaccfaaTaN
import Derived.Test.YtfafhkhamaccfaaTrY
namespace Go.Proofs.Ytfafhkhamaccfaa.Tr
open Go.ChangeShapes Go.WideShapes Go.ChangeAt Go.RowKit Own wordsNames

set_option maxRecDepth 100000 in
set_option maxHeartbeats 8000000 in
theorem walkAsks (A : Option Addr) (ca na : Nat) (L : List Nd) (Ra : List Sl) (nm : List UInt8) (y : World) (hma : Upto 1048576 L) (hwf : Wf L) (hneat : ∀ k, Neat (Ra.getD k sl0)) (hA : NodesIn y A na L Ra) :
    Calls Try.prog 3 #[.slice A na ca, .string (str nm)] y fun e w' => e = .returned (.bool true) ∧ Below y.heap.size y w' := by
  have HN := Lib.hid hA.1
  have hnb : na ≤ 1048576 := by have := hA.1; have := hma.1; omega
  have HWF := Lib.hid hwf
  have GA := Lib.hid hA
  have MA := Lib.hid (hma.mild (by omega))
  have HTW := Lib.hid (twin_any A ca na L Ra y MA.out hA hneat)
  clear hma hwf hneat hA
  generalize hNM : str nm = NM
  go_enter Try.func3, Try.ntmps3
  go_wp2_with fail
  refine HTW.out.mono ?_
  rintro e w1 ⟨A1, c1, n, R, rfl, hno, hb1⟩
  have HN1 := Lib.hid hno
  have HB1 := Lib.hid hb1
  clear hno hb1
  go_wp2_with fail
  have hn1 : n = na := by rw [HN1.out.1, HN.out]
  subst hn1
  go_loopw [6] (fun v6 wr => ∃ i : Int, -1 ≤ i ∧ i ≤ (n : Int) + 1 ∧ v6 = .int .i64 i ∧ NodesOwn wr y.heap.size A1 n c1 L R ∧ Below y.heap.size y wr) (fun v6 _ => ((n : Int) + 2 - RowKit.intOf v6).toNat)
  case atStart => exact ⟨-1, by omega, by omega, rfl, HN1.out, HB1.out⟩
  case round =>
    clear HN1 HB1 HTW
    obtain ⟨i, hi1, hi2, rfl, hno, hbw⟩ := hrel
    have HN1 := Lib.hid hno
    have HB1 := Lib.hid hbw
    clear hno hbw
    by_cases hend : i ≤ (n : Int)
    · have t0 : decide (i ≤ (n : Int)) = true := decide_eq_true hend
      have hwn : wrap64 ((n : Int) - 2) = (n : Int) - 2 := IntWalk.wrap64_in _ (by omega)
      by_cases hsk : 40 < i ∧ i < (n : Int) - 2
      · have t1 : decide (40 < i) = true := decide_eq_true hsk.1
        have t2 : decide (i < (n : Int) - 2) = true := decide_eq_true hsk.2
        clear hsk
        go_wp2_with fail
        go_roundw
        case rel => exact ⟨i + 1, by omega, by omega, by go_num, HN1.out, HB1.out⟩
        case measure => simp [RowKit.intOf]; omega
      obtain ⟨er, hp⟩ := pl_ex L i
      have HP := Lib.hid hp
      have GR := Lib.hid HN1.out.nodes
      have CP : Hid (Caps R) := Lib.hid fun k => (HN1.out.neat k).2
      have GB := Lib.hid (GA.out.below HB1.out)
      have T1 := Lib.hid fun (W : World) (hW : Below wr.heap.size wr W) => tPath_any A1 c1 n L R i er W HP.out MA.out HWF.out CP.out (GR.out.below hW)
      have R1 := Lib.hid fun (W : World) (hW : Below wr.heap.size wr W) => refPath_any A ca n L Ra i er W HP.out MA.out (GB.out.below hW)
      have T2 := Lib.hid fun (W : World) (hW : Below wr.heap.size wr W) => tDepth_any A1 c1 n L R i er W HP.out MA.out HWF.out CP.out (GR.out.below hW)
      have R2 := Lib.hid fun (W : World) (hW : Below wr.heap.size wr W) => refDepth_any A ca n L Ra i er W HP.out MA.out (GB.out.below hW)
      have T3 := Lib.hid fun (W : World) (hW : Below wr.heap.size wr W) => tKids_any A1 c1 n L R i er W HP.out MA.out HWF.out CP.out (GR.out.below hW)
      have R3 := Lib.hid fun (W : World) (hW : Below wr.heap.size wr W) => refKids_any A ca n L Ra i er W HP.out MA.out (GB.out.below hW)
      have T4 := Lib.hid fun (W : World) (hW : Below wr.heap.size wr W) => tEnd_any A1 c1 n L R i er W HP.out MA.out HWF.out CP.out (GR.out.below hW)
      have R4 := Lib.hid fun (W : World) (hW : Below wr.heap.size wr W) => refEnd_any A ca n L Ra i er W HP.out MA.out (GB.out.below hW)
      have T5 := Lib.hid fun (W : World) (hW : Below wr.heap.size wr W) => asks_any A1 A c1 ca n n L R Ra i er nm W HP.out MA.out HWF.out CP.out (GR.out.below hW) (GB.out.below hW)
      have hkl := kidsV_len L i er
      rw [← HN.out] at hkl
      rw [hNM] at T5
      clear hp
      generalize pathE L i er = v1 at T1 R1
      generalize str v1 = S1 at T1 R1
      generalize depthV L i er = v2 at T2 R2
      generalize kidsV L i er = ks at T3 R3 hkl
      have s1 : (S1.toList == S1.toList) = true := beq_self_eq_true _
      have s2 : (v2 != v2) = false := by simp
      have s3 : (er != er) = false := by simp
      have tsk : (decide (40 < i) && decide (i < (n : Int) - 2)) = false := by
        rw [Bool.and_eq_false_iff, decide_eq_false_iff_not, decide_eq_false_iff_not]
        by_cases h : 40 < i
        · exact .inr fun h2 => hsk ⟨h, h2⟩
        · exact .inl h
      have HSK := Lib.hid hsk
      clear hsk
      by_cases h40 : 40 < i
      case' pos =>
        have t1 : decide (40 < i) = true := decide_eq_true h40
        have t2 : decide (i < (n : Int) - 2) = false := decide_eq_false fun h => HSK.out ⟨h40, h⟩
      case' neg =>
        have t1 : decide (40 < i) = false := decide_eq_false h40
      all_goals
        clear tsk HSK h40
        go_wp2_with fail
        refine (T1.out _ (Below.refl _ _)).mono ?_
        rintro e w2 ⟨rfl, b2⟩
        have B2 := Lib.hid b2
        clear b2
        go_wp2_with fail
        refine (R1.out _ B2.out).mono ?_
        rintro e w3 ⟨rfl, b3⟩
        have B3 := Lib.hid (bt B2.out b3)
        clear b3 B2
        go_wp2_with fail
        refine (T2.out _ B3.out).mono ?_
        rintro e w4 ⟨rfl, b4⟩
        have B4 := Lib.hid (bt B3.out b4)
        clear b4 B3
        go_wp2_with fail
        refine (R2.out _ B4.out).mono ?_
        rintro e w5 ⟨rfl, b5⟩
        have B5 := Lib.hid (bt B4.out b5)
        clear b5 B4
        go_wp2_with fail
        refine (T3.out _ B5.out).mono ?_
        rintro e w6 ⟨A6, n6, c6, hn6, rfl, ho6, b6⟩
        have B6 := Lib.hid (bt B5.out b6)
        have O6 := Lib.hid (own_low ho6 B5.out.size)
        have LT : Hid (∀ g, (Value.slice A6 n6 c6).ownBlock = some g → g < w6.heap.size) := Lib.hid fun g hg => (ho6.lt g hg).2
        have N6 := Lib.hid hn6
        have z6 : n6 ≤ 1048576 := by omega
        clear b6 B5 ho6 hn6
        go_wp2_with fail
        refine (R3.out _ B6.out).mono ?_
        rintro e w7 ⟨A7, n7, c7, hn7, rfl, ho7, b7⟩
        have B7 := Lib.hid (bt B6.out b7)
        have P7 := Lib.hid (own_below O6.out b7 (Nat.le_refl _))
        have O7 := Lib.hid ho7
        have N7 := Lib.hid hn7
        clear b7 B6 ho7 hn7 O6
        go_wp2_with fail
        refine (T4.out _ B7.out).mono ?_
        rintro e w8 ⟨z8, rfl, hz8, b8⟩
        have B8 := Lib.hid (bt B7.out b8)
        have P8 := Lib.hid (own_below P7.out b8 (Nat.le_refl _))
        have O8 := Lib.hid (own_below O7.out b8 (Nat.le_refl _))
        have Z8 := Lib.hid hz8
        clear b8 B7 P7 O7 hz8
        go_wp2_with fail
        refine (R4.out _ B8.out).mono ?_
        rintro e w9 ⟨z9, rfl, hz9, b9⟩
        obtain rfl := endV_one Z8.out hz9
        have B9 := Lib.hid (bt B8.out b9)
        have P9 := Lib.hid (own_below P8.out b9 (Nat.le_refl _))
        have O9 := Lib.hid (own_below O8.out b9 (Nat.le_refl _))
        have s4 : (z8 != z8) = false := by simp
        clear b9 B8 P8 O8 Z8 hz9
        have HS := Lib.hid (sameInts_any A6 A7 c6 c7 n6 n7 ks w9 N6.out N7.out (by omega) (own_srcS P9.out) (own_srcS O9.out))
        go_wp2_with fail
        refine HS.out.mono ?_
        rintro e w10 ⟨rfl, q, rfl⟩
        have b10 := below_dr (Below.refl w9.heap.size w9) q
        generalize w9.drewN q = w10 at b10 ⊢
        have B10 := Lib.hid (bt B9.out b10)
        have P10 := Lib.hid (own_below P9.out b10 (Nat.le_refl _))
        have O10 := Lib.hid (own_below O9.out b10 (Nat.le_refl _))
        clear b10 B9 P9 O9 HS T1 T2 T4 R1 R2 R3 R4
        go_wp2_with fail
        go_loopw [17] (fun v17 wi => ∃ (j : Nat) (xs : List Value), j ≤ n6 ∧ v17 = .int .i64 (j : Int) ∧ wi.ownsRow wr.heap.size 3 1 (.slice A6 n6 c6) n6 xs ∧ wi.ownsRow w6.heap.size 3 1 (.slice A7 n7 c7) n7 (nums ks) ∧ Below wr.heap.size wr wi) (fun v17 _ => n6 - (RowKit.intOf v17).toNat)
        case atStart => exact ⟨0, _, by omega, rfl, P10.out, O10.out, B10.out⟩
        case round =>
          clear P10 O10 B10
          obtain ⟨j, xs, hj, rfl, hp, ho, hb⟩ := hrel
          have PI := Lib.hid hp
          have OI := Lib.hid ho
          have BI := Lib.hid hb
          clear hp ho hb
          by_cases hjl : j < n6
          · obtain ⟨g, rfl, hg1, hg2⟩ := own_shapeK PI.out (by omega)
            have hl := PI.out.1
            have e1 := (PI.out.cellAt j (by omega)).trans (List.getElem?_eq_getElem (by omega))
            have f1 := PI.out.frozenAt j
            have st := PI.out.stored j (.int .i64 (-9))
            have PS := Lib.hid st.1
            have OS := Lib.hid (OI.out.kept st.2 (by
              cases hv : (Value.slice A7 n7 c7).ownBlock with
              | none => exact .inl rfl
              | some g7 =>
                refine .inr fun e => ?_
                injection e with e
                have h1 := (OI.out.lt g7 hv).1
                have h2 := LT.out g rfl
                omega))
            have BS := Lib.hid (BI.out.setCell (p := ⟨g, j, none⟩) hg1 (.int .i64 (-9)))
            clear st PI OI BI
            generalize xs[j]'(by omega) = x at e1
            have p1 : (0 : Int) ≤ (j : Int) := by omega
            have p2 : (j : Int) < (n6 : Int) := by omega
            go_wp2_with fail
            go_roundw
            case rel => exact ⟨j + 1, _, by omega, by go_num, PS.out, OS.out, BS.out⟩
            case measure => simp [RowKit.intOf]; omega
          · obtain rfl : n6 = j := by omega
            clear PI
            go_wp2_with fail
            refine (T3.out _ BI.out).mono ?_
            rintro e w11 ⟨A11, n11, c11, hn11, rfl, ho11, b11⟩
            have B11 := Lib.hid (bt BI.out b11)
            have P11 := Lib.hid (own_below OI.out b11 (Nat.le_refl _))
            have O11 := Lib.hid ho11
            have N11 := Lib.hid hn11
            clear b11 ho11 hn11 OI
            have HS := Lib.hid (sameInts_any A11 A7 c11 c7 n11 n7 ks w11 N11.out N7.out (by have := N11.out; omega) (own_srcS O11.out) (own_srcS P11.out))
            go_wp2_with fail
            refine HS.out.mono ?_
            rintro e w12 ⟨rfl, q, rfl⟩
            have b12 := below_dr (Below.refl w11.heap.size w11) q
            generalize w11.drewN q = w12 at b12 ⊢
            have B12 := Lib.hid (bt B11.out b12)
            clear b12 HS
            go_wp2_with fail
            refine (T5.out _ B12.out).mono ?_
            rintro e w13 ⟨rfl, b13⟩
            have B13 := Lib.hid (bt B12.out b13)
            clear b13
            go_wp2_with fail
            go_roundw
            case rel => exact ⟨i + 1, by omega, by omega, by go_num, HN1.out.below B13.out, bt HB1.out B13.out⟩
            case measure => simp [RowKit.intOf]; omega
    · have t0 : decide (i ≤ (n : Int)) = false := decide_eq_false hend
      have HS := Lib.hid (refSame_any A1 A c1 ca n n L L R Ra true wr ⟨fun _ => rfl, fun _ => rfl⟩ MA.out MA.out HN1.out.nodes (GA.out.below HB1.out))
      go_wp2_with fail
      refine HS.out.mono ?_
      rintro e w4 ⟨rfl, q4, rfl⟩
      go_wp2_with fail
      go_ret
      exact ⟨rfl, below_dr HB1.out q4⟩
end Go.Proofs.Ytfafhkhamaccfaa.Tr
