/- Order (P10.4): the document's, of places. -/
import Derived.Test.YtjffemeeomogaaaDoorBuQ
namespace Go.Proofs.YtjffemeeomogaaaDoor.Bu
open Go.ChangeShapes Go.WideShapes Go.ChangeAt Go.RowKit Own Ro St

def RefOrd (down : Bool) (l : List Int) (n : Nat) (w : World) (e : Ending) (w' : World) : Prop := ∃ (A' : Option Addr) (c' : Nat) (Z : List Int), e = .returned (.tuple #[.slice A' n c', .int .i64 0]) ∧ Fe (okey down) l Z ∧ Srt (okey down) Z ∧ Z.length = n ∧ w'.ownsRow w.heap.size 3 1 (.slice A' n c') n (ints Z) ∧ Below w.heap.size w w'
set_option maxRecDepth 100000 in
set_option maxHeartbeats 16000000 in
theorem refOrder_ok (A : Option Addr) (c n : Nat) (l : List Int) (down : Bool) (w : World) (hn : n = l.length) (hm : n ≤ 4096) (hs : CellsIn w 1 A n (ints l)) (hok : ∀ i, i < n → plc (l.getD i 0)) :
    Calls Tryd.prog 40 #[.slice A n c, .bool down] w (RefOrd down l n w) := by
  have HN := Lib.hid hn
  have GA := Lib.hid hs
  have HK := Lib.hid hok
  have HM := Lib.hid (nums_any w)
  have b1 : ¬ (4096 : Int) < (n : Int) := by omega
  clear hn hs hok
  go_enter Tryd.func40, Tryd.ntmps40
  go_wp2_with fail
  go_loop [6] (fun v6 => ∃ k : Nat, k ≤ n ∧ v6 = .int .i64 (k : Int)) (fun v6 => n - (RowKit.intOf v6).toNat)
  case atStart => exact ⟨0, by omega, rfl⟩
  case round =>
    obtain ⟨k, hk, rfl⟩ := hrel
    by_cases hlt : k < n
    · have l1 : (0 : Int) ≤ (k : Int) := by omega
      have l2 : (k : Int) < (n : Int) := by omega
      obtain ⟨b, o, rfl, hbs, hc1⟩ := GA.out.at (by omega)
      have e0 := hc1 k _ (ints_at l k (by rw [← HN.out]; exact hlt))
      obtain ⟨h1, h2⟩ := HK.out k hlt
      clear hc1
      generalize l.getD k 0 = x at e0 h1 h2
      have h3 : ¬ x < 0 := by omega
      have h4 : ¬ 20 ≤ x := by omega
      go_wp2_with fail
      go_round
      case rel => exact ⟨k + 1, by omega, by go_num⟩
      case measure => simp [RowKit.intOf]; omega
    · obtain rfl : n = k := by omega
      clear hk hlt
      go_wp2_with fail
      refine HM.out.mono ?_
      rintro e w2 ⟨g9, c9, rfl, hg9, h3, h4⟩
      have B2 := Lib.hid h4
      have HC9 := Lib.hid (fun (k : Nat) (hk : k < 20) => show w2.cell? ⟨g9, k, none⟩ = some (.int .i64 (ent k)) from by rw [h3.cellAt k (by omega)]; exact tab_at k hk)
      have GA2 := Lib.hid (GA.out.below h4)
      clear h3 h4 HM GA b1 hg9
      go_wp2_with fail
      go_loopw [8, 9] (fun v8 v9 wr => ∃ (k : Nat), k ≤ n ∧ v9 = .int .i64 (k : Int) ∧ Below w2.heap.size w2 wr ∧ ∃ (O : List Int) (A' : Option Addr) (c' : Nat), v8 = .slice A' k c' ∧ O.length = k ∧ wr.ownsRow w2.heap.size 3 1 (.slice A' k c') k (ints O) ∧ Fe (okey down) (l.take k) O ∧ Srt (okey down) O) (fun _ v9 _ => n - (RowKit.intOf v9).toNat)
      case atStart => exact ⟨0, by omega, rfl, Below.refl _ _, [], none, 0, rfl, rfl, own_nil _ _ _, Fe.refl _, List.Pairwise.nil⟩
      case round =>
        obtain ⟨k, hk, rfl, hb, O, A', c', rfl, hol, ho, hfe, hsr⟩ := hrel
        have HB := Lib.hid hb
        have HO := Lib.hid ho
        have HFE := Lib.hid hfe
        have HSR := Lib.hid hsr
        have HOL := Lib.hid hol
        have hsz : w2.heap.size ≤ wr.heap.size := hb.size
        have HPL := Lib.hid (fun (y : Int) (hy : y ∈ O) => show plc y from by
          have hm := hfe.mem.1 hy
          obtain ⟨i, hi, rfl⟩ := List.mem_iff_getElem.1 hm
          have hi' : i < l.length := by simp at hi; omega
          have := HK.out i (by rw [HN.out]; exact hi')
          rw [List.getElem_take]
          rwa [List.getD_eq_getElem?_getD, List.getElem?_eq_getElem hi'] at this)
        clear hb ho hfe hsr hol
        by_cases hlt : k < n
        · have l1 : (0 : Int) ≤ (k : Int) := by omega
          have l2 : (k : Int) < (n : Int) := by omega
          obtain ⟨b, o, rfl, hbs, hc1⟩ := GA2.out.at (by omega)
          have e0 : w2.cell? ⟨b, o + k, none⟩ = _ := hc1 k _ (ints_at l k (by rw [← HN.out]; exact hlt))
          have HX := Lib.hid (HK.out k hlt)
          have HTK := Lib.hid (takeS l 0 k (by rw [← HN.out]; exact hlt))
          clear hc1
          generalize l.getD k 0 = x at e0 HX HTK
          have EX := Lib.hid (fun V (hV : Below w2.heap.size w2 V) => show V.cell? ⟨b, o + k, none⟩ = some (.int .i64 x) from by rw [hV.cell (cell_lt e0)]; exact e0)
          clear e0
          obtain ⟨wo, rfl⟩ : ∃ wo : World, wo = wr := ⟨_, rfl⟩
          go_upto_block 4 with fail
          go_cut [10] (fun s10 wx => ∃ p : Nat, s10 = .int .i64 (p : Int) ∧ p ≤ k ∧ Hid (0 < p → okey down (O.getD (p - 1) 0) ≤ okey down x) ∧ Hid (p < k → okey down x < okey down (O.getD p 0)) ∧ ∃ m, wx = wo.drewN m)
          case first =>
            go_wp2_with fail
            go_loopw [10] (fun v10 wx => ∃ p : Nat, v10 = .int .i64 (p : Int) ∧ p ≤ k ∧ Hid (p < k → okey down x < okey down (O.getD p 0)) ∧ ∃ m, wx = wo.drewN m) (fun v10 _ => (RowKit.intOf v10).toNat)
            case atStart => exact ⟨k, rfl, by omega, Lib.hid fun h => absurd h (by omega), 0, rfl⟩
            case round =>
              obtain ⟨p, rfl, hpk, HP, m, rfl⟩ := hrel
              by_cases hp0 : 0 < p
              · obtain ⟨pp, hpp⟩ : ∃ q, q + 1 = p := ⟨p - 1, by omega⟩
                have zp : (p : Int) = (pp : Int) + 1 := by omega
                have zp0 : (0 : Int) < (pp : Int) + 1 := by omega
                have zp1 : decide ((pp : Int) + 1 > 0) = true := decide_eq_true (by omega)
                have q0 : (0 : Int) ≤ (pp : Int) := by omega
                have q1 : (pp : Int) < (k : Int) := by omega
                have q2 : IntKind.i64.wrap (pp : Int) = (pp : Int) := by rw [IntKind.wrap_i64]; omega
                obtain ⟨ga, hga, hg1, hg2⟩ := own_shapeK HO.out (by omega)
                subst hga
                have y0 : wo.cell? ⟨ga, pp, none⟩ = some (.int .i64 (O.getD pp 0)) := by rw [HO.out.cellAt pp (by omega)]; exact ints_at O pp (by rw [HOL.out]; omega)
                have hpl := HPL.out (O.getD pp 0) (by rw [List.getD_eq_getElem?_getD, List.getElem?_eq_getElem (by rw [HOL.out]; omega)]; exact List.getElem_mem _)
                have HY := Lib.hid (show O.getD (p - 1) 0 = O.getD pp 0 by rw [← hpp]; rfl)
                have HPP := Lib.hid hpp
                generalize hyv : O.getD pp 0 = y at y0 hpl HY
                clear hyv
                obtain ⟨y1, y2⟩ := hpl
                obtain ⟨x1, x2⟩ := HX.out
                have ty : wo.cell? ⟨g9, y.toNat, none⟩ = some (.int .i64 (ent y)) := by
                  have := HC9.out y.toNat (by omega)
                  rw [HB.out.cell (cell_lt this)]
                  rwa [show ((y.toNat : Nat) : Int) = y by omega] at this
                have tx : wo.cell? ⟨g9, x.toNat, none⟩ = some (.int .i64 (ent x)) := by
                  have := HC9.out x.toNat (by omega)
                  rw [HB.out.cell (cell_lt this)]
                  rwa [show ((x.toNat : Nat) : Int) = x by omega] at this
                have ex := EX.out wo HB.out
                clear hpp
                have HC := Lib.hid (show okey down x < okey down y ↔ (if down = true then decide (ent y < ent x) else decide (ent y > ent x)) = true from by unfold okey; cases down <;> simp)
                generalize ent y = ey at ty HC
                generalize ent x = ex0 at tx HC
                cases down with
                | false =>
                  by_cases hc : ex0 < ey
                  · have d1 : decide (ey > ex0) = true := decide_eq_true hc
                    have H9 := Lib.hid (show okey false x < okey false y from HC.out.2 (by simp; exact hc))
                    go_wp2_with fail
                    go_quiet (fail)
                    go_wp2_with fail
                    go_roundw
                    case rel => exact ⟨pp, by first | rfl | go_num, by have := HPP.out; omega, Lib.hid fun _ => by rw [← HY.out, show p - 1 = pp by have := HPP.out; omega] at *; exact H9.out, _, rfl⟩
                    case measure => simp [RowKit.intOf]; have := HPP.out; omega
                  · have d1 : decide (ey > ex0) = false := decide_eq_false hc
                    have H9 := Lib.hid (show okey false y ≤ okey false x from Int.not_lt.1 fun h => by have := HC.out.1 h; simp at this; exact hc this)
                    go_wp2_with fail
                    go_quiet (fail)
                    go_wp2_with fail
                    go_meet
                    exact ⟨p, by rw [zp], hpk, Lib.hid fun _ => by rw [HY.out]; exact H9.out, HP, _, by first | rfl | rw [World.drewN_drewN]⟩
                | true =>
                  by_cases hc : ey < ex0
                  · have d1 : decide (ey < ex0) = true := decide_eq_true hc
                    have H9 := Lib.hid (show okey true x < okey true y from HC.out.2 (by simp; exact hc))
                    go_wp2_with fail
                    go_quiet (fail)
                    go_wp2_with fail
                    go_roundw
                    case rel => exact ⟨pp, by first | rfl | go_num, by have := HPP.out; omega, Lib.hid fun _ => by rw [← HY.out, show p - 1 = pp by have := HPP.out; omega] at *; exact H9.out, _, rfl⟩
                    case measure => simp [RowKit.intOf]; have := HPP.out; omega
                  · have d1 : decide (ey < ex0) = false := decide_eq_false hc
                    have H9 := Lib.hid (show okey true y ≤ okey true x from Int.not_lt.1 fun h => by have := HC.out.1 h; simp at this; exact hc this)
                    go_wp2_with fail
                    go_quiet (fail)
                    go_wp2_with fail
                    go_meet
                    exact ⟨p, by rw [zp], hpk, Lib.hid fun _ => by rw [HY.out]; exact H9.out, HP, _, by first | rfl | rw [World.drewN_drewN]⟩
              · obtain rfl : p = 0 := by omega
                have zp1 : decide ((0 : Int) > 0) = false := by decide
                cases down with
                | false =>
                  go_wp2_with fail
                  go_quiet (fail)
                  go_wp2_with fail
                  go_meet
                  exact ⟨0, rfl, by omega, Lib.hid fun h => absurd h (by omega), HP, _, by first | rfl | rw [World.drewN_drewN]⟩
                | true =>
                  go_wp2_with fail
                  go_quiet (fail)
                  go_wp2_with fail
                  go_meet
                  exact ⟨0, rfl, by omega, Lib.hid fun h => absurd h (by omega), HP, _, by first | rfl | rw [World.drewN_drewN]⟩
          case rest =>
          obtain ⟨p, rfl, hpk, HP1, HP2, m, hw⟩ := hcut
          have HB1 := Lib.hid (show Below w2.heap.size w2 wc from by rw [hw]; exact below_dr HB.out m)
          have HO1 := Lib.hid (show wc.ownsRow w2.heap.size 3 1 (.slice A' k c') k (ints O) from by rw [hw]; exact own_belowK HO.out (below_dr (Below.refl _ _) m))
          have hsz1 : w2.heap.size ≤ wc.heap.size := HB1.out.size
          clear hw HB HO hsz
          have HGE := Lib.hid (show ints O ++ [.int .i64 0] = ints (gap O 0 k) from by rw [ints_app, gap_end, HOL.out])
          go_wp2_with (at_builtin; go_must (refine wpList_append_src rfl (.tmp 89) (.tmp 90) 70 rfl w2.heap.size 3 (.int .i64 0) 8 Tryd.underlying70 info_int rfl _ k (ints O) rfl (own_belowK HO1.out (grows' wc _)) _ 1 1 [.int .i64 0] rfl (src_new _ _ _) (by intro u hu; simp at hu; subst hu; rfl) (by omega) (by omega) (by simp; omega) ?_); intro v1 w3 hown1 hg1; rw [HGE.out] at hown1; obtain ⟨A3, c3, rfl, _⟩ := own_src hown1)
          have HB3 := Lib.hid (below_grown' HB1.out hsz1 HO1.out (Nat.le_refl _) hg1)
          have HO3 := Lib.hid hown1
          obtain ⟨g3, hg3e, hg31, hg32⟩ := own_shapeK hown1 (by omega)
          subst hg3e
          clear hown1 hg1 HB1 HO1
          go_loopw [11] (fun v11 wx => ∃ (j : Nat) (z : Int), v11 = .int .i64 (j : Int) ∧ p ≤ j ∧ j ≤ k ∧ Below w2.heap.size w2 wx ∧ wx.ownsRow w2.heap.size 3 1 (.slice (some ⟨g3, 0, none⟩) (k + 1) c3) (k + 1) (ints (gap O z j))) (fun v11 _ => (RowKit.intOf v11).toNat)
          case atStart => exact ⟨k, 0, by first | rfl | (congr 1; omega), hpk, Nat.le_refl _, HB3.out, HO3.out⟩
          case round =>
            clear HB3 HO3
            obtain ⟨j, z, rfl, hpj, hjk, hbx, hox⟩ := hrel
            have HBX := Lib.hid hbx
            have HOX := Lib.hid hox
            clear hbx hox
            by_cases hj : p < j
            · obtain ⟨jp, hjp⟩ : ∃ q, q + 1 = j := ⟨j - 1, by omega⟩
              have zj : (j : Int) = (jp : Int) + 1 := by omega
              have zj1 : (p : Int) < (jp : Int) + 1 := by omega
              have q0 : (0 : Int) ≤ (jp : Int) := by omega
              have q1 : (jp : Int) + 1 < (k : Int) + 1 := by omega
              have q3 : ((jp : Int) + 1).toNat = jp + 1 := by omega
              have c1 : wr.cell? ⟨g3, jp, none⟩ = some (.int .i64 (O.getD jp 0)) := by
                rw [HOX.out.cellAt jp (by omega), ints_at _ _ (by rw [gap_len _ _ _ (by rw [HOL.out]; omega), HOL.out]; omega), ← hjp, gap_before _ _ _ (by rw [HOL.out]; omega)]
              have c2 : ∃ u, wr.cell? ⟨g3, jp + 1, none⟩ = some u := by
                rw [HOX.out.cellAt (jp + 1) (by omega)]
                exact ⟨_, ints_at _ _ (by rw [gap_len _ _ _ (by rw [HOL.out]; omega), HOL.out]; omega)⟩
              obtain ⟨u2, c2⟩ := c2
              have f2 : wr.frozen? ⟨g3, jp + 1, none⟩ = false := HOX.out.frozenAt (jp + 1)
              have HST := Lib.hid (show (wr.setCell ⟨g3, jp + 1, none⟩ (.int .i64 (O.getD jp 0))).ownsRow w2.heap.size 3 1 (.slice (some ⟨g3, 0, none⟩) (k + 1) c3) (k + 1) (ints (gap O (O.getD jp 0) jp)) from by
                have := (HOX.out.stored (jp + 1) (.int .i64 (O.getD jp 0))).1
                rwa [ints_set, ← hjp, gap_step _ _ _ (by rw [HOL.out]; omega)] at this)
              have HBS := Lib.hid (HBX.out.setCell (p := ⟨g3, jp + 1, none⟩) hg31 (.int .i64 (O.getD jp 0)))
              generalize O.getD jp 0 = y at c1 HST HBS
              have HJP := Lib.hid hjp
              clear hjp
              go_wp2_with fail
              go_roundw
              case rel => exact ⟨jp, y, by first | rfl | go_num | (congr 1; omega), by have := HJP.out; omega, by have := HJP.out; omega, HBS.out, HST.out⟩
              case measure => simp [RowKit.intOf]; have := HJP.out; omega
            · have HJE := Lib.hid (show j = p by omega)
              have zj : ¬ (p : Int) < (j : Int) := by omega
              have q0 : (0 : Int) ≤ (p : Int) := by omega
              have q1 : (p : Int) < (k : Int) + 1 := by omega
              have ex := EX.out wr HBX.out
              have c2 : ∃ u, wr.cell? ⟨g3, p, none⟩ = some u := by
                rw [HOX.out.cellAt p (by omega)]
                exact ⟨_, ints_at _ _ (by rw [gap_len _ _ _ (by rw [HOL.out]; omega), HOL.out]; omega)⟩
              obtain ⟨u2, c2⟩ := c2
              have f2 : wr.frozen? ⟨g3, p, none⟩ = false := HOX.out.frozenAt p
              have HST := Lib.hid (show (wr.setCell ⟨g3, p, none⟩ (.int .i64 x)).ownsRow w2.heap.size 3 1 (.slice (some ⟨g3, 0, none⟩) (k + 1) c3) (k + 1) (ints (gap O x p)) from by
                have := (HOX.out.stored p (.int .i64 x)).1
                rwa [ints_set, HJE.out, gap_put _ _ _ _ (by rw [HOL.out]; omega)] at this)
              have HBS := Lib.hid (HBX.out.setCell (p := ⟨g3, p, none⟩) hg31 (.int .i64 x))
              have HGO := Lib.hid (gap_ok HFE.out HSR.out (by rw [HOL.out]; exact hpk) HP1.out (by rw [HOL.out]; exact HP2.out))
              have HGL := Lib.hid (gap_len O x p (by rw [HOL.out]; exact hpk))
              go_wp2_with fail
              go_roundw
              case rel => exact ⟨k + 1, by omega, by go_num, HBS.out, gap O x p, _, _, rfl, by rw [HGL.out, HOL.out], HST.out, by rw [HTK.out]; exact HGO.out.2, HGO.out.1⟩
              case measure => simp [RowKit.intOf]; omega
        · have HKN := Lib.hid (show k = n by omega)
          have HTN := Lib.hid (show l.take k = l by rw [HKN.out, HN.out, List.take_length])
          have zk : ¬ (k : Int) < (n : Int) := by omega
          go_wp2_with fail
          go_ret2
          refine ⟨A', c', O, ?_, by have := HFE.out; rwa [HTN.out] at this, HSR.out, HOL.out.trans HKN.out, ?_, bt B2.out HB.out⟩
          · rw [← HKN.out]; rfl
          · rw [← HKN.out]; exact own_monoK HO.out B2.out.size
end Go.Proofs.YtjffemeeomogaaaDoor.Bu
