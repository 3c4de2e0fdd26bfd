/- The law SupplyMeets. -/
import Derived.Test.YtpoijmncdicdkaaDoorSuC
import Derived.Test.YtpoijmncdicdkaaDoorAp
namespace Go.Proofs.YtpoijmncdicdkaaDoor.Su
open Go.ChangeShapes Go.WideShapes Go.ChangeAt Go.RowKit Own Ro

theorem info_win : (Tryd.prog.info? 34).map (fun i => (i.zero, i.size, i.bytes)) = some (some (.agg #[.int .i64 0, .int .i64 0]), 2, 16) := by kernel_rfl
theorem info_arr : (Tryd.prog.info? 48).map (fun i => (i.zero, i.size, i.bytes)) = some (some (.agg #[.int .i64 0, .int .i64 0]), 2, 16) := by kernel_rfl
set_option maxRecDepth 100000 in
set_option maxHeartbeats 8000000 in
theorem meets_any (A B : Option Addr) (c d n : Nat) (l : List Pr) (w : World) (hn : n = l.length) (hb : n ≤ 9223372036854775807) (h1 : CellsIn w 2 A n (prsV l)) (h2 : CellsIn w 2 B n (prsV l)) :
    Calls Tryd.prog 25 #[.slice A n c, .slice B n d] w (fun e w' => e = .returned (.bool true) ∧ Below w.heap.size w w') := by
  have M1 := Lib.hid (meet_any A c n l w hn hb h1)
  have M2 := Lib.hid (fun V (hV : Below w.heap.size w V) => refMeet_any B d n l V hn hb (h2.below hV))
  unfold winV at M1
  clear h1 h2 hn
  generalize (mt l).1 = x at M1 M2
  generalize (mt l).2.1 = y at M1 M2
  generalize (mt l).2.2 = z at M1 M2
  go_enter Tryd.func25, Tryd.ntmps25
  go_wp2_with fail
  refine M1.out.mono ?_
  rintro e w1 ⟨rfl, b1⟩
  have B1 := Lib.hid b1
  clear b1
  go_wp2_with fail
  have B2 := Lib.hid (bt B1.out (grows' w1 (.cells #[.int .i64 x, .int .i64 y] 34)))
  have C2 := Lib.hid (cells2_new w1 (.int .i64 x) (.int .i64 y) 34)
  generalize w1.alloc (.cells #[.int .i64 x, .int .i64 y] 34) = W at B2 C2 ⊢
  generalize w1.heap.size = g at C2 ⊢
  refine (M2.out W B2.out).mono ?_
  rintro e w2 ⟨rfl, b2⟩
  obtain ⟨c0, c1⟩ := cells2_below C2.out b2
  have B3 := Lib.hid (bt B2.out b2)
  clear b2
  go_wp2_with fail
  go_ret
  exact ⟨rfl, B3.out⟩
/-- The first number of each pair halved. -/
def hv (p : Pr) : Pr := (p.1.tdiv 2, p.2)
/-- The windows while the first k have got their halves; behind them one more. -/
def MX (l : List Pr) : Nat → List Pr
  | 0 => l ++ [(-77, 0)]
  | k + 1 => (MX l k).set k (hv (l.getD k (0, 0)))
theorem MX_len (l : List Pr) (k : Nat) : (MX l k).length = l.length + 1 := by
  induction k with
  | zero => simp [MX]
  | succ k ih => unfold MX; rw [List.length_set, ih]
theorem MX_at (l : List Pr) (k j : Nat) (hk : k ≤ l.length) (hj : j < l.length) : (MX l k).getD j (0, 0) = if j < k then hv (l.getD j (0, 0)) else l.getD j (0, 0) := by
  induction k with
  | zero =>
    unfold MX
    rw [getD_sn _ _ _ _ hj, if_neg (by omega)]
  | succ k ih =>
    unfold MX
    rw [getD_set _ _ _ _ _ (by rw [MX_len]; omega), ih (by omega)]
    by_cases h1 : j = k
    · subst h1; rw [if_pos rfl, if_pos (by omega)]
    · rw [if_neg h1]
      by_cases h2 : j < k
      · rw [if_pos h2, if_pos (by omega)]
      · rw [if_neg h2, if_neg (by omega)]
theorem MX_take0 (l : List Pr) : (MX l 0).take l.length = l := by simp [MX]
theorem hv_at (l : List Pr) (k : Nat) (h : k < l.length) : (l.map hv).getD k (0, 0) = hv (l.getD k (0, 0)) := by
  rw [List.getD_eq_getElem?_getD, List.getElem?_map, some_at l (0, 0) k h]
  rfl
theorem MX_take (l : List Pr) : (MX l l.length).take l.length = l.map hv := by
  have hl : ((MX l l.length).take l.length).length = (l.map hv).length := by rw [List.length_take, MX_len, List.length_map]; omega
  refine list_ext (0, 0) hl fun i hi => ?_
  rw [hl, List.length_map] at hi
  rw [show ((MX l l.length).take l.length).getD i (0, 0) = (MX l l.length).getD i (0, 0) by
    rw [List.getD_eq_getElem?_getD, List.getD_eq_getElem?_getD, List.getElem?_take, if_pos hi], MX_at l _ i (Nat.le_refl _) hi, if_pos hi, hv_at l i hi]
theorem prs_take (l : List Pr) (n : Nat) : (prsV l).take (n * 2) = prsV (l.take n) := by
  unfold prsV
  induction l generalizing n with
  | nil => simp
  | cons p l ih =>
    cases n with
    | zero => simp
    | succ n =>
      rw [List.flatMap_cons, List.take_succ_cons, List.flatMap_cons, ← ih n, show (n + 1) * 2 = n * 2 + 2 by omega]
      rfl
theorem prs_snoc (l : List Pr) (p : Pr) : prsV l ++ prV p = prsV (l ++ [p]) := by unfold prsV; simp
/-- The first n of a list. -/
theorem cells_take {w : World} {A : Option Addr} {m n : Nat} {l : List Pr} (h : CellsIn w 2 A m (prsV l)) (hn : n ≤ m) : CellsIn w 2 A n (prsV (l.take n)) := by
  have hl := h.1
  rw [prs_len] at hl
  refine ⟨by rw [prs_len, List.length_take]; omega, ?_⟩
  by_cases h0 : n = 0
  · exact .inl h0
  · obtain ⟨b, o, rfl, hb, hc⟩ := h.at (by omega)
    refine .inr ⟨b, o, rfl, hb, fun j u hu => ?_⟩
    rw [← prs_take] at hu
    rw [List.getElem?_take] at hu
    split at hu
    · exact hc j u hu
    · cases hu
theorem half_wrap {a : Int} (h0 : -9223372036854775808 ≤ a) (h1 : a ≤ 9223372036854775807) : IntKind.i64.wrap (a.tdiv 2) = a.tdiv 2 := by
  have h2 : -9223372036854775808 ≤ a.tdiv 2 ∧ a.tdiv 2 ≤ 9223372036854775807 := by
    rcases Int.le_total 0 a with h | h
    · have := Int.tdiv_nonneg h (b := 2) (by omega)
      have := Int.tdiv_le_self 2 h
      omega
    · have e : a.tdiv 2 = -((-a).tdiv 2) := by rw [Int.neg_tdiv]; omega
      have := Int.tdiv_nonneg (a := -a) (b := 2) (by omega) (by omega)
      have := Int.tdiv_le_self (a := -a) 2 (by omega)
      omega
  rw [IntKind.wrap_i64]
  omega
set_option maxRecDepth 100000 in
set_option maxHeartbeats 8000000 in
theorem lawMeets_any (A : Option Addr) (c n : Nat) (l : List Pr) (w : World) (h : Tb w) (hn : n = l.length) (hb : n ≤ 2000000) (hs : CellsIn w 2 A n (prsV l)) (hbd : ∀ i, -9223372036854775808 ≤ (l.getD i (0, 0)).1 ∧ (l.getD i (0, 0)).1 ≤ 9223372036854775807) :
    Calls Tryd.prog 4 #[.slice A n c] w (fun e w' => e = .returned (.bool true) ∧ Below w.heap.size w w') := by
  have HT := Lib.hid h
  have HN := Lib.hid hn
  have GA := Lib.hid hs
  have HBD := Lib.hid hbd
  clear h hn hs hbd
  go_enter Tryd.func4, Tryd.ntmps4
  go_wp2_with fail
  go_loopw [3, 4, 5] (fun v3 v4 v5 wr => ∃ k, k ≤ n ∧ v5 = .int .i64 (k : Nat) ∧ Below w.heap.size w wr ∧ (∃ ma mc, v3 = .slice ma k mc ∧ wr.ownsRow w.heap.size 34 2 (.slice ma k mc) k (prsV (l.take k))) ∧ (∃ ta tc, v4 = .slice ta k tc ∧ wr.ownsRow w.heap.size 48 2 (.slice ta k tc) k (prsV ((l.map hv).take k)))) (fun _ _ v5 _ => n - (RowKit.intOf v5).toNat)
  case atStart => exact ⟨0, by omega, rfl, Below.refl _ _, ⟨none, 0, rfl, own_nilK _ _ _ _⟩, ⟨none, 0, rfl, own_nilK _ _ _ _⟩⟩
  case round =>
    obtain ⟨k, hk, rfl, hr, ⟨ma, mc, rfl, om⟩, ⟨ta, tc, rfl, ot⟩⟩ := hrel
    have HR := Lib.hid hr
    have OM := Lib.hid om
    have OT := Lib.hid ot
    have hsz : w.heap.size ≤ wr.heap.size := hr.size
    clear hr om ot
    by_cases hlt : k < n
    · have l1 : (0 : Int) ≤ (k : Int) := by omega
      have l2 : (k : Int) < (n : Int) := by omega
      obtain ⟨b, o, rfl, hbs, hc1⟩ := GA.out.at (by omega)
      have e0 : w.cell? ⟨b, o + k * 2, none⟩ = _ := hc1 (k * 2 + 0) _ (prs_at l k 0 (by rw [← HN.out]; exact hlt) (by decide))
      have e1 : w.cell? ⟨b, o + k * 2 + 1, none⟩ = _ := hc1 (k * 2 + 1) _ (prs_at l k 1 (by rw [← HN.out]; exact hlt) (by decide))
      have HSM := Lib.hid (show prsV (l.take k) ++ prV (l.getD k (0, 0)) = prsV (l.take (k + 1)) by rw [prs_snoc, takeS l (0, 0) k (by rw [← HN.out]; exact hlt)])
      have HST := Lib.hid (show prsV ((l.map hv).take k) ++ prV (hv (l.getD k (0, 0))) = prsV ((l.map hv).take (k + 1)) by
        rw [prs_snoc, takeS (l.map hv) (0, 0) k (by rw [List.length_map, ← HN.out]; exact hlt), hv_at l k (by rw [← HN.out]; exact hlt)])
      clear hc1
      have hsb := HBD.out k
      generalize l.getD k (0, 0) = s at e0 e1 HSM HST hsb
      obtain ⟨sa, sb⟩ := s
      have hwr : IntKind.i64.wrap (sa.tdiv 2) = sa.tdiv 2 := half_wrap hsb.1 hsb.2
      clear hsb
      replace e0 : w.cell? ⟨b, o + k * 2, none⟩ = some (.int .i64 sa) := e0
      replace e1 : w.cell? ⟨b, o + k * 2 + 1, none⟩ = some (.int .i64 sb) := e1
      have HKP := Lib.hid (fun V (hV : Below w.heap.size w V) => show (V.cell? ⟨b, o + k * 2, none⟩ = some (.int .i64 sa) ∧ V.cell? ⟨b, o + k * 2 + 1, none⟩ = some (.int .i64 sb)) ∧ Below w.heap.size w V from ⟨⟨by rw [hV.cell (cell_lt e0)]; exact e0, by rw [hV.cell (cell_lt e1)]; exact e1⟩, hV⟩)
      clear e0 e1
      obtain ⟨⟨f0, f1⟩, _⟩ := HKP.out _ HR.out
      have HAP := Lib.hid (own_apartK OT.out OM.out (by decide))
      go_wp2_with fail
      go_region_held3 (fun w' => (w'.cell? ⟨b, o + k * 2, none⟩ = some (.int .i64 sa) ∧ w'.cell? ⟨b, o + k * 2 + 1, none⟩ = some (.int .i64 sb)) ∧ Below w.heap.size w w') (first | exact HKP.out _ (by assumption) | exact HKP.out _ HR.out | exact HKP.out _ (below_dr HR.out 1) | exact HKP.out _ (bt (below_dr HR.out 1) (grows' _ _)))
        ((refine step_appK (o := ⟨some 26, _, _, _, _, _⟩) (by first | rfl | simp [Region.wanted, yielded]) (.tmp 13) (.tmp 25) 47 (by rfl) w.heap.size 34 (.agg #[.int .i64 0, .int .i64 0]) 2 16 (by omega) Tryd.underlying47 info_win rfl _ k (prsV (l.take k)) (by rfl) (own_belowK OM.out (bt (below_dr (Below.refl _ _) 1) (grows' _ _))) _ 1 1 [.int .i64 sa, .int .i64 sb] (by rfl) (src_new2 _ _ _ _ rfl) (by intro u hu; simp at hu; rcases hu with rfl | rfl <;> rfl) (by omega) (by omega) (by simp [World.drew]; omega) ?_; intro v1 w1 ho1 hg1; have hb1 := below_grown' (below_dr HR.out 1) hsz (own_belowK OM.out (below_dr (Below.refl _ _) 1)) (Nat.le_refl _) hg1))
      have ho2 : w1.ownsRow w.heap.size 34 2 v1 (k + 1) (prsV (l.take (k + 1))) := by rw [← HSM.out]; exact ho1
      have HOT := Lib.hid ((own_belowK OT.out (bt (below_dr (Below.refl _ _) 1) (grows' _ _))).kept hg1 HAP.out)
      obtain ⟨ma', mc', rfl, _⟩ := own_srcK ho2
      have HOM := Lib.hid ho2
      have HB1 := Lib.hid hb1
      have hsz1 : w.heap.size ≤ w1.heap.size := hb1.size
      clear ho1 ho2 hg1 HR OM OT HAP f0 f1 hb1
      obtain ⟨⟨f0, f1⟩, _⟩ := HKP.out _ HB1.out
      have HAP := Lib.hid (own_apartK HOM.out HOT.out (by decide))
      go_wp2_with fail
      go_region_held3 (fun w' => (w'.cell? ⟨b, o + k * 2, none⟩ = some (.int .i64 sa) ∧ w'.cell? ⟨b, o + k * 2 + 1, none⟩ = some (.int .i64 sb)) ∧ Below w.heap.size w w') (first | exact HKP.out _ (by assumption) | exact HKP.out _ HB1.out | exact HKP.out _ (below_dr HB1.out 1) | exact HKP.out _ (bt (below_dr HB1.out 1) (grows' _ _)))
        ((refine step_appK (o := ⟨some 41, _, _, _, _, _⟩) (by first | rfl | simp [Region.wanted, yielded]) (.tmp 27) (.tmp 40) 46 (by rfl) w.heap.size 48 (.agg #[.int .i64 0, .int .i64 0]) 2 16 (by omega) Tryd.underlying46 info_arr rfl _ k (prsV ((l.map hv).take k)) (by rfl) (own_belowK HOT.out (bt (below_dr (Below.refl _ _) 1) (grows' _ _))) _ 1 1 [.int .i64 (sa.tdiv 2), .int .i64 sb] (by rfl) (src_new2 _ _ _ _ rfl) (by intro u hu; simp at hu; rcases hu with rfl | rfl <;> rfl) (by omega) (by omega) (by simp [World.drew]; omega) ?_; intro v2 w2 ho2 hg2; have hb2 := below_grown' (below_dr HB1.out 1) hsz1 (own_belowK HOT.out (below_dr (Below.refl _ _) 1)) (Nat.le_refl _) hg2))
      have ho3 : w2.ownsRow w.heap.size 48 2 v2 (k + 1) (prsV ((l.map hv).take (k + 1))) := by rw [← HST.out]; exact ho2
      have HOM2 := Lib.hid ((own_belowK HOM.out (bt (below_dr (Below.refl _ _) 1) (grows' _ _))).kept hg2 HAP.out)
      obtain ⟨ta', tc', rfl, _⟩ := own_srcK ho3
      have HOT2 := Lib.hid ho3
      have HB2 := Lib.hid hb2
      clear ho2 ho3 hg2 HOM HOT HAP f0 f1 hb2
      go_wp2_with fail
      go_roundw
      case rel => exact ⟨k + 1, by omega, by go_num, HB2.out, ⟨ma', mc', rfl, HOM2.out⟩, ⟨ta', tc', rfl, HOT2.out⟩⟩
      case measure => simp [RowKit.intOf]; omega
    · obtain rfl : n = k := by omega
      rw [List.take_of_length_le (by rw [← HN.out]; exact Nat.le_refl _)] at OM
      rw [List.take_of_length_le (by rw [List.length_map, ← HN.out]; exact Nat.le_refl _)] at OT
      clear hlt hk
      have hap := own_apartK OT.out OM.out (by decide)
      go_wp2_with (at_builtin; go_must (refine wpList_append_srcK rfl (.tmp 42) (.tmp 44) 47 rfl w.heap.size 34 (.agg #[.int .i64 0, .int .i64 0]) 2 16 (by omega) Tryd.underlying47 info_win rfl _ n (prsV l) rfl (own_belowK OM.out (grows' wr _)) _ 1 1 [.int .i64 (-77), .int .i64 0] rfl (src_new2 _ _ _ _ rfl) (by intro u hu; simp at hu; rcases hu with rfl | rfl <;> rfl) (by omega) (by omega) (by simp; omega) ?_); intro v1 w1 ho1 hg1; obtain ⟨A1, c1, rfl, _, hc1⟩ := own_srcK ho1; obtain ⟨g1, rfl, hg1a, hg1b⟩ := own_shapeK ho1 (by omega); have hnc : (n : Int) ≤ (c1 : Int) := by omega)
      have OM1 := Lib.hid (show w1.ownsRow w.heap.size 34 2 (.slice (some ⟨g1, 0, none⟩) (n + 1) c1) (n + 1) (prsV (MX l 0)) by
        have := prs_snoc l (-77, 0)
        show w1.ownsRow _ _ _ _ _ (prsV (l ++ [(-77, 0)]))
        rw [← this]
        exact ho1)
      have OT1 := Lib.hid ((own_belowK OT.out (grows' wr (.cells #[.int .i64 (-77), .int .i64 0] 34))).kept hg1 hap)
      have HB1 := Lib.hid (below_grown' HR.out hsz OM.out (Nat.le_refl _) hg1)
      clear ho1 hg1 hap OM OT HR
      have HM1 := Lib.hid (meets_any (some ⟨g1, 0, none⟩) A c1 c n l w1 HN.out (by omega) (by
        have := cells_take (own_cells OM1.out) (n := n) (by omega)
        rw [HN.out, MX_take0, ← HN.out] at this
        exact this) (GA.out.below HB1.out))
      refine HM1.out.mono ?_
      rintro e w2 ⟨rfl, b2⟩
      have HB2 := Lib.hid (bt HB1.out b2)
      have OM2 := Lib.hid (own_belowK OM1.out b2)
      have OT2 := Lib.hid (own_belowK OT1.out b2)
      clear b2 OM1 OT1 HB1 HM1
      have cz : w2.cell? ⟨g1, n * 2, none⟩ = some (.int .i64 (-77)) := by
        rw [OM2.out.cellAt (n * 2) (by omega)]
        have := prs_at (MX l 0) n 0 (by rw [MX_len, HN.out]; omega) (by decide)
        rw [Nat.add_zero] at this
        rw [this, show (MX l 0).getD n (0, 0) = (-77, 0) by rw [HN.out]; exact getD_la _ _ _]
        rfl
      go_wp2_with fail
      clear cz
      go_loopw [6] (fun v6 wr => ∃ k, k ≤ n ∧ v6 = .int .i64 (k : Nat) ∧ Below w.heap.size w wr ∧ wr.ownsRow w.heap.size 34 2 (.slice (some ⟨g1, 0, none⟩) (n + 1) c1) (n + 1) (prsV (MX l k)) ∧ wr.ownsRow w.heap.size 48 2 (.slice ta n tc) n (prsV (l.map hv))) (fun v6 _ => n - (RowKit.intOf v6).toNat)
      case atStart => exact ⟨0, by omega, rfl, HB2.out, OM2.out, OT2.out⟩
      case round =>
        clear HB2 OM2 OT2
        obtain ⟨k, hk, rfl, hr, om, ot⟩ := hrel
        have HR := Lib.hid hr
        have OM := Lib.hid om
        have OT := Lib.hid ot
        have hsz : w.heap.size ≤ wr.heap.size := hr.size
        clear hr om ot
        by_cases hlt : k < n
        · have l1 : (0 : Int) ≤ (k : Int) := by omega
          have l2 : (k : Int) < (n : Int) := by omega
          have l3 : (k : Int) < (n : Int) + 1 := by omega
          have hkl : k < l.length := by rw [← HN.out]; exact hlt
          obtain ⟨b, o, rfl, hbs, hc1⟩ := GA.out.at (by omega)
          have e0 : w.cell? ⟨b, o + k * 2, none⟩ = _ := hc1 (k * 2 + 0) _ (prs_at l k 0 hkl (by decide))
          have e1 : w.cell? ⟨b, o + k * 2 + 1, none⟩ = _ := hc1 (k * 2 + 1) _ (prs_at l k 1 hkl (by decide))
          obtain ⟨b2, o2, rfl, hbs2, hc2⟩ := (own_cells OT.out).at (by omega)
          have t0 : wr.cell? ⟨b2, o2 + k * 2, none⟩ = _ := hc2 (k * 2 + 0) _ (prs_at (l.map hv) k 0 (by rw [List.length_map]; exact hkl) (by decide))
          rw [hv_at l k hkl] at t0
          have m0 : wr.cell? ⟨g1, k * 2, none⟩ = _ := (OM.out.cellAt (k * 2 + 0) (by omega)).trans (prs_at (MX l k) k 0 (by rw [MX_len]; omega) (by decide))
          have m1 : wr.cell? ⟨g1, k * 2 + 1, none⟩ = _ := (OM.out.cellAt (k * 2 + 1) (by omega)).trans (prs_at (MX l k) k 1 (by rw [MX_len]; omega) (by decide))
          rw [MX_at l k k (by omega) hkl, if_neg (by omega)] at m0 m1
          have HST := Lib.hid (show (prsV (MX l k)).set (k * 2) (.int .i64 (hv (l.getD k (0, 0))).1) = prsV (MX l (k + 1)) from
            flat_set (f := prV) (k := 2) prV_len (MX l k) k 0 (by decide) _ (l.getD k (0, 0)) (hv (l.getD k (0, 0))) (by rw [some_at (MX l k) (0, 0) k (by rw [MX_len]; omega), MX_at l k k (by omega) hkl, if_neg (by omega)]) rfl)
          clear hc1 hc2
          generalize l.getD k (0, 0) = s at e0 e1 t0 m0 m1 HST
          obtain ⟨sa, sb⟩ := s
          have f0 : wr.cell? ⟨b, o + k * 2, none⟩ = some (.int .i64 sa) := by rw [HR.out.cell (cell_lt e0)]; exact e0
          have f1 : wr.cell? ⟨b, o + k * 2 + 1, none⟩ = some (.int .i64 sb) := by rw [HR.out.cell (cell_lt e1)]; exact e1
          replace t0 : wr.cell? ⟨b2, o2 + k * 2, none⟩ = some (.int .i64 (sa.tdiv 2)) := t0
          replace m0 : wr.cell? ⟨g1, k * 2, none⟩ = some (.int .i64 sa) := m0
          replace m1 : wr.cell? ⟨g1, k * 2 + 1, none⟩ = some (.int .i64 sb) := m1
          have z0 := OM.out.frozenAt (k * 2)
          clear e0 e1
          have hap := own_apartK OT.out OM.out (by decide)
          replace HST := Lib.hid (show (prsV (MX l k)).set (k * 2) (.int .i64 (sa.tdiv 2)) = prsV (MX l (k + 1)) from HST.out)
          generalize sa.tdiv 2 = sh at t0 HST
          go_wp2_with fail
          go_region
          all_goals go_wp2_with fail
          go_roundw
          case rel =>
            have hst := set_grown wr ⟨g1, k * 2, none⟩ (.int .i64 sh)
            have hmo := (OM.out.stored (k * 2) (.int .i64 sh)).1
            rw [HST.out] at hmo
            have hto := OT.out.kept hst hap
            exact ⟨k + 1, by omega, by go_num, below_dr (HR.out.setCell (p := ⟨g1, k * 2, none⟩) hg1a _) 1, hmo, hto⟩
          case measure => simp [RowKit.intOf]; omega
        · obtain rfl : n = k := by omega
          have HM1 := Lib.hid (meets_any (some ⟨g1, 0, none⟩) ta c1 tc n (l.map hv) wr (by rw [List.length_map]; exact HN.out) (by omega) (by
            have := cells_take (own_cells OM.out) (n := n) (by omega)
            rw [HN.out, MX_take, ← HN.out] at this
            exact this) (own_cells OT.out))
          clear hlt hk OM OT
          go_wp2_with fail
          refine HM1.out.mono ?_
          rintro e w3 ⟨rfl, b3⟩
          have HB3 := Lib.hid (bt HR.out b3)
          clear b3
          have HAW := Lib.hid (awake_any w3 (Tb.below HT.out HB3.out))
          go_wp2_with fail
          refine HAW.out.mono ?_
          rintro e w4 ⟨rfl, rfl⟩
          go_wp2_with fail
          go_ret
          exact ⟨rfl, HB3.out⟩
end Go.Proofs.YtpoijmncdicdkaaDoor.Su
