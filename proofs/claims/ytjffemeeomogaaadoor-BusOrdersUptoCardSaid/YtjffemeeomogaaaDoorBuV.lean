/- The law BusOrders. -/
import Derived.Test.YtjffemeeomogaaaDoorBuS
namespace Go.Proofs.YtjffemeeomogaaaDoor.Bu
open Go.ChangeShapes Go.WideShapes Go.ChangeAt Go.RowKit Own Ro St

def fives (k : Nat) (Z : List Int) : List Int := List.replicate k (-5) ++ Z.drop k
theorem fives_len (k : Nat) (Z : List Int) (h : k ≤ Z.length) : (fives k Z).length = Z.length := by simp [fives]; omega
theorem fives_step (k : Nat) (Z : List Int) (h : k < Z.length) : (fives k Z).set k (-5) = fives (k + 1) Z := by
  unfold fives
  rw [List.set_append_right _ _ (by simp), List.length_replicate, Nat.sub_self, ← List.getElem_cons_drop h, List.set_cons_zero, List.replicate_succ', List.append_assoc]
  rfl
/-- The number that the law makes of one. -/
def twi (x : Int) : Int := (x.tmod 20 + 21).tmod 20
theorem twi_bd (x : Int) : -19 ≤ x.tmod 20 ∧ x.tmod 20 ≤ 19 := by
  have h1 := Int.emod_nonneg x (show (20 : Int) ≠ 0 by decide)
  have h2 := Int.emod_lt_of_pos x (show (0 : Int) < 20 by decide)
  have h3 := Int.tmod_eq_emod (a := x) (b := 20)
  rw [h3]
  split <;> omega
def twis (k : Nat) (l : List Int) : List Int := (l.take k).map twi ++ l.drop k
theorem twis_len (k : Nat) (l : List Int) (h : k ≤ l.length) : (twis k l).length = l.length := by simp [twis]; omega
theorem twis_at (k : Nat) (l : List Int) (h : k < l.length) : (twis k l).getD k 0 = l.getD k 0 := by
  unfold twis
  rw [List.getD_eq_getElem?_getD, List.getElem?_append_right (by simp; omega)]
  simp [Nat.min_eq_left (Nat.le_of_lt h)]
theorem twis_step (k : Nat) (l : List Int) (h : k < l.length) : (twis k l).set k (twi (l.getD k 0)) = twis (k + 1) l := by
  unfold twis
  have h1 : ((l.take k).map twi).length = k := by simp; omega
  rw [List.set_append_right _ _ (by omega), h1, Nat.sub_self, ← List.getElem_cons_drop h, List.set_cons_zero, takeS l 0 k h, List.map_append, List.append_assoc]
  rfl
theorem twis_zero (l : List Int) : twis 0 l = l := by simp [twis]
set_option maxRecDepth 100000 in
set_option maxHeartbeats 16000000 in
theorem orders_any (A : Option Addr) (c n : Nat) (l : List Int) (down : Bool) (w : World) (hT : Tb w) (hn : n = l.length) (hb : n * 8 ≤ 140737488351232) (hs : CellsIn w 1 A n (ints l)) (hne : Neat (A, n, c)) :
    Calls Tryd.prog 8 #[.slice A n c, .bool down] w (fun e w' => e = .returned (.bool true) ∧ Below w.heap.size w w') := by
  have HT := Lib.hid hT
  have GA := Lib.hid hs
  have HN := Lib.hid hn
  have hs2 := hs.src (c := c) hne
  have HS := Lib.hid (fun W (hW : Below w.heap.size w W) => (hs.below hW).src (c := c) hne)
  clear hT hs hne hn hs2
  have h1c : ∀ u ∈ ints l, u.oneCell' = true := by intro u hu; obtain ⟨x, _, rfl⟩ := List.mem_map.1 hu; rfl
  have H1C := Lib.hid h1c
  clear h1c
  go_enter Tryd.func8, Tryd.ntmps8
  go_wp2_with (at_builtin; (refine wpList_append_srcK (o := ⟨some 16, _, _, _, _, _⟩) rfl (.tmp 14) (.tmp 15) 70 rfl w.heap.size 3 (.int .i64 0) 1 8 (by omega) Tryd.underlying70 info_int rfl _ 0 [] rfl (own_emptyK w 3 1) A n c (ints l) rfl (HS.out _ (grows' w _)) H1C.out (by omega) (by omega) (by simp) ?_); intro v2 w1 ho2 hg2; rw [Nat.zero_add, List.nil_append] at ho2; have hb2 := below_first hg2; obtain ⟨Ai, ci, rfl, _⟩ := own_srcK ho2)
  have OI := Lib.hid ho2
  have B1 := Lib.hid hb2
  have HT1 := Lib.hid (HT.out.below hb2)
  clear ho2 hg2 hb2
  have P1 := Lib.hid (order_any Ai ci n l down w1 HT1.out HN.out (by omega) (own_cells OI.out))
  unfold OrdP at P1
  go_wp2_with fail
  refine P1.out.mono ?_
  rintro e w2 ⟨Aa, ca, Z, er, rfl, hv, ho, hbb⟩
  have V := Lib.hid hv
  have OA2 := Lib.hid ho
  have B2 := Lib.hid hbb
  have HT2 := Lib.hid (HT1.out.below hbb)
  have OI2 := Lib.hid (own_belowK OI.out hbb)
  clear hv ho hbb P1
  have P2 := Lib.hid (order_any Ai ci n l down w2 HT2.out HN.out (by omega) (own_cells OI2.out))
  unfold OrdP at P2
  go_wp2_with fail
  refine P2.out.mono ?_
  rintro e w3 ⟨Ab, cb, Zb, eb, rfl, hv, ho, hbb⟩
  obtain ⟨rfl, rfl⟩ := V.out.same hv
  have OB3 := Lib.hid ho
  have B3 := Lib.hid hbb
  have OA3 := Lib.hid (own_belowK OA2.out hbb)
  have OI3 := Lib.hid (own_belowK OI2.out hbb)
  have HT3 := Lib.hid (HT2.out.below hbb)
  clear hv ho hbb P2 OI2
  have P3 := Lib.hid (refOrder_any A c n l down w3 HN.out (by omega) (GA.out.below (bt B1.out (bt B2.out B3.out))))
  unfold OrdP at P3
  go_wp2_with fail
  refine P3.out.mono ?_
  rintro e w4 ⟨Aw, cw, Zw, ew, rfl, hv, ho, hbb⟩
  obtain ⟨rfl, rfl⟩ := V.out.same hv
  have OW4 := Lib.hid ho
  have B4 := Lib.hid hbb
  have OB4 := Lib.hid (own_belowK OB3.out hbb)
  have OA4 := Lib.hid (own_belowK OA3.out hbb)
  have OI4 := Lib.hid (own_belowK OI3.out hbb)
  have HT4 := Lib.hid (HT3.out.below hbb)
  have hzl := V.out.len
  clear hv ho hbb P3 OB3 OA3 OI3
  have G4 := Lib.hid (GA.out.below (bt B1.out (bt B2.out (bt B3.out B4.out))))
  have S1 := Lib.hid (sameInts_any Aa Aw ca cw Zw.length Zw w4 rfl (by omega) (own_cells OA4.out) (own_cells OW4.out))
  have S2 := Lib.hid (fun q => sameInts_any Ai A ci c n l (w4.drewN q) HN.out (by omega) (own_cells OI4.out) G4.out)
  go_wp2_with fail
  refine S1.out.mono ?_
  rintro e w5 ⟨rfl, q1, rfl⟩
  go_wp2_with fail
  refine (S2.out q1).mono ?_
  rintro e w6 ⟨rfl, q2, hw6⟩
  have B6 := Lib.hid (show Below w4.heap.size w4 w6 from by rw [hw6]; exact below_dr (below_dr (Below.refl _ _) q1) q2)
  have OA6 := Lib.hid (own_belowK OA4.out B6.out)
  have OB6 := Lib.hid (own_belowK OB4.out B6.out)
  have OW6 := Lib.hid (own_belowK OW4.out B6.out)
  have OI6 := Lib.hid (own_belowK OI4.out B6.out)
  have HT6 := Lib.hid (HT4.out.below B6.out)
  clear hw6 S1 S2 OA4 OB4 OW4 OI4 HT4
  have hs12 : w1.heap.size ≤ w2.heap.size := B2.out.size
  have hs23 : w2.heap.size ≤ w3.heap.size := B3.out.size
  have HBA := Lib.hid (bt B1.out (bt B2.out (bt B3.out (bt B4.out B6.out))))
  go_wp2_with fail
  have NI := Lib.hid (fun g (hg : w1.heap.size ≤ g) => show (Value.slice Ai n ci).ownBlock ≠ some g from fun h => by have := (OI.out.lt g h).2; omega)
  have AB := Lib.hid (fun (h0 : 0 < Zw.length) => own_shapeK OA2.out h0)
  clear OI OA2
  go_loopw [12] (fun v12 wr => ∃ (k : Nat), k ≤ Zw.length ∧ v12 = .int .i64 (k : Int) ∧ wr.ownsRow w1.heap.size 3 1 (.slice Aa Zw.length ca) Zw.length (ints (fives k Zw)) ∧ wr.ownsRow w2.heap.size 3 1 (.slice Ab Zw.length cb) Zw.length (ints Zw) ∧ wr.ownsRow w3.heap.size 3 1 (.slice Aw Zw.length cw) Zw.length (ints Zw) ∧ wr.ownsRow w.heap.size 3 1 (.slice Ai n ci) n (ints l) ∧ Below w.heap.size w wr) (fun v12 _ => Zw.length - (RowKit.intOf v12).toNat)
  case atStart => exact ⟨0, by omega, rfl, by simpa [fives] using OA6.out, OB6.out, OW6.out, OI6.out, HBA.out⟩
  case round =>
    clear OA6 OB6 OW6 OI6 HBA HT6
    obtain ⟨k, hk, rfl, ha, hbo, hw, hi, hbl⟩ := hrel
    have OA := Lib.hid ha
    have OB := Lib.hid hbo
    have OW := Lib.hid hw
    have OI := Lib.hid hi
    have BL := Lib.hid hbl
    clear ha hbo hw hi hbl
    by_cases hlt : k < Zw.length
    · have l1 : (0 : Int) ≤ (k : Int) := by omega
      have l2 : (k : Int) < (Zw.length : Int) := by omega
      obtain ⟨ga, rfl, hg1, hg2⟩ := AB.out (by omega)
      have c1 : ∃ u, wr.cell? ⟨ga, k, none⟩ = some u := by
        rw [OA.out.cellAt k (by omega)]
        exact ⟨_, ints_at _ _ (by rw [fives_len _ _ hk]; exact hlt)⟩
      obtain ⟨u, c1⟩ := c1
      have f1 : wr.frozen? ⟨ga, k, none⟩ = false := OA.out.frozenAt k
      have SG := Lib.hid (set_grown wr ⟨ga, k, none⟩ (.int .i64 (-5)))
      have NA := Lib.hid (show (wr.setCell ⟨ga, k, none⟩ (.int .i64 (-5))).ownsRow w1.heap.size 3 1 (.slice (some ⟨ga, 0, none⟩) Zw.length ca) Zw.length (ints (fives (k + 1) Zw)) from by
        have := (OA.out.stored k (.int .i64 (-5))).1
        rwa [ints_set, fives_step _ _ hlt] at this)
      have NB := Lib.hid (own_keptLow OB.out SG.out hg2)
      have NW := Lib.hid (own_keptLow OW.out SG.out (by show ga < _; omega))
      have NII := Lib.hid (own_keptNe OI.out SG.out (NI.out ga hg1))
      have NBL := Lib.hid (BL.out.setCell (p := ⟨ga, k, none⟩) (by show w.heap.size ≤ ga; have := B1.out.size; omega) (.int .i64 (-5)))
      go_wp2_with fail
      go_roundw
      case rel => exact ⟨k + 1, by omega, by go_num, NA.out, NB.out, NW.out, NII.out, NBL.out⟩
      case measure => simp [RowKit.intOf]; omega
    · have zk : ¬ (k : Int) < (Zw.length : Int) := by omega
      have S3 := Lib.hid (sameInts_any Ab Aw cb cw Zw.length Zw wr rfl (by omega) (own_cells OB.out) (own_cells OW.out))
      clear OA
      go_wp2_with fail
      refine S3.out.mono ?_
      rintro e w7 ⟨rfl, q3, hw7⟩
      have B7 := Lib.hid (show Below wr.heap.size wr w7 from by rw [hw7]; exact below_dr (Below.refl _ _) q3)
      have OI7 := Lib.hid (own_belowK OI.out B7.out)
      have BL7 := Lib.hid (bt BL.out B7.out)
      clear hw7 S3 OB OW OI BL B7
      go_wp2_with fail
      go_loopw [13] (fun v13 wy => ∃ (k : Nat), k ≤ n ∧ v13 = .int .i64 (k : Int) ∧ wy.ownsRow w.heap.size 3 1 (.slice Ai n ci) n (ints (twis k l)) ∧ Below w.heap.size w wy) (fun v13 _ => n - (RowKit.intOf v13).toNat)
      case atStart => exact ⟨0, by omega, rfl, by rw [twis_zero]; exact OI7.out, BL7.out⟩
      case round =>
        clear OI7 BL7
        obtain ⟨k, hk, rfl, hi, hbl⟩ := hrel
        have OI := Lib.hid hi
        have BL := Lib.hid hbl
        clear hi hbl
        by_cases hlt : k < n
        · have l1 : (0 : Int) ≤ (k : Int) := by omega
          have l2 : (k : Int) < (n : Int) := by omega
          obtain ⟨gi, hgi, hg1, hg2⟩ := own_shapeK OI.out (by omega)
          subst hgi
          have c1 : wr.cell? ⟨gi, k, none⟩ = some (.int .i64 (l.getD k 0)) := by
            rw [OI.out.cellAt k (by omega), ints_at _ _ (by rw [twis_len _ _ (by rw [← HN.out]; exact hk), ← HN.out]; exact hlt), twis_at _ _ (by rw [← HN.out]; exact hlt)]
          have f1 : wr.frozen? ⟨gi, k, none⟩ = false := OI.out.frozenAt k
          have hbd := twi_bd (l.getD k 0)
          have HTW := Lib.hid (show twi (l.getD k 0) = ((l.getD k 0).tmod 20 + 21).tmod 20 from rfl)
          have NI2 := Lib.hid (show (wr.setCell ⟨gi, k, none⟩ (.int .i64 (twi (l.getD k 0)))).ownsRow w.heap.size 3 1 (.slice (some ⟨gi, 0, none⟩) n ci) n (ints (twis (k + 1) l)) from by
            have := (OI.out.stored k (.int .i64 (twi (l.getD k 0)))).1
            rwa [ints_set, twis_step _ _ (by rw [← HN.out]; exact hlt)] at this)
          have NBL := Lib.hid (BL.out.setCell (p := ⟨gi, k, none⟩) hg1 (.int .i64 (twi (l.getD k 0))))
          generalize twi (l.getD k 0) = y at HTW NI2 NBL
          generalize l.getD k 0 = x at c1 hbd HTW
          have t1 : (x.tmod 20 + 21).tmod 20 = y := HTW.out.symm
          have t2 : (x.tmod 20 + 21) % 20 = y := by rw [HTW.out]; exact (Int.tmod_eq_emod_of_nonneg (a := x.tmod 20 + 21) (by omega)).symm
          go_wp2_with fail
          go_roundw
          case rel => exact ⟨k + 1, by omega, by go_num, NI2.out, NBL.out⟩
          case measure => simp [RowKit.intOf]; omega
        · have zk : ¬ (k : Int) < (n : Int) := by omega
          have HKE := Lib.hid (show k = n by omega)
          obtain ⟨L, hL⟩ : ∃ L, L = twis k l := ⟨_, rfl⟩
          rw [← hL] at OI
          have HLN := Lib.hid (show n = L.length by rw [hL, twis_len _ _ (by rw [← HN.out]; exact hk)]; exact HN.out)
          clear hL
          have HSI := Lib.hid (fun W (hW : Below wr.heap.size wr W) => ((own_cells OI.out).below hW).src (c := ci) (by obtain ⟨A2, c2, hq, hnt, _⟩ := own_srcK OI.out; injection hq with q1 q2 q3; subst q1 q3; exact hnt))
          have H1L := Lib.hid (show ∀ u ∈ ints L, u.oneCell' = true by intro u hu; obtain ⟨x, _, rfl⟩ := List.mem_map.1 hu; rfl)
          go_wp2_with (at_builtin; (refine wpList_append_srcK (o := ⟨some 82, _, _, _, _, _⟩) rfl (.tmp 80) (.tmp 81) 70 rfl wr.heap.size 3 (.int .i64 0) 1 8 (by omega) Tryd.underlying70 info_int rfl _ 0 [] rfl (own_emptyK wr 3 1) Ai n ci (ints L) rfl (HSI.out _ (grows' wr _)) H1L.out (by omega) (by omega) (by simp) ?_); intro v8 w8 ho8 hg8; rw [Nat.zero_add, List.nil_append] at ho8; have hb8 := below_first hg8; obtain ⟨Ac, cc, rfl, _⟩ := own_srcK ho8; have OC := Lib.hid ho8; have B8 := Lib.hid hb8; clear ho8 hg8 hb8)
          have OI8 := Lib.hid (own_belowK OI.out B8.out)
          have P4 := Lib.hid (refOrder_any Ac cc n L (!down) w8 HLN.out (by omega) (own_cells OC.out))
          unfold OrdP at P4
          refine P4.out.mono ?_
          rintro e w9 ⟨Aw, cw, Zx, ex, rfl, hv, ho, hbb⟩
          have V4 := Lib.hid hv
          have OW9 := Lib.hid ho
          have B9 := Lib.hid hbb
          have OI9 := Lib.hid (own_belowK OI8.out hbb)
          have BL9 := Lib.hid (bt BL.out (bt B8.out hbb))
          have P5 := Lib.hid (order_any Ai ci n L (!down) w9 (HT.out.below (bt BL.out (bt B8.out hbb))) HLN.out (by omega) (own_cells OI9.out))
          unfold OrdP at P5
          clear hv ho hbb P4
          go_wp2_with fail
          refine P5.out.mono ?_
          rintro e w10 ⟨Ay, cy, Zy, ey, rfl, hv, ho, hbb⟩
          obtain ⟨rfl, rfl⟩ := V4.out.same hv
          have S4 := Lib.hid (sameInts_any Ay Aw cy cw Zy.length Zy w10 rfl (by have := hv.len; omega) (own_cells ho) (own_cells (own_belowK OW9.out hbb)))
          have BL10 := Lib.hid (bt BL9.out hbb)
          clear hv ho hbb P5
          go_wp2_with fail
          refine S4.out.mono ?_
          rintro e w11 ⟨rfl, q5, hw11⟩
          have BL11 := Lib.hid (show Below w.heap.size w w11 from by rw [hw11]; exact below_dr BL10.out q5)
          clear hw11
          go_wp2_with fail
          go_ret
          exact ⟨rfl, BL11.out⟩
end Go.Proofs.YtjffemeeomogaaaDoor.Bu
