/- The law RadioAsks (P12.1, P12.2). -/
import Derived.Test.YtinocgngjhomcaaDoorRbH
import Derived.Test.YtinocgngjhomcaaDoorRhC
import Derived.Test.YtinocgngjhomcaaDoorRhD
import Derived.Test.YtinocgngjhomcaaDoorChC
import Derived.Deep.CutBlock
import Derived.Deep.DeepCutAuto
namespace Go.Proofs.YtinocgngjhomcaaDoor.Rq
open Go.ChangeShapes Go.WideShapes Go.ChangeAt Go.RowKit Own Ro Ra Rh Kc

/-- What Hops answer at any number. -/
def hopK (n : Int) : Nat := if 0 ≤ n ∧ n ≤ 4096 then n.toNat else 0
def hopE (n : Int) : Int := if 0 ≤ n ∧ n ≤ 4096 then 0 else 1
def hopF (s : Nat) (n : Int) : List Nat := if 0 ≤ n ∧ n ≤ 4096 then hopN (seedN s) n.toNat else []
theorem hopF_len (s : Nat) (n : Int) : (hopF s n).length = hopK n := by
  unfold hopF hopK
  split
  · rename_i h
    exact hopN_len _ _ (by omega)
  · rfl
theorem hopK_le (n : Int) : hopK n ≤ 4096 := by unfold hopK; split <;> omega
def HopsOut (s : Nat) (n : Int) (w : World) (e : Ending) (w' : World) : Prop := (∃ A c, e = .returned (.tuple #[.slice A (hopK n) c, .int .i64 (hopE n)]) ∧ w'.ownsRow w.heap.size 3 1 (.slice A (hopK n) c) (hopK n) (rowV (hopF s n))) ∧ Below w.heap.size w w'
theorem hopsP_any (s : Nat) (n : Int) (hs : s < 18446744073709551616) (w : World) : Calls Tryd.prog 15 #[.int .u64 s, .int .i64 n] w (HopsOut s n w) := by
  by_cases h : 0 ≤ n ∧ n ≤ 4096
  · obtain ⟨m, rfl⟩ : ∃ m : Nat, n = (m : Int) := ⟨n.toNat, by omega⟩
    refine (hops_ok s m hs (by omega) w).mono ?_
    rintro e w' ⟨⟨A, c, he, ho⟩, hb⟩
    unfold HopsOut hopK hopE hopF
    rw [if_pos h, if_pos h, if_pos h, Int.toNat_natCast]
    exact ⟨⟨A, c, he, ho⟩, hb⟩
  · refine (hops_bad s n w (by omega)).mono ?_
    rintro e w' ⟨he, rfl⟩
    unfold HopsOut hopK hopE hopF
    rw [if_neg h, if_neg h, if_neg h]
    exact ⟨⟨none, 0, he, own_nil _ _ _⟩, Below.refl _ _⟩
theorem hopsR_any (s : Nat) (n : Int) (hs : s < 18446744073709551616) (w : World) : Calls Tryd.prog 16 #[.int .u64 s, .int .i64 n] w (HopsOut s n w) := by
  by_cases h : 0 ≤ n ∧ n ≤ 4096
  · obtain ⟨m, rfl⟩ : ∃ m : Nat, n = (m : Int) := ⟨n.toNat, by omega⟩
    refine (refHops_ok s m hs (by omega) w).mono ?_
    rintro e w' ⟨⟨A, c, he, ho⟩, hb⟩
    unfold HopsOut hopK hopE hopF
    rw [if_pos h, if_pos h, if_pos h, Int.toNat_natCast]
    exact ⟨⟨A, c, he, ho⟩, hb⟩
  · refine (refHops_bad s n w (by omega)).mono ?_
    rintro e w' ⟨he, rfl⟩
    unfold HopsOut hopK hopE hopF
    rw [if_neg h, if_neg h, if_neg h]
    exact ⟨⟨none, 0, he, own_nil _ _ _⟩, Below.refl _ _⟩
def boxC (i hz : Int) (sp sd : Nat) (n : Int) : Array Value := #[.int .i64 i, .int .i64 hz, .float .f64 sp, .int .u64 sd, .int .i64 n]
/-- The five cells of what is asked. -/
structure Five (i hz : Int) (sp sd : Nat) (n : Int) (b : Nat) (w : World) : Prop where
  c0 : w.cell? ⟨b, 0, none⟩ = some (.int .i64 i)
  c1 : w.cell? ⟨b, 1, none⟩ = some (.int .i64 hz)
  c2 : w.cell? ⟨b, 2, none⟩ = some (.float .f64 sp)
  c3 : w.cell? ⟨b, 3, none⟩ = some (.int .u64 sd)
  c4 : w.cell? ⟨b, 4, none⟩ = some (.int .i64 n)
theorem Five.below {i hz : Int} {sp sd : Nat} {n : Int} {b : Nat} {w w' : World} (h : Five i hz sp sd n b w) (hb : Below w.heap.size w w') : Five i hz sp sd n b w' :=
  ⟨by rw [hb.cell (cell_lt h.c0)]; exact h.c0, by rw [hb.cell (cell_lt h.c1)]; exact h.c1, by rw [hb.cell (cell_lt h.c2)]; exact h.c2, by rw [hb.cell (cell_lt h.c3)]; exact h.c3, by rw [hb.cell (cell_lt h.c4)]; exact h.c4⟩
theorem Five.new (i hz : Int) (sp sd : Nat) (n : Int) (w : World) (t : TypeId) : Five i hz sp sd n w.heap.size (w.alloc (.cells (boxC i hz sp sd n) t)) := by
  constructor <;> (rw [World.cell?_alloc_at _ _ _ _ rfl]; rfl)
set_option maxRecDepth 100000 in
set_option maxHeartbeats 16000000 in
theorem asks_any (i hz : Int) (sp sd : Nat) (n : Int) (hz1 : hz ≤ 9223372036854775807) (hs : sd < 18446744073709551616) (w : World) (hE : Tb w) :
    Calls Tryd.prog 3 #[.agg #[.int .i64 i, .int .i64 hz, .float .f64 sp, .int .u64 sd, .int .i64 n]] w (fun e w' => e = .returned (.bool true) ∧ Below w.heap.size w w') := by
  have HT := Lib.hid hE
  have P1 := Lib.hid (fun V (h : Tb V) => hertz_any i V h)
  have P2 := Lib.hid (fun V => refHertz_any i V)
  have P3 := Lib.hid (fun V (h : Tb V) => near_any hz V h hz1)
  have P4 := Lib.hid (fun V => refNear_any hz V hz1)
  have P5 := Lib.hid (fun V (h : Tb V) => shift_any i sp V h)
  have P6 := Lib.hid (fun V => refShift_any i sp V)
  have P7 := Lib.hid (fun V => hopsP_any sd n hs V)
  have P8 := Lib.hid (fun V => hopsR_any sd n hs V)
  have HL := Lib.hid (And.intro (hopF_len sd n) (hopK_le n))
  generalize herV i = hv at P1 P2
  generalize neaV hz = nv at P3 P4
  generalize shiV i sp = sv at P5 P6
  clear hE hz1 hs
  go_enter Tryd.func3, Tryd.ntmps3
  have F0 := Lib.hid (Five.new i hz sp sd n w 25)
  have B0 := Lib.hid (grows' w (.cells (boxC i hz sp sd n) 25))
  have T0 := Lib.hid (HT.out.alloc (.cells (boxC i hz sp sd n) 25))
  unfold boxC at F0 B0 T0
  obtain ⟨W0, hW0⟩ : ∃ W0, w.alloc (.cells #[.int .i64 i, .int .i64 hz, .float .f64 sp, .int .u64 sd, .int .i64 n] 25) = W0 := ⟨_, rfl⟩
  rw [hW0] at F0 B0 T0
  obtain ⟨b, hb⟩ : ∃ b, w.heap.size = b := ⟨_, rfl⟩
  rw [hb] at F0
  have BB := Lib.hid hb
  go_upto_region 1 with fail
  skip
  have HT0 := Lib.hid HT.out
  clear hW0 hb HT
  obtain ⟨c0, c1, c2, c3, c4⟩ := F0.out
  go_wp2_with fail
  refine (P1.out W0 T0.out).mono ?_
  rintro e w9 ⟨rfl, hw⟩
  rw [hw]
  clear hw w9
  go_wp2_with fail
  refine (P2.out W0).mono ?_
  rintro e w1 ⟨rfl, hb⟩
  have F1 := Lib.hid (F0.out.below hb)
  have B1 := Lib.hid (bt B0.out hb)
  have T1 := Lib.hid (T0.out.below hb)
  clear hb F0 B0 T0 c0 c1 c2 c3 c4 P1 P2
  obtain ⟨c0, c1, c2, c3, c4⟩ := F1.out
  go_wp2_with fail
  refine (P3.out w1 T1.out).mono ?_
  rintro e w9 ⟨rfl, hw⟩
  rw [hw]
  clear hw w9
  go_wp2_with fail
  refine (P4.out w1).mono ?_
  rintro e w2 ⟨rfl, hb⟩
  have F2 := Lib.hid (F1.out.below hb)
  have B2 := Lib.hid (bt B1.out hb)
  have T2 := Lib.hid (T1.out.below hb)
  clear hb F1 B1 T1 c0 c1 c2 c3 c4 P3 P4
  obtain ⟨c0, c1, c2, c3, c4⟩ := F2.out
  go_wp2_with fail
  refine (P5.out w2 T2.out).mono ?_
  rintro e w9 ⟨rfl, hw⟩
  rw [hw]
  clear hw w9
  go_wp2_with fail
  refine (P6.out w2).mono ?_
  rintro e w3 ⟨rfl, hb⟩
  have F3 := Lib.hid (F2.out.below hb)
  have B3 := Lib.hid (bt B2.out hb)
  have T3 := Lib.hid (T2.out.below hb)
  clear hb F2 B2 T2 c0 c1 c2 c3 c4 P5 P6
  obtain ⟨c0, c1, c2, c3, c4⟩ := F3.out
  go_wp2_with fail
  refine (P7.out w3).mono ?_
  rintro e w4 ⟨⟨A1, ca1, rfl, ho⟩, hb⟩
  have hs3 : w.heap.size ≤ w3.heap.size := B3.out.size
  have O1 := Lib.hid ho
  have hs4 : w3.heap.size ≤ w4.heap.size := hb.size
  have F4 := Lib.hid (F3.out.below hb)
  have B4 := Lib.hid (bt B3.out hb)
  have T4 := Lib.hid (T3.out.below hb)
  clear hb ho F3 B3 T3 c0 c1 c2 c3 c4
  obtain ⟨c0, c1, c2, c3, c4⟩ := F4.out
  go_wp2_with fail
  refine (P8.out w4).mono ?_
  rintro e w5 ⟨⟨A2, ca2, rfl, ho⟩, hb⟩
  have O2 := Lib.hid ho
  have hs5 : w4.heap.size ≤ w5.heap.size := hb.size
  have GG1 := Lib.hid (fun g h => O1.out.lt g h)
  have O1' := Lib.hid (own_belowK O1.out hb)
  have F5 := Lib.hid (F4.out.below hb)
  have B5 := Lib.hid (bt B4.out hb)
  have T5 := Lib.hid (T4.out.below hb)
  clear hb ho F4 B4 T4 c0 c1 c2 c3 c4 O1 P8
  obtain ⟨c0, c1, c2, c3, c4⟩ := F5.out
  go_wp2_with fail
  refine (P7.out w5).mono ?_
  rintro e w6 ⟨⟨A3, ca3, rfl, ho⟩, hb⟩
  have O3 := Lib.hid ho
  have hs6 : w5.heap.size ≤ w6.heap.size := hb.size
  have Q1 := Lib.hid (own_belowK O1'.out hb)
  have GG2 := Lib.hid (fun g h => O2.out.lt g h)
  have Q2 := Lib.hid (own_belowK O2.out hb)
  have B6 := Lib.hid (bt B5.out hb)
  have T6 := Lib.hid (T5.out.below hb)
  clear hb ho F5 B5 T5 c0 c1 c2 c3 c4 O1' O2 P7
  clear T6
  have HG1 := GG1
  have HG2 := GG2
  have HG3 := Lib.hid (fun g h => O3.out.lt g h)
  obtain ⟨lo, hlo⟩ : ∃ lo, w3.heap.size = lo := ⟨_, rfl⟩
  obtain ⟨hi, hhi⟩ : ∃ hi, w4.heap.size = hi := ⟨_, rfl⟩
  obtain ⟨h5, hh5⟩ : ∃ h5, w5.heap.size = h5 := ⟨_, rfl⟩
  rw [hlo] at HG1 Q1 hs3 hs4
  rw [hhi] at HG1 HG2 Q2 hs4 hs5
  rw [hh5] at HG2 HG3 O3 hs5 hs6
  clear hlo hhi hh5
  generalize hopE n = he
  generalize hopF sd n = L at HL Q1 Q2 O3
  generalize hopK n = K at HL Q1 Q2 O3 HG1 HG2 HG3 ⊢
  have HSS := Lib.hid (show w.heap.size ≤ lo ∧ lo ≤ hi ∧ hi ≤ h5 ∧ h5 ≤ w6.heap.size from ⟨hs3, hs4, hs5, hs6⟩)
  have HKL := Lib.hid (show K ≤ 4096 from HL.out.2)
  have HI := Lib.hid (ints_any L A1 A2 K ca1 ca2 w6 (by have := HL.out.2; omega) (fun j hj => own_at Q1.out HL.out.1 j hj) (fun j hj => own_at Q2.out HL.out.1 j hj))
  have BI := bits_any sv.1 w6
  replace BI := Lib.hid BI
  clear hs3 hs4 hs5 hs6
  go_wp2_with fail
  refine BI.out.mono ?_
  rintro e w9 ⟨rfl, hw⟩
  rw [hw]
  clear hw w9 BI
  go_wp2_with fail
  refine HI.out.mono ?_
  rintro e w7 ⟨rfl, q, rfl⟩
  clear HI
  go_wp2_with fail
  go_loopw [17] (fun v17 wr => ∃ (k : Nat) (xs : List Value), k ≤ K ∧ v17 = .int .i64 (k : Int) ∧ Kp lo hi w6 wr ∧ wr.ownsRow lo 3 1 (.slice A1 K ca1) K xs) (fun v17 _ => K - (RowKit.intOf v17).toNat)
  case atStart => exact ⟨0, _, by omega, rfl, (Kp.refl _).below (below_dr (Below.refl _ _) q), own_belowK Q1.out (below_dr (Below.refl _ _) q)⟩
  case round =>
    clear Q1
    obtain ⟨k, xs, hk, rfl, hkp, ho⟩ := hrel
    have HK := Lib.hid hkp
    have HO := Lib.hid ho
    clear hkp ho
    by_cases hlt : k < K
    · have l1 : (0 : Int) ≤ (k : Int) := by omega
      have l2 : (k : Int) < (K : Int) := by omega
      have hKz : (K : Int) ≤ 4096 := by have := HKL.out; omega
      obtain ⟨g1, rfl, hg1, hg2⟩ := own_shapeK HO.out (by omega)
      obtain ⟨u, hu⟩ : ∃ u, xs[k]? = some u := ⟨_, List.getElem?_eq_getElem (by rw [HO.out.1]; omega)⟩
      have c0 : wr.cell? ⟨g1, k, none⟩ = some u := by rw [HO.out.cellAt k (by omega)]; exact hu
      have z0 := HO.out.frozenAt k
      have NK := Lib.hid (HK.out.setCell (p := ⟨g1, k, none⟩) (.inl (HG1.out g1 rfl)) (.int .i64 (-1)))
      have NO := Lib.hid (HO.out.stored k (.int .i64 (-1))).1
      have HAR := Lib.hid hlt
      clear HK HO hu hg1 hg2 hlt hk
      go_wp2_with fail
      go_roundw
      case rel => exact ⟨k + 1, _, by have := HAR.out; omega, by first | rfl | go_num, NK.out, NO.out⟩
      case measure => simp [RowKit.intOf]; have := HAR.out; omega
    · have hge : decide ((k : Int) < (K : Int)) = false := decide_eq_false (by omega)
      have hge2 : ¬ (k : Int) < (K : Int) := by omega
      clear hlt hk
      go_wp2_with fail
      clear hge hge2
      generalize (k : Int) = iv
      go_loopw [13, 18] (fun v13 v18 wy => ∃ (k : Nat) (zs : List Value), k ≤ 30 ∧ v18 = .int .i64 (k : Int) ∧ Kp lo hi w6 wy ∧ (∃ sa sc, v13 = .slice sa (K + k) sc ∧ wy.ownsRow lo 3 1 (.slice sa (K + k) sc) (K + k) zs ∧ ∀ g, (Value.slice sa (K + k) sc).ownBlock = some g → (lo ≤ g ∧ g < hi) ∨ w6.heap.size ≤ g)) (fun _ v18 _ => 30 - (RowKit.intOf v18).toNat)
      case atStart => exact ⟨0, xs, by omega, rfl, HK.out, _, _, rfl, HO.out, fun g h => .inl (HG1.out g h)⟩
      case round =>
        clear HK HO
        obtain ⟨k, zs, hk, rfl, hk1, sa, sc, rfl, hk4, hk5⟩ := hrel
        have Y1 := Lib.hid hk1
        have Y4 := Lib.hid hk4
        have Y5 := Lib.hid hk5
        have hsz : w6.heap.size ≤ wr.heap.size := hk1.size
        clear hk1 hk4 hk5
        by_cases hlk : k < 30
        · have k1 : (0 : Int) ≤ (k : Int) := by omega
          have k2 : (k : Int) < 30 := by omega
          have hb1 := HSS.out
          have hb2 := HKL.out
          go_wp2_with (at_builtin; go_must (refine wpList_append_apartK (o := ⟨some 136, _, _, _, _, _⟩) rfl (.tmp 134) (.tmp 135) 33 rfl lo 3 (.int .i64 0) 1 8 (by omega) Tryd.underlying33 info_int rfl _ (K + k) zs rfl (own_belowK Y4.out (grows' wr _)) ⟨wr.heap.size, 0, none⟩ 1 1 [.int .i64 (-2)] rfl (by omega) rfl (fun j u hu => by rw [Ro.add_plain, World.cell?_alloc_at _ _ _ _ rfl, Nat.zero_add]; simpa using hu) (by intro u hu; simp at hu; subst hu; rfl) (by omega) (by omega) (by simp; omega) ?_); intro v' w' ho hg hf)
          go_roundw
          case rel =>
            obtain ⟨sa', sc', rfl, _, _⟩ := own_srcK ho
            refine ⟨k + 1, _, by omega, by go_num, (Y1.out.below (grows' wr _)).grown hg (fun g h => Y5.out g h), sa', sc', rfl, ho, fun g h => ?_⟩
            rcases hf with h3 | h3
            · exact Y5.out g (h3.symm.trans h)
            · have := h3 g h
              exact .inr (by simp at this; omega)
          case measure => simp [RowKit.intOf]; omega
        · have hge : decide ((k : Int) < 30) = false := decide_eq_false (by omega)
          have hge2 : ¬ (k : Int) < 30 := by omega
          have S2 := Lib.hid (own_kp Q2.out Y1.out (fun g h => .inr (HG2.out g h).1))
          have S3 := Lib.hid (own_kp O3.out Y1.out (fun g h => .inr (by have := (HG3.out g h).1; have := HSS.out; omega)))
          have HI := Lib.hid (ints_any L A3 A2 K ca3 ca2 wr (by have := HKL.out; omega) (fun j hj => own_at S3.out HL.out.1 j hj) (fun j hj => own_at S2.out HL.out.1 j hj))
          have BZ := Lib.hid (Y1.out.low B6.out (by have := HSS.out; omega) (by have := HSS.out; omega))
          clear Y4 Y5 hlk hk S2 S3 Q2 O3
          go_wp2_with fail
          refine HI.out.mono ?_
          rintro e w7 ⟨rfl, q, rfl⟩
          go_wp2_with fail
          refine (Ra.awake_any _ ((HT0.out.below BZ.out).below (below_dr (Below.refl _ _) q))).mono ?_
          rintro e w9 ⟨rfl, hw⟩
          rw [hw]
          clear hw w9
          go_wp2_with fail
          go_ret
          exact ⟨rfl, below_dr BZ.out _⟩
end Go.Proofs.YtinocgngjhomcaaDoor.Rq
