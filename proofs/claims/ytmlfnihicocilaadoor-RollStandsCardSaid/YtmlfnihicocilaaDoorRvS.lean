/- What is asked of the roll, and the document's answers: the law RollAsks. -/
import Derived.Test.YtmlfnihicocilaaDoorRvN
namespace Go.Proofs.YtmlfnihicocilaaDoor.Kq
open Go.ChangeShapes Go.WideShapes Go.ChangeAt Go.RowKit Own Ro wordsNames Kc
open Ka (i64s i64s_len i64s_at)
open Rm (Fams T5 table_ok table_none)

set_option maxRecDepth 100000 in
set_option maxHeartbeats 8000000 in
theorem same64_any (A B : Option Addr) (c d n : Nat) (l : List Int) (w : World) (hn : n = l.length) (hm : n ≤ 9223372036854775807) (hA : CellsIn w 1 A n (i64s l)) (hB : CellsIn w 1 B n (i64s l)) :
    Calls Tryd.prog 19 #[.slice A n c, .slice B n d] w fun e w' => e = .returned (.bool true) ∧ Below w.heap.size w w' := by
  have GA := Lib.hid hA
  have GB := Lib.hid hB
  have HN := Lib.hid hn
  clear hA hB hn
  go_enter Tryd.func19, Tryd.ntmps19
  go_wp2_with fail
  go_loopw [5] (fun i wr => ∃ k : Nat, k ≤ n ∧ i = .int .i64 (k : Int) ∧ ∃ q, wr = w.drewN q) (fun i _ => n - (RowKit.intOf i).toNat)
  case atStart => exact ⟨0, Nat.zero_le _, rfl, 0, rfl⟩
  case round =>
    obtain ⟨k, hk, rfl, q, rfl⟩ := hrel
    by_cases hlt : k < n
    · have l1 : (0 : Int) ≤ (k : Int) := by omega
      have l2 : (k : Int) < (n : Int) := by omega
      obtain ⟨b, o, rfl, _, hc1⟩ := GA.out.at (by omega)
      obtain ⟨b2, o2, rfl, _, hc2⟩ := GB.out.at (by omega)
      have e1 := hc1 k _ (i64s_at l k (by rw [← HN.out]; exact hlt))
      have e2 := hc2 k _ (i64s_at l k (by rw [← HN.out]; exact hlt))
      generalize l.getD k 0 = x at e1 e2
      clear hc1 hc2
      go_wp2_with fail
      go_quiet (fail)
      go_wp2_with fail
      go_roundw
      case rel => exact ⟨k + 1, by omega, by go_num, ⟨_, rfl⟩⟩
      case measure => simp [RowKit.intOf]; omega
    · have HK := Lib.hid (show k = n by omega)
      have zk : ¬ (k : Int) < (n : Int) := by omega
      go_wp2_with fail
      go_ret
      exact ⟨rfl, below_dr (Below.refl _ _) q⟩
theorem found_one {nm : List UInt8} {d d' : Cd} {er er' : Int} (h : FindRel nm d er) (h' : FindRel nm d' er') : d = d' ∧ er = er' := by
  rcases h with ⟨m, n, rfl⟩ | ⟨m, rfl, rfl⟩ <;> rcases h' with ⟨m', n', rfl⟩ | ⟨m', rfl, rfl⟩
  · obtain ⟨i, hi, rfl⟩ := SL_at m
    obtain ⟨j, hj, rfl⟩ := SL_at m'
    obtain rfl := SLd i hi j hj (n.trans n'.symm)
    exact ⟨rfl, rfl⟩
  · exact absurd n (m' d m)
  · exact absurd n' (m d' m')
  · exact ⟨rfl, rfl⟩
theorem mild_big {d : Cd} (h : MildC 63 d) : MildC 1099511627776 d := ⟨Nat.le_trans h.1 (by decide), Nat.le_trans h.2.1 (by decide), Nat.le_trans h.2.2.1 (by decide), Nat.le_trans h.2.2.2.1 (by decide), fun k => Nat.le_trans (h.2.2.2.2 k) (by decide)⟩
theorem mild_found {nm : List UInt8} {d : Cd} {er : Int} (h : FindRel nm d er) : MildC 1099511627776 d := by
  rcases h with ⟨m, _, _⟩ | ⟨_, rfl, _⟩
  · obtain ⟨i, hi, rfl⟩ := SL_at m
    exact mild_big (mild_SL i)
  · exact mild_zero _
theorem mild_of (nm : List UInt8) : MildL 1099511627776 (ofL nm) := by
  have h22 : (ofL nm).length ≤ 22 := by
    unfold ofL
    split
    · simp only [pkL, List.length_map]; exact ofJ_le nm 22
    · exact Nat.zero_le _
  refine ⟨Nat.le_trans h22 (by decide), fun k => ?_⟩
  by_cases hk : k < (ofL nm).length
  · have e : (ofL nm).getD k cd0 = SL.getD ((ofJ nm 22).getD k 0) cd0 := by
      unfold ofL at hk ⊢
      split at hk
      · next h => rw [if_pos h]; exact pkL_at _ _ _ (by simpa [pkL] using hk)
      · exact absurd hk (Nat.not_lt_zero k)
    rw [e]
    exact mild_big (mild_SL _)
  · rw [List.getD_eq_getElem?_getD, List.getElem?_eq_none (by omega)]
    exact mild_zero _
/-- A card in a box. -/
def BoxC (bx : Nat) (d : Cd) (r : Sl) (W : World) : Prop := bx < W.heap.size ∧ ∀ j u, (cells7 d r)[j]? = some u → W.cell? ⟨bx, j, none⟩ = some u
theorem boxC_new (w : World) (d : Cd) (r : Sl) : BoxC w.heap.size d r (w.alloc (.cells (cells7 d r) 27)) := ⟨by simp, fun j u hu => by
  rw [World.cell?_alloc_at _ _ _ _ rfl]
  exact hu⟩
theorem BoxC.below {bx : Nat} {d : Cd} {r : Sl} {W W' : World} (h : BoxC bx d r W) (hb : Below W.heap.size W W') : BoxC bx d r W' := ⟨Nat.lt_of_lt_of_le h.1 hb.size, fun j u hu => (hb.cell (p := ⟨bx, j, none⟩) h.1).trans (h.2 j u hu)⟩
def TablePost (nm : List UInt8) (w : World) (e : Ending) (w' : World) : Prop := ∃ A c, e = .returned (.tuple #[.slice A (lookT (tabsI 5) nm).length c, .int .i64 (if lookT (tabsI 5) nm = [] then 6 else 0)]) ∧ CellsIn w' 1 A (lookT (tabsI 5) nm).length (i64s (lookT (tabsI 5) nm)) ∧ Below w.heap.size w w'
theorem rTable_any (nm : List UInt8) (w : World) (h : T5 w) (hs : nm.length ≤ maxLen) : Calls Tryd.prog 15 #[.string (str nm)] w (TablePost nm w) := by
  by_cases hm : nm ∈ Fams
  · obtain ⟨f, n, T, hf, hn⟩ := fam_found nm hm
    have h1 : nm.length ≤ 1000 := by
      have : ∀ x ∈ Fams, x.length ≤ 1000 := by decide
      exact this nm hm
    refine (table_ok hf w h h1).mono ?_
    rintro e w' ⟨g, rfl, hg, hh, hb⟩
    refine ⟨some ⟨g, 0, none⟩, n, ?_, ⟨by rw [i64s_len]; omega, .inr ⟨g, 0, rfl, (Array.getElem?_eq_some_iff.1 hh).1, fun j u hu => ?_⟩⟩, hb⟩
    · rw [if_neg (fun h => (look_fams nm).1 h hm), ← hn]
    · rw [Nat.zero_add, Lib.cell_of_heap hh j, List.getElem?_toArray]
      exact hu
  · refine (table_none nm w hm hs).mono ?_
    rintro e w' ⟨rfl, hb⟩
    have h0 := (look_fams nm).2 hm
    refine ⟨none, 0, by rw [if_pos h0, h0]; rfl, ⟨?_, .inl ?_⟩, hb⟩
    · rw [h0]; rfl
    · rw [h0]; rfl
set_option maxRecDepth 100000 in
set_option maxHeartbeats 8000000 in
theorem asks_any (nm : List UInt8) (w : World) (ht5 : T5 w) (hs : nm.length ≤ maxLen) : Calls Tryd.prog 5 #[.string (str nm)] w (fun e w' => e = .returned (.bool true) ∧ Below w.heap.size w w') := by
  have H1 := Lib.hid (fun W => rFind_any nm W)
  have H2 := Lib.hid (fun W => refFind_any nm W)
  have H3 := Lib.hid (fun W => rOf_any nm W)
  have H4 := Lib.hid (fun W => refOf_any nm W)
  have H5 := Lib.hid (fun W (h : Below w.heap.size w W) => rTable_any nm W (ht5.below h) hs)
  have H6 := Lib.hid (fun W => refNums_any nm W)
  have H7 := Lib.hid (fun W (h : Below w.heap.size w W) => rEntry_any nm W (ht5.below h))
  have H8 := Lib.hid (fun W => refEntry_any nm W)
  clear ht5 hs
  unfold OfPost at H3 H4
  unfold TablePost at H5
  unfold NumsPost at H6
  generalize str nm = X at H1 H2 H3 H4 H5 H6 H7 H8 ⊢
  generalize (if nm ∈ Fams then (0 : Int) else 6) = eo at H3 H4
  generalize (if lookT (tabsI 5) nm = [] then (6 : Int) else 0) = et at H5 H6
  go_enter Tryd.func5, Tryd.ntmps5
  go_wp2_with fail
  refine (H1.out _).mono ?_
  rintro e w1 ⟨d, ⟨ra, rn, rc⟩, er, rfl, hrel, hlen, ⟨_, _, hown⟩, hb1⟩
  have HREL := Lib.hid hrel
  have HLEN := Lib.hid hlen
  have HSRC := Lib.hid (own_cells hown)
  have HB1 := Lib.hid hb1
  clear hrel hlen hown hb1 H1
  unfold cardV cells7
  simp only [slV]
  go_wp2_with fail
  have G1 := Lib.hid (grows' w1 (.cells (cells7 d (ra, rn, rc)) 27))
  have N1 := Lib.hid (boxC_new w1 d (ra, rn, rc))
  unfold cells7 at G1 N1
  simp only [slV] at G1 N1
  refine (H2.out _).mono ?_
  rintro e w2 ⟨d', ⟨qa, qn, qc⟩, er', rfl, hrel', hlen', hown', hb2⟩
  obtain ⟨rfl, rfl⟩ := found_one HREL.out hrel'
  have HLEN2 := Lib.hid hlen'
  have K1 := Lib.hid (N1.out.below hb2)
  have S1 := Lib.hid ((HSRC.out.below G1.out).below hb2)
  have S2 := Lib.hid (own_cells hown')
  have B2 := Lib.hid (bt HB1.out (bt G1.out hb2))
  clear hrel' hlen' hown' hb2 G1 N1 HSRC HB1 H2
  unfold cardV cells7
  simp only [slV]
  go_wp2_with fail
  have G2 := Lib.hid (grows' w2 (.cells (cells7 d (qa, qn, qc)) 27))
  have N2 := Lib.hid (boxC_new w2 d (qa, qn, qc))
  unfold cells7 at G2 N2
  simp only [slV] at G2 N2
  refine (H3.out _).mono ?_
  rintro e w3 ⟨A3, c3, R3, rfl, hr3, hb3⟩
  have L1 := Lib.hid ((K1.out.below G2.out).below hb3)
  have L2 := Lib.hid (N2.out.below hb3)
  have T1 := Lib.hid ((S1.out.below G2.out).below hb3)
  have T2 := Lib.hid ((S2.out.below G2.out).below hb3)
  have B3 := Lib.hid (bt B2.out (bt G2.out hb3))
  have R3' := Lib.hid hr3
  clear hr3 hb3 G2 N2 K1 S1 S2 B2 H3
  go_wp2_with fail
  refine (H4.out _).mono ?_
  rintro e w4 ⟨A4, c4, R4, rfl, hr4, hb4⟩
  have M1 := Lib.hid (L1.out.below hb4)
  have M2 := Lib.hid (L2.out.below hb4)
  have B4 := Lib.hid (bt B3.out hb4)
  have Q3 := Lib.hid (R3'.out.below hb4)
  have Q4 := Lib.hid hr4
  have HSM := Lib.hid (refSame_any d d (ra, rn, rc) (qa, qn, qc) true w4 (by simp) (mild_found HREL.out) (mild_found HREL.out) HLEN.out HLEN2.out (T1.out.below hb4) (T2.out.below hb4))
  unfold cardV cells7 at HSM
  simp only [slV] at HSM
  have e0 : w4.cell? ⟨w1.heap.size, 0, none⟩ = some (.string (str d.name)) := M1.out.2 0 _ rfl
  have e1 : w4.cell? ⟨w1.heap.size, 1, none⟩ = some (.string (str d.fam)) := M1.out.2 1 _ rfl
  have e2 : w4.cell? ⟨w1.heap.size, 2, none⟩ = some (.int .u8 d.level) := M1.out.2 2 _ rfl
  have e3 : w4.cell? ⟨w1.heap.size, 3, none⟩ = some (.slice ra rn rc) := M1.out.2 3 _ rfl
  have e4 : w4.cell? ⟨w1.heap.size, 4, none⟩ = some (.int .i8 d.score) := M1.out.2 4 _ rfl
  have e5 : w4.cell? ⟨w1.heap.size, 5, none⟩ = some (.string (str d.quirk)) := M1.out.2 5 _ rfl
  have e6 : w4.cell? ⟨w1.heap.size, 6, none⟩ = some (.int .i16 d.entry) := M1.out.2 6 _ rfl
  have f0 : w4.cell? ⟨w2.heap.size, 0, none⟩ = some (.string (str d.name)) := M2.out.2 0 _ rfl
  have f1 : w4.cell? ⟨w2.heap.size, 1, none⟩ = some (.string (str d.fam)) := M2.out.2 1 _ rfl
  have f2 : w4.cell? ⟨w2.heap.size, 2, none⟩ = some (.int .u8 d.level) := M2.out.2 2 _ rfl
  have f3 : w4.cell? ⟨w2.heap.size, 3, none⟩ = some (.slice qa qn qc) := M2.out.2 3 _ rfl
  have f4 : w4.cell? ⟨w2.heap.size, 4, none⟩ = some (.int .i8 d.score) := M2.out.2 4 _ rfl
  have f5 : w4.cell? ⟨w2.heap.size, 5, none⟩ = some (.string (str d.quirk)) := M2.out.2 5 _ rfl
  have f6 : w4.cell? ⟨w2.heap.size, 6, none⟩ = some (.int .i16 d.entry) := M2.out.2 6 _ rfl
  clear hr4 hb4 L1 L2 M1 M2 T1 T2 B3 R3' HLEN HLEN2 H4
  go_wp2_with fail
  refine HSM.out.mono ?_
  rintro e w5 ⟨rfl, hb5⟩
  have B5 := Lib.hid (bt B4.out hb5)
  have HSA := Lib.hid (sameAll_any A3 A4 c3 (ofL nm).length c4 (ofL nm).length (ofL nm) (ofL nm) R3 R4 true w5 (by simp) (mild_of nm) (mild_of nm) (Q3.out.below hb5) (Q4.out.below hb5))
  clear e0 e1 e2 e3 e4 e5 e6 f0 f1 f2 f3 f4 f5 f6 hb5 B4 Q3 Q4 HSM
  go_wp2_with fail
  refine HSA.out.mono ?_
  rintro e w6 ⟨rfl, hb6⟩
  have B6 := Lib.hid (bt B5.out hb6)
  clear hb6 B5 HSA
  go_wp2_with fail
  refine (H5.out _ B6.out).mono ?_
  rintro e w7 ⟨A7, c7, rfl, hc7, hb7⟩
  have B7 := Lib.hid (bt B6.out hb7)
  have C7 := Lib.hid hc7
  clear hb7 hc7 B6 H5
  go_wp2_with fail
  refine (H6.out _).mono ?_
  rintro e w8 ⟨⟨A8, n8, c8⟩, rfl, hn8, hc8, hb8⟩
  dsimp only at hn8 hc8
  subst hn8
  have B8 := Lib.hid (bt B7.out hb8)
  have C7' := Lib.hid (C7.out.below hb8)
  have C8 := Lib.hid hc8
  clear hb8 hc8 B7 C7 H6
  simp only [slV]
  go_wp2_with fail
  refine (H7.out _ B8.out).mono ?_
  rintro e w9 ⟨d9, er9, hrel9, rfl, hb9⟩
  obtain ⟨rfl, rfl⟩ := found_one HREL.out hrel9
  have B9 := Lib.hid (bt B8.out hb9)
  have D7 := Lib.hid (C7'.out.below hb9)
  have D8 := Lib.hid (C8.out.below hb9)
  clear hb9 hrel9 B8 C7' C8 H7
  go_wp2_with fail
  refine (H8.out _).mono ?_
  rintro e w10 ⟨d10, er10, hrel10, rfl, hb10⟩
  obtain ⟨rfl, rfl⟩ := found_one HREL.out hrel10
  have B10 := Lib.hid (bt B9.out hb10)
  have h32 := look_small (tabsI 5) nm (tabsI_small 5 (Nat.le_refl _))
  have HS6 := Lib.hid (same64_any A7 A8 c7 c8 _ (lookT (tabsI 5) nm) w10 rfl (by omega) (D7.out.below hb10) (D8.out.below hb10))
  clear hb10 hrel10 B9 D7 D8 H8 h32
  generalize (EntV d er).1 = v1
  generalize (EntV d er).2 = v2
  go_wp2_with fail
  refine HS6.out.mono ?_
  rintro e w11 ⟨rfl, hb11⟩
  have B11 := Lib.hid (bt B10.out hb11)
  clear hb11 B10 HS6
  go_wp2_with fail
  go_ret
  exact ⟨rfl, B11.out⟩
end Go.Proofs.YtmlfnihicocilaaDoor.Kq
