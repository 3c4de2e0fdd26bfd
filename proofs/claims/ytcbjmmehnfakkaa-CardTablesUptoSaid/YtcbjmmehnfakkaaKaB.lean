/- The law CardTables. -/
import Derived.Test.YtcbjmmehnfakkaaKaA
namespace Go.Proofs.Ytcbjmmehnfakkaa.Ka
open Go.ChangeShapes Go.WideShapes Go.ChangeAt Go.RowKit Own Ro
theorem i64s_set (l : List Int) (j : Nat) (v : Int) : (i64s l).set j (.int .i64 v) = i64s (l.set j v) := by unfold i64s; rw [List.map_set]
/-- Lists that agree from k on. -/
def From {α : Type} (z : α) (k : Nat) (l l' : List α) : Prop := l'.length = l.length ∧ ∀ j, k ≤ j → l'.getD j z = l.getD j z
theorem From.refl {α : Type} (z : α) (k : Nat) (l : List α) : From z k l l := ⟨rfl, fun _ _ => rfl⟩
theorem From.set {α : Type} {z : α} {k : Nat} {l l' : List α} (h : From z k l l') (v : α) : From z (k + 1) l (l'.set k v) := by
  refine ⟨by rw [List.length_set]; exact h.1, fun j hj => ?_⟩
  rw [List.getD_eq_getElem?_getD, List.getElem?_set_ne (by omega), ← List.getD_eq_getElem?_getD]
  exact h.2 j (by omega)
theorem getD_of {α : Type} {z : α} {l : List α} {k : Nat} {x : α} (h : l[k]? = some x) : l.getD k z = x := by rw [List.getD_eq_getElem?_getD, h]; rfl
theorem take_set {α : Type} (l : List α) (k : Nat) (x : α) (h : k < l.length) : (l.set k x).take (k + 1) = l.take k ++ [x] := by
  rw [takeS (l.set k x) x k (by rw [List.length_set]; exact h), List.take_set_of_le (by omega)]
  congr 2
  exact getD_of (List.getElem?_set_self h)
theorem set_getD {α : Type} (l : List α) (k : Nat) (z : α) (h : k < l.length) : l.set k (l.getD k z) = l := set_self _ _ _ (some_at l z k h)
/-- What the law finds at place k of its own tables, and what it may write there. -/
theorem in_cells {W : World} {base : Nat} {A : Option Addr} {n c k : Nat} {L' : List Rt} {R : List Sl} {f : Int} {l' : List Int} {ra : Option Addr} {rn rc : Nat} (h : Ro.RowsOwn KP W base A n c (L'.set k (f, l')) R) (hk : k < n) (hR : R.getD k sl0 = (ra, rn, rc)) :
    rn = l'.length ∧ Neat (ra, rn, rc) ∧ CellsIn W 1 ra rn (i64s l') ∧ ∃ g, A = some ⟨g, 0, none⟩ ∧ base ≤ g ∧ g < W.heap.size ∧ W.cell? ⟨g, k * 2, none⟩ = some (.int .i64 f) ∧ W.cell? ⟨g, k * 2 + 1, none⟩ = some (.slice ra rn rc) ∧
      (0 < rn → ∃ g2, ra = some ⟨g2, 0, none⟩ ∧ base ≤ g2 ∧ g2 < W.heap.size ∧ ∀ j, j < rn → W.cell? ⟨g2, j, none⟩ = some (.int .i64 (l'.getD j 0)) ∧ W.frozen? ⟨g2, j, none⟩ = false ∧
        ∀ v, Ro.RowsOwn KP (W.setCell ⟨g2, j, none⟩ (.int .i64 v)) base A n c (L'.set k (f, l'.set j v)) R) := by
  have hL : k < L'.length := by have := h.1; rw [List.length_set] at this; omega
  have hd : (L'.set k (f, l')).getD k KP.z = (f, l') := getD_of (List.getElem?_set_self hL)
  obtain ⟨hlen, hin⟩ := h.rows.2.2.2 k hk
  have hnt := (h.neat k).1
  obtain ⟨g, hA, hb, hg, _, hc, _⟩ := h.head hk
  rw [hd] at hc hlen hin
  rw [hR] at hc hlen hin hnt
  replace hlen : rn = l'.length := hlen
  refine ⟨hlen, hnt, hin, g, hA, hb, hg, hc 0 _ rfl, hc 1 _ rfl, fun h0 => ?_⟩
  obtain ⟨g2, hA2, hb2, hg2, hf2, hc2, hw2⟩ := h.inner hk (by rw [hR]; exact h0)
  rw [hd] at hc2 hw2
  rw [hR] at hA2
  refine ⟨g2, hA2, hb2, hg2, fun j hj => ⟨hc2 j _ (i64s_at l' j (by rw [← hlen]; exact hj)), hf2 j, fun v => ?_⟩⟩
  have := hw2 j (.int .i64 v) (f, l'.set j v) (i64s_set l' j v) (by show (l'.set j v).length = l'.length; rw [List.length_set]) (fun _ => rfl)
  rw [List.set_set] at this
  exact this
set_option maxRecDepth 100000 in
set_option maxHeartbeats 8000000 in
theorem walkTables (A B : Option Addr) (c d n m : Nat) (i b s : Int) (L : List Rt) (R0 : List Sl) (l : List Int) (w : World) (hi9 : i ≤ 9223372036854775807) (hb : n ≤ 1048576) (hm : m ≤ 1048576) (hl9 : ∀ k, (L.getD k (0, [])).2.length ≤ 1048576)
    (hA : Ro.RowsIn KR w A n L R0) (hneat : ∀ k, Neat (R0.getD k sl0)) (hml : m = l.length) (hB : CellsIn w 1 B m (i64s l)) (hnB : Neat (B, m, d)) :
    Calls Try.prog 5 #[.int .i64 i, .int .i64 b, .int .i64 s, .slice A n c, .slice B m d] w (fun e w' => e = .returned (.bool true) ∧ Below w.heap.size w w') := by
  have HN := Lib.hid hA.1
  have GA := Lib.hid hA
  have GB := Lib.hid hB
  have HL := Lib.hid hl9
  have HL2 : Hid (∀ k, (L.getD k (0, [])).2.length ≤ 1099511627776) := Lib.hid fun k => Nat.le_trans (hl9 k) (by omega)
  have HML := Lib.hid hml
  have HG := Lib.hid (given_any A c n L R0 w (by omega) HL2.out hA hneat)
  have HS := Lib.hid fun (W : World) (hW : Below w.heap.size w W) => (hB.below hW).src hnB
  clear hl9 hA hneat hB hnB hml
  go_enter Try.func5, Try.ntmps5
  go_wp2_with fail
  refine HG.out.mono ?_
  rintro e w1 ⟨A1, c1, n1, R, rfl, hr1, hb1⟩
  have hn1 : n1 = n := by rw [hr1.1, HN.out]
  subst hn1
  have HR1 := Lib.hid hr1
  have HB1 := Lib.hid hb1
  clear hr1 hb1 HG
  go_wp2_with (first
    | (at_builtin; (refine wpList_append_srcK (o := ⟨some 21, _, _, _, _, _⟩) rfl (.tmp 19) (.tmp 20) 50 rfl w1.heap.size 2 (.int .i64 0) 1 8 (by omega) Try.underlying50 info_i64 rfl _ 0 [] rfl (own_emptyK w1 2 1) B m d (i64s l) rfl (HS.out _ (bal HB1.out rfl _)) (one_i64s l) (by omega) (by omega) (by simp) ?_); intro v2 w2 ho2 hg2; rw [Nat.zero_add, List.nil_append] at ho2; obtain ⟨B2, d2, rfl, _⟩ := own_srcK ho2; have hb2 := below_first hg2; have O2 := Lib.hid ho2; have B2' := Lib.hid hb2; clear ho2 hg2 hb2))
  have E3 := Lib.hid (entry_any A1 c1 n1 i b s L R w2 hi9 (by omega) HL2.out (HR1.out.below B2'.out).rows)
  have F3 := Lib.hid fun W hW => refEntry_any A c n1 i b s L R0 W hi9 (by omega) HL2.out (GA.out.below hW)
  have S3 := Lib.hid fun W hW => sum_any B2 d2 m l W HML.out (by omega) ((own_cells O2.out).below hW)
  have T3 := Lib.hid fun W hW => refSum_any B d m l W HML.out (by omega) (GB.out.below hW)
  have s1 : (entV i b s L != entV i b s L) = false := by simp
  have s2 : (sumV l != sumV l) = false := by simp
  generalize entV i b s L = ev at E3 F3 s1
  generalize sumV l = sv at S3 T3 s2
  refine E3.out.mono ?_
  rintro e w3 ⟨rfl, b3⟩
  have B3 := Lib.hid (bt B2'.out b3)
  have C3 := Lib.hid b3
  clear E3 b3
  go_wp2_with fail
  refine (F3.out _ (bt HB1.out B3.out)).mono ?_
  rintro e w4 ⟨rfl, b4⟩
  have B4 := Lib.hid (bt B3.out b4)
  have C4 := Lib.hid (bt C3.out b4)
  clear F3 b4 B3 C3
  go_wp2_with fail
  refine (S3.out _ C4.out).mono ?_
  rintro e w5 ⟨rfl, q5, rfl⟩
  have B5 := Lib.hid (below_dr B4.out q5)
  have C5 := Lib.hid (below_dr C4.out q5)
  generalize w4.drewN q5 = w5 at B5 C5 ⊢
  clear S3 B4 C4
  go_wp2_with fail
  refine (T3.out _ (bt HB1.out B5.out)).mono ?_
  rintro e w6 ⟨rfl, q6, rfl⟩
  have B6 := Lib.hid (below_dr B5.out q6)
  have C6 := Lib.hid (below_dr C5.out q6)
  generalize w5.drewN q6 = w6 at B6 C6 ⊢
  clear T3 B5 C5
  have R6 := Lib.hid (HR1.out.below B6.out)
  have O6 := Lib.hid (own_belowK O2.out C6.out)
  have BW := Lib.hid (bt HB1.out B6.out)
  have LW := Lib.hid HR1.out.low
  have LO : Hid (∀ g, (Value.slice B2 m d2).ownBlock = some g → w1.heap.size ≤ g ∧ g < w6.heap.size) := Lib.hid fun g hg => ⟨(O6.out.lt g hg).1, (O6.out.lt g hg).2⟩
  have hsz6 : w1.heap.size ≤ w6.heap.size := B6.out.size
  have hsz1 : w.heap.size ≤ w1.heap.size := HB1.out.size
  clear HR1 O2 B2' C6 B6
  go_wp2_with fail
  go_loopw [13, 14] (fun v13 v14 wr => ∃ (k : Nat) (L' : List Rt) (Rn : List Sl), k ≤ n1 ∧ v14 = .int .i64 k ∧ From ((0 : Int), ([] : List Int)) k L L' ∧ (∀ j, (L'.getD j (0, [])).2.length ≤ 1048576) ∧ Ro.RowsOwn KP wr w.heap.size A1 n1 c1 L' R ∧
    (∃ An cn, v13 = .slice An k cn ∧ Ro.RowsOwn KR wr w6.heap.size An k cn (L'.take k) Rn) ∧ wr.ownsRow w1.heap.size 2 1 (.slice B2 m d2) m (i64s l) ∧ Below w.heap.size w wr ∧ w6.heap.size ≤ wr.heap.size) (fun _ v14 _ => n1 - (RowKit.intOf v14).toNat)
  case atStart => exact ⟨0, L, [], by omega, rfl, From.refl _ _ _, HL.out, R6.out, ⟨none, 0, rfl, rfl, own_nilK _ _ _ _, InnOwn.nil _ _⟩, O6.out, BW.out, Nat.le_refl _⟩
  case round =>
    clear R6 O6 BW
    obtain ⟨k, L', Rn, hk, rfl, hfr, hl', hr, ⟨An, cn, rfl, hn⟩, ho, hbw, hsz⟩ := hrel
    have FR := Lib.hid hfr
    have HL' := Lib.hid hl'
    have HR := Lib.hid hr
    have HNO := Lib.hid hn
    have HO := Lib.hid ho
    have HB := Lib.hid hbw
    clear hfr hl' hr hn ho hbw
    by_cases hlt : k < n1
    · have hL'k : k < L'.length := by rw [FR.out.1, ← HN.out]; exact hlt
      have hLk : k < L.length := by rw [← HN.out]; exact hlt
      obtain ⟨ra, rn, rc, hR⟩ : ∃ ra rn rc, R.getD k sl0 = (ra, rn, rc) := ⟨_, _, _, rfl⟩
      obtain ⟨f, lk, hd⟩ : ∃ f lk, L.getD k (0, []) = (f, lk) := ⟨_, _, rfl⟩
      have hd' : L'.getD k (0, []) = (f, lk) := by rw [FR.out.2 k (Nat.le_refl _)]; exact hd
      have hlk : lk.length ≤ 1048576 := by have := HL.out k; rw [hd] at this; exact this
      have hr1 := HR.out
      rw [← set_getD L' k (0, []) hL'k, hd'] at hr1
      have HRS := Lib.hid hr1
      obtain ⟨hrn, hq7, hq8, g, rfl, hgb, hgs, c0, c1', _⟩ := in_cells hr1 hlt hR
      have hgN : g < w1.heap.size := LW.out.1 g rfl
      obtain ⟨b0, o0, rfl, hbs, hc, hlen, hin⟩ := GA.out.at hlt
      have e0 := hc 0 _ rfl
      have e1 := hc 1 _ rfl
      replace e0 : w.cell? ⟨b0, o0 + k * 2, none⟩ = some (.int .i64 (L.getD k (0, [])).1) := e0
      replace e1 : w.cell? ⟨b0, o0 + k * 2 + 1, none⟩ = some (slV (R0.getD k sl0)) := e1
      replace hlen : (R0.getD k sl0).2.1 = (L.getD k (0, [])).2.length := hlen
      replace hin : CellsIn w 1 (R0.getD k sl0).1 (R0.getD k sl0).2.1 (i64s (L.getD k (0, [])).2) := hin
      clear hc hr1 hq7 hq8
      rw [hd] at e0 hlen hin
      generalize R0.getD k sl0 = r at e1 hlen hin
      obtain ⟨r0a, r0n, r0c⟩ := r
      simp only [slV] at e0 e1 hlen hin
      obtain rfl : r0n = rn := by rw [hlen, hrn]
      have HI := Lib.hid hin
      have HRN := Lib.hid hrn
      have hrb : r0n ≤ 1048576 := by omega
      have k1 : (0 : Int) ≤ (k : Int) := by omega
      have k2 : (k : Int) < (n1 : Int) := by omega
      have s3 : (f != f) = false := by simp
      have s4 : ((r0n : Int) != (r0n : Int)) = false := by simp
      have f0 : wr.cell? ⟨b0, o0 + k * 2, none⟩ = some (.int .i64 f) := by rw [HB.out.cell (p := ⟨b0, o0 + k * 2, none⟩) hbs]; exact e0
      have f1 : wr.cell? ⟨b0, o0 + k * 2 + 1, none⟩ = some (.slice r0a r0n r0c) := by rw [HB.out.cell (p := ⟨b0, o0 + k * 2 + 1, none⟩) hbs]; exact e1
      clear hin hlen hrn
      go_wp2_with fail
      go_region
      all_goals
        have HR7 := Lib.hid (HRS.out.below (below_dr (Below.refl _ wr) 1))
        have HN7 := Lib.hid (HNO.out.below (below_dr (Below.refl _ wr) 1))
        have HO7 := Lib.hid (own_belowK HO.out (below_dr (Below.refl _ wr) 1))
        have HB7 := Lib.hid (below_dr HB.out 1)
        have hs7 : w6.heap.size ≤ (wr.drewN 1).heap.size := hsz
        go_wp2_with fail
        go_loopw [15] (fun v15 wi => ∃ (j : Nat) (l' : List Int), j ≤ r0n ∧ v15 = .int .i64 (j : Int) ∧ From (0 : Int) j lk l' ∧ Ro.RowsOwn KP wi w.heap.size (some ⟨g, 0, none⟩) n1 c1 (L'.set k (f, l')) R ∧ Ro.RowsOwn KR wi w6.heap.size An k cn (L'.take k) Rn ∧
          wi.ownsRow w1.heap.size 2 1 (.slice B2 m d2) m (i64s l) ∧ Below w.heap.size w wi ∧ w6.heap.size ≤ wi.heap.size) (fun v15 _ => r0n - (RowKit.intOf v15).toNat)
        case atStart => exact ⟨0, lk, by omega, rfl, From.refl _ _ _, HR7.out, HN7.out, HO7.out, HB7.out, hs7⟩
        case round =>
          clear HR7 HN7 HO7 HB7 HRS HNO HO HB f0 f1 hgs c0 c1' HR
          obtain ⟨j, l', hj, rfl, hfrj, hrj, hnj, hoj, hbj, hsj⟩ := hrel
          have FJ := Lib.hid hfrj
          have RJ := Lib.hid hrj
          have NJ := Lib.hid hnj
          have OJ := Lib.hid hoj
          have BJ := Lib.hid hbj
          obtain ⟨hq9, hneat, hinj, g', hg', _, hgs, c0, c1', hwr⟩ := in_cells hrj hlt hR
          clear hq9
          injection hg' with hg'
          injection hg' with hg'
          subst hg'
          have HC := Lib.hid fun (W : World) (hW : Below wr.heap.size wr W) => (hinj.below hW).src hneat
          clear hfrj hrj hnj hoj hbj hinj
          by_cases hjl : j < r0n
          · obtain ⟨g2, rfl, hg2b, hg2s, hw⟩ := hwr (by omega)
            obtain ⟨e2, z2, hw2⟩ := hw j hjl
            have hg2N : g2 < w1.heap.size := LW.out.2 k (by rw [RJ.out.2.2.1, ← RJ.out.1]; exact hlt) g2 (by unfold rowV; rw [hR]; rfl)
            rw [FJ.out.2 j (Nat.le_refl _)] at e2
            obtain ⟨b2, o2, rfl, hb2s, hc2⟩ := HI.out.at (by omega)
            have e3 := hc2 j _ (i64s_at lk j (by rw [← HRN.out]; exact hjl))
            clear hc2 hw
            generalize lk.getD j 0 = x at e2 e3
            have f1 : wr.cell? ⟨b0, o0 + k * 2 + 1, none⟩ = some (.slice (some ⟨b2, o2, none⟩) r0n r0c) := by rw [BJ.out.cell (p := ⟨b0, o0 + k * 2 + 1, none⟩) hbs]; exact e1
            have f3 : wr.cell? ⟨b2, o2 + j, none⟩ = some (.int .i64 x) := by rw [BJ.out.cell (p := ⟨b2, o2 + j, none⟩) hb2s]; exact e3
            have s5 : (x != x) = false := by simp
            have j1 : (0 : Int) ≤ (j : Int) := by omega
            have j2 : (j : Int) < (r0n : Int) := by omega
            go_wp2_with fail
            go_region
            all_goals
              clear f1 f3
              replace c1' : wr.drew.cell? ⟨g, k * 2 + 1, none⟩ = some (.slice (some ⟨g2, 0, none⟩) r0n rc) := c1'
              replace e2 : wr.drew.cell? ⟨g2, j, none⟩ = some (.int .i64 x) := e2
              replace z2 : wr.drew.frozen? ⟨g2, j, none⟩ = false := z2
              go_wp2_with fail
              go_region
              all_goals
                have hst := set_grown wr ⟨g2, j, none⟩ (.int .i64 (wrap64 (wrap64 (3 * x) + 1)))
                have dd := below_dr (below_dr (Below.refl (wr.setCell ⟨g2, j, none⟩ (.int .i64 (wrap64 (wrap64 (3 * x) + 1)))).heap.size (wr.setCell ⟨g2, j, none⟩ (.int .i64 (wrap64 (wrap64 (3 * x) + 1))))) 1) 1
                have r9 := (hw2 (wrap64 (wrap64 (3 * x) + 1))).below dd
                have n9 := (NJ.out.keptLow hst (show g2 < _ by omega)).below dd
                have o9 := own_belowK (own_keptLow OJ.out hst (show g2 < _ by omega)) dd
                have b9 := below_dr (below_dr (below_set (p := ⟨g2, j, none⟩) BJ.out (show w.heap.size ≤ g2 from hg2b) (.int .i64 (wrap64 (wrap64 (3 * x) + 1)))) 1) 1
                have s9 := Nat.le_trans hsj (Nat.le_trans hst.size dd.size)
                have R9 := Lib.hid r9
                have N9 := Lib.hid n9
                have O9 := Lib.hid o9
                have D9 := Lib.hid b9
                have S9 := Lib.hid s9
                clear hst dd r9 n9 o9 b9 s9 hw2
                go_wp2_with fail
                go_roundw
                case rel => exact ⟨j + 1, l'.set j (wrap64 (wrap64 (3 * x) + 1)), by omega, by go_num, FJ.out.set _, R9.out, N9.out, O9.out, D9.out, S9.out⟩
                case measure => simp [RowKit.intOf]; omega
          · obtain rfl : j = r0n := by omega
            have K0 : ∀ W : World, Below w6.heap.size wr W → (W.cell? ⟨g, k * 2, none⟩ = some (.int .i64 f) ∧ W.cell? ⟨g, k * 2 + 1, none⟩ = some (.slice ra j rc)) ∧ Below w6.heap.size wr W := fun W hW => by
              refine ⟨⟨?_, ?_⟩, hW⟩
              · rw [hW.cell (p := ⟨g, k * 2, none⟩) (show g < _ by omega)]; exact c0
              · rw [hW.cell (p := ⟨g, k * 2 + 1, none⟩) (show g < _ by omega)]; exact c1'
            have HK0 := Lib.hid K0
            have hl'l : l'.length = j := by rw [FJ.out.1, HRN.out]
            have HLL := Lib.hid hl'l
            clear K0 hwr hl'l
            go_wp2_with fail
            go_region_held3 (fun w' => (w'.cell? ⟨g, k * 2, none⟩ = some (.int .i64 f) ∧ w'.cell? ⟨g, k * 2 + 1, none⟩ = some (.slice ra j rc)) ∧ Below w6.heap.size wr w')
              (first | exact HK0.out _ (by assumption) | exact HK0.out _ (Below.refl _ _) | exact HK0.out _ (below_dr (Below.refl _ _) 1) | exact HK0.out _ ((below_dr (grows' _ _) 1).mono hsj) | exact HK0.out _ (Below.mono (by assumption) hsj) | exact HK0.out _ ((bal (by assumption) rfl _).mono hsj))
              (first
                | (refine step_appK (o := ⟨some 128, _, _, _, _, _⟩) (by first | rfl | simp [Region.wanted, yielded]) (.tmp 122) (.tmp 127) 50 (by rfl) wr.heap.size 2 (.int .i64 0) 1 8 (by omega) Try.underlying50 info_i64 rfl _ 0 [] (by rfl) (own_emptyK wr 2 1) ra j rc (i64s l') (by rfl) (HC.out _ (below_dr (grows' wr _) 1)) (one_i64s l') (by omega) (by omega) (Nat.le_of_lt (by simp [World.drew])) ?_; intro v9 w9 ho9 hg9; rw [Nat.zero_add, List.nil_append] at ho9; have hb9 := below_firstD hg9; have O9 := Lib.hid ho9; obtain ⟨A9, c9, rfl, _⟩ := own_srcK ho9; clear ho9 hg9)
                | (refine step_appK (o := ⟨some 131, _, _, _, _, _⟩) (by first | rfl | simp [Region.wanted, yielded]) (.tmp 116) (.tmp 130) 49 (by rfl) w6.heap.size 57 (.agg #[.int .i64 0, .slice none 0 0]) 2 32 (by omega) Try.underlying49 info_readR rfl _ k (KR.rows (L'.take k) Rn) (by rfl) (NJ.out.below (bal hb9 rfl _)).2.1 _ 1 1 [.int .i64 f, .slice A9 j c9] (by rfl) (src_new2 w9 _ _ _ rfl) (by intro u hu; simp at hu; rcases hu with rfl | rfl <;> rfl) (by omega) (by omega) (Nat.le_trans hsj (bal hb9 rfl _).size) ?_; intro v3 w10 ho3 hg3; obtain ⟨A3, c3, rfl, hr3⟩ := RowsOwn.snoc (r := (A9, j, c9)) (d := (f, l')) (NJ.out.below (bal hb9 rfl _)) HLL.out.symm (own_belowK O9.out (grows' w9 _)) hsj NJ.out.2.2.lt hg3 ho3; have hb3 := RowsOwn.grown (NJ.out.below (bal hb9 rfl _)) ((bal hb9 rfl _).mono hsj) (Nat.le_refl _) (Nat.le_trans hsj (bal hb9 rfl _).size) hg3; have hbw3 := RowsOwn.grown (NJ.out.below (bal hb9 rfl _)) (bt BJ.out (bal hb9 rfl _)) (show w.heap.size ≤ _ by omega) (bt BJ.out (bal hb9 rfl _)).size hg3; have rp := (RJ.out.below (bal hb9 rfl _)).keptHigh LW.out hg3 (fun g hg => Nat.le_trans hsz6 (NJ.out.2.1.lt g hg).1); have oo := own_keptHigh (own_belowK OJ.out (bal hb9 rfl _)) (fun g hg => (LO.out g hg).2) hg3 (fun g hg => (NJ.out.2.1.lt g hg).1); have HR3 := Lib.hid hr3; have HBW := Lib.hid hbw3; have RP := Lib.hid rp; have OO := Lib.hid oo; clear ho3 hg3 hr3 hbw3 rp oo))
            go_wp2_with fail
            go_roundw
            case rel =>
              refine ⟨k + 1, L'.set k (f, l'), Rn ++ [(A9, j, c9)], by omega, by go_num, FR.out.set _, fun m => ?_, RP.out, ⟨A3, c3, rfl, ?_⟩, OO.out, HBW.out, Nat.le_trans hsj hb3.size⟩
              · rw [getD_set _ _ _ _ _ hL'k]
                by_cases hm : m = k
                · rw [if_pos hm]; show l'.length ≤ _; rw [HLL.out]; omega
                · rw [if_neg hm]; exact HL'.out m
              · rw [take_set L' k _ hL'k]
                exact HR3.out
            case measure => simp [RowKit.intOf]; omega
    · obtain rfl : n1 = k := by omega
      have HTK : Hid (L'.take n1 = L') := Lib.hid (by rw [List.take_of_length_le]; rw [FR.out.1, HN.out]; exact Nat.le_refl _)
      rw [HTK.out] at HNO
      have hL'n : ∀ j, (L'.getD j (0, [])).2.length ≤ 1099511627776 := fun j => Nat.le_trans (HL'.out j) (by omega)
      have HLn := Lib.hid hL'n
      clear hL'n
      go_wp2_with fail
      go_loopw [16] (fun v16 wi => ∃ (j : Nat) (ls : List Int), j ≤ m ∧ v16 = .int .i64 (j : Int) ∧ From (0 : Int) j l ls ∧ wi.ownsRow w1.heap.size 2 1 (.slice B2 m d2) m (i64s ls) ∧ Ro.RowsOwn KP wi w.heap.size A1 n1 c1 L' R ∧ Ro.RowsOwn KR wi w6.heap.size An n1 cn L' Rn ∧
        Below w.heap.size w wi ∧ w6.heap.size ≤ wi.heap.size) (fun v16 _ => m - (RowKit.intOf v16).toNat)
      case atStart => exact ⟨0, l, by omega, rfl, From.refl _ _ _, HO.out, HR.out, HNO.out, HB.out, hsz⟩
      case round =>
        clear HR HNO HO HB
        obtain ⟨j, ls, hj, rfl, hfrj, hoj, hrj, hnj, hbj, hsj⟩ := hrel
        have FJ := Lib.hid hfrj
        have OJ := Lib.hid hoj
        have RJ := Lib.hid hrj
        have NJ := Lib.hid hnj
        have BJ := Lib.hid hbj
        clear hfrj hoj hrj hnj hbj
        by_cases hjl : j < m
        · obtain ⟨g, rfl, hg1, hg2⟩ := own_shapeK OJ.out (by omega)
          have hgN : g < w6.heap.size := (LO.out g rfl).2
          have e2 := (OJ.out.cellAt j (by omega)).trans (i64s_at ls j (by rw [FJ.out.1, ← HML.out]; exact hjl))
          rw [FJ.out.2 j (Nat.le_refl _)] at e2
          have z2 := OJ.out.frozenAt j
          have hst := OJ.out.stored j (.int .i64 (wrap64 (l.getD j 0 - 7)))
          rw [i64s_set] at hst
          have HST := Lib.hid hst
          obtain ⟨b3, o3, rfl, hb3s, hc3⟩ := GB.out.at (by omega)
          have e3 := hc3 j _ (i64s_at l j (by rw [← HML.out]; exact hjl))
          clear hc3 hst
          have HF9 := Lib.hid (FJ.out.set (wrap64 (l.getD j 0 - 7)))
          generalize l.getD j 0 = x at e2 e3 HST HF9
          have f3 : wr.cell? ⟨b3, o3 + j, none⟩ = some (.int .i64 x) := by rw [BJ.out.cell (p := ⟨b3, o3 + j, none⟩) hb3s]; exact e3
          have s5 : (x != x) = false := by simp
          have j1 : (0 : Int) ≤ (j : Int) := by omega
          have j2 : (j : Int) < (m : Int) := by omega
          go_wp2_with fail
          go_region
          all_goals
            clear f3
            replace e2 : wr.drew.cell? ⟨g, j, none⟩ = some (.int .i64 x) := e2
            replace z2 : wr.drew.frozen? ⟨g, j, none⟩ = false := z2
            have dd := below_dr (Below.refl (wr.setCell ⟨g, j, none⟩ (.int .i64 (wrap64 (x - 7)))).heap.size (wr.setCell ⟨g, j, none⟩ (.int .i64 (wrap64 (x - 7))))) 1
            have O9 := Lib.hid (own_belowK HST.out.1 dd)
            have R9 := Lib.hid ((RJ.out.keptHigh LW.out HST.out.2 (fun g' hg' => by injection hg' with hg'; omega)).below dd)
            have N9 := Lib.hid ((NJ.out.keptLow HST.out.2 hgN).below dd)
            have D9 := Lib.hid (below_dr (below_set (p := ⟨g, j, none⟩) BJ.out (show w.heap.size ≤ g by omega) (.int .i64 (wrap64 (x - 7)))) 1)
            have S9 := Lib.hid (Nat.le_trans hsj (Nat.le_trans HST.out.2.size dd.size))
            clear dd
            go_wp2_with fail
            go_roundw
            case rel => exact ⟨j + 1, ls.set j (wrap64 (x - 7)), by omega, by go_num, HF9.out, O9.out, R9.out, N9.out, D9.out, S9.out⟩
            case measure => simp [RowKit.intOf]; omega
        · obtain rfl : m = j := by omega
          have hlsm : ls.length = m := by rw [FJ.out.1, HML.out]
          have HLS := Lib.hid hlsm
          have E3 := Lib.hid fun W hW => entry_any A1 c1 n1 i b s L' R W hi9 (by omega) HLn.out (RJ.out.below hW).rows
          have F3 := Lib.hid fun W hW => refEntry_any An cn n1 i b s L' Rn W hi9 (by omega) HLn.out (NJ.out.below hW).rows
          have S3 := Lib.hid fun W hW => sum_any B2 d2 m ls W HLS.out.symm (by omega) ((own_cells OJ.out).below hW)
          obtain ⟨_, _, hvB, hneB, _⟩ := own_srcK OJ.out
          injection hvB with hv1 hv2 hv3
          subst hv1 hv3
          have HC := Lib.hid fun (W : World) (hW : Below wr.heap.size wr W) => ((own_cells OJ.out).below hW).src hneB
          have s1 : (entV i b s L' == entV i b s L') = true := by simp
          have s2 : (sumV ls == sumV ls) = true := by simp
          clear hlsm hneB
          generalize entV i b s L' = ev at E3 F3 s1
          go_wp2_with fail
          refine (E3.out _ (Below.refl _ _)).mono ?_
          rintro e w7 ⟨rfl, b7⟩
          have B7 := Lib.hid b7
          clear b7
          go_wp2_with fail
          refine (F3.out _ B7.out).mono ?_
          rintro e w8 ⟨rfl, b8⟩
          have B8 := Lib.hid (bt B7.out b8)
          clear b8 B7
          go_wp2_with fail
          refine (S3.out _ B8.out).mono ?_
          rintro e w9 ⟨rfl, q9, rfl⟩
          have B9 := Lib.hid (below_dr B8.out q9)
          generalize w8.drewN q9 = w9 at B9 ⊢
          clear B8
          have hs9 : wr.heap.size ≤ w9.heap.size := B9.out.size
          go_wp2_with (first
            | (at_builtin; (refine wpList_append_srcKg (o := ⟨some 171, _, _, _, _, _⟩) (by first | rfl | simp [Region.wanted, yielded]) (.tmp 169) (.tmp 170) 50 rfl w9.heap.size 2 (.int .i64 0) 1 8 (by omega) Try.underlying50 info_i64 rfl _ 0 [] rfl (own_emptyK w9 2 1) B2 m d2 (i64s ls) rfl (HC.out _ (bal B9.out rfl _)) (one_i64s ls) (by omega) (by omega) (by simp) ?_); intro v10 w10 ho10 hg10; rw [Nat.zero_add, List.nil_append] at ho10; obtain ⟨BT, dT, rfl, _⟩ := own_srcK ho10; have hb10 := below_first hg10; have O10 := Lib.hid ho10; have B10 := Lib.hid (bt B9.out hb10); clear ho10 hg10 hb10))
          have T3 := Lib.hid (refSum_any BT dT m ls w10 HLS.out.symm (by omega) (own_cells O10.out))
          generalize sumV ls = sv at T3 s2
          refine T3.out.mono ?_
          rintro e w11 ⟨rfl, q11, rfl⟩
          go_wp2_with fail
          go_ret
          exact ⟨rfl, below_dr (bt BJ.out B10.out) q11⟩
end Go.Proofs.Ytcbjmmehnfakkaa.Ka
