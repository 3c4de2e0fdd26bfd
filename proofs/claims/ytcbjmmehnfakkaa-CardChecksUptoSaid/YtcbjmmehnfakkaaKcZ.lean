/- The law CardChecks. -/
import Derived.Test.YtcbjmmehnfakkaaKcY
import Derived.Test.YtcbjmmehnfakkaaKcC
namespace Go.Proofs.Ytcbjmmehnfakkaa.Kc
open Go.ChangeShapes Go.WideShapes Go.ChangeAt Go.RowKit Own Ro wordsNames

theorem getD_of' {α : Type} {z : α} {l : List α} {k : Nat} {x : α} (h : l[k]? = some x) : l.getD k z = x := by rw [List.getD_eq_getElem?_getD, h]; rfl
/-- What the law finds at place k of its own cards, and what it may write there. -/
theorem card_at {W : World} {base : Nat} {A : Option Addr} {n c k : Nat} {L' : List Cd} {R : List Sl} {d : Cd} {ra : Option Addr} {rn rc : Nat} (h : Ro.RowsOwn KC W base A n c (L'.set k d) R) (hk : k < n) (hR : R.getD k sl0 = (ra, rn, rc)) :
    rn = d.compat.length ∧ ∃ g, A = some ⟨g, 0, none⟩ ∧ base ≤ g ∧ g < W.heap.size ∧ W.frozen? ⟨g, k * 7, none⟩ = false ∧ W.cell? ⟨g, k * 7, none⟩ = some (.string (str d.name)) ∧ W.cell? ⟨g, k * 7 + 3, none⟩ = some (.slice ra rn rc) ∧
      (∀ v, Ro.RowsOwn KC (W.setCell ⟨g, k * 7, none⟩ (.string (str v))) base A n c (L'.set k { d with name := v }) R) ∧
      (0 < rn → ∃ g2, ra = some ⟨g2, 0, none⟩ ∧ base ≤ g2 ∧ g2 < W.heap.size ∧ ∀ j, j < rn → W.cell? ⟨g2, j, none⟩ = some (.string (str (d.compat.getD j []))) ∧ W.frozen? ⟨g2, j, none⟩ = false ∧
        ∀ v, Ro.RowsOwn KC (W.setCell ⟨g2, j, none⟩ (.string (str v))) base A n c (L'.set k { d with compat := d.compat.set j v }) R) := by
  have hL : k < L'.length := by have := h.1; rw [List.length_set] at this; omega
  have hd : (L'.set k d).getD k KC.z = d := getD_of' (List.getElem?_set_self hL)
  obtain ⟨hlen, hin⟩ := h.rows.2.2.2 k hk
  obtain ⟨g, hA, hb, hg, hf, hc, hw⟩ := h.head hk
  rw [hd] at hc hlen hin hw
  rw [hR] at hc hlen hin hw
  replace hlen : rn = d.compat.length := hlen
  refine ⟨hlen, g, hA, hb, hg, hf _, hc 0 _ rfl, hc 3 _ rfl, fun v => ?_, fun h0 => ?_⟩
  · have := hw 0 (.string (str v)) { d with name := v } (by decide) rfl rfl rfl
    rw [List.set_set] at this
    exact this
  · obtain ⟨g2, hA2, hb2, hg2, hf2, hc2, hw2⟩ := h.inner hk (by rw [hR]; exact h0)
    rw [hd] at hc2 hw2
    rw [hR] at hA2
    refine ⟨g2, hA2, hb2, hg2, fun j hj => ⟨hc2 j _ (strs_at d.compat j (by rw [← hlen]; exact hj)), hf2 j, fun v => ?_⟩⟩
    have := hw2 j (.string (str v)) { d with compat := d.compat.set j v } (strs_set d.compat j v) (by show (d.compat.set j v).length = d.compat.length; rw [List.length_set]) (fun _ => rfl)
    rw [List.set_set] at this
    exact this
theorem MildC.mono {M N : Nat} {a : Cd} (h : MildC M a) (hn : M ≤ N) : MildC N a := ⟨Nat.le_trans h.1 hn, Nat.le_trans h.2.1 hn, Nat.le_trans h.2.2.1 hn, Nat.le_trans h.2.2.2.1 hn, fun k => Nat.le_trans (h.2.2.2.2 k) hn⟩
theorem MildL.mono {M N : Nat} {L : List Cd} (h : MildL M L) (hn : M ≤ N) : MildL N L := ⟨Nat.le_trans h.1 hn, fun k => (h.2 k).mono hn⟩
theorem str_app (a b : List UInt8) : str a ++ str b = str (a ++ b) := bytes_ext (by show (str a ++ str b).data.toList = a ++ b; simp [str])
set_option maxRecDepth 100000 in
set_option maxHeartbeats 16000000 in
theorem walkChecks (A : Option Addr) (c n : Nat) (L : List Cd) (R0 : List Sl) (a b : Cd) (r s : Sl) (lv : Int) (w : World) (hlv : 0 ≤ lv) (hnc : n ≤ c) (hm : MildL 1048576 L) (hma : MildC 1048576 a) (hmb : MildC 1048576 b) (hA : Ro.RowsIn KC w A n L R0) (hneat : ∀ k, Neat (R0.getD k sl0))
    (hr : r.2.1 = a.compat.length) (hs : s.2.1 = b.compat.length) (hca : CellsIn w 1 r.1 r.2.1 (strs a.compat)) (hcb : CellsIn w 1 s.1 s.2.1 (strs b.compat)) (hna : Neat r) :
    Calls Try.prog 4 #[.slice A n c, cardV a r, cardV b s, .int .u8 lv] w (fun e w' => e = .returned (.bool true) ∧ Below w.heap.size w w') := by
  have HN := Lib.hid hA.1
  have hnb : n ≤ 1048576 := by have := hm.1; rw [hA.1]; exact this
  have GA := Lib.hid hA
  have HM := Lib.hid hm
  have HM2 := Lib.hid (hm.mono (N := 1099511627776) (by omega))
  have HMA := Lib.hid (hma.mono (N := 1099511627776) (by omega))
  have HMB := Lib.hid (hmb.mono (N := 1099511627776) (by omega))
  have HNE := Lib.hid hneat
  have HR := Lib.hid hr
  have HS := Lib.hid hs
  have HCA := Lib.hid hca
  have HCB := Lib.hid hcb
  have HNA := Lib.hid hna
  obtain ⟨at0, er, hC⟩ := chkC_ex L
  have HC := Lib.hid hC
  obtain ⟨gs, hgs⟩ := bool_ex (a = b)
  have HGS := Lib.hid hgs
  clear hm hma hmb hA hneat hr hs hca hcb hna hC hgs
  have HRS := Lib.hid fun (W : World) (hW : Below w.heap.size w W) => refSame_any a b r s gs W HGS.out HMA.out HMB.out HR.out HS.out (HCA.out.below hW) (HCB.out.below hW)
  have HTW := Lib.hid fun (W : World) (hW : Below w.heap.size w W) => twin_any a r W HMA.out HR.out HNA.out (HCA.out.below hW)
  have HSM := Lib.hid fun (A2 : Option Addr) (c2 n2 : Nat) (W : World) (hW : Below w.heap.size w W) (h2 : n2 = a.compat.length) (h3 : CellsIn W 1 A2 n2 (strs a.compat)) => same_any a b (A2, n2, c2) s gs W HGS.out HMA.out HMB.out h2 HS.out h3 (HCB.out.below hW)
  have HSA := Lib.hid fun (A2 : Option Addr) (c2 n2 : Nat) (W : World) (hW : Below w.heap.size w W) (h2 : n2 = a.compat.length) (h3 : CellsIn W 1 A2 n2 (strs a.compat)) => same_any a a r (A2, n2, c2) true W (by simp) HMA.out HMA.out HR.out h2 (HCA.out.below hW) h3
  have HCL : Hid (∀ (A2 : Option Addr) (c2 n2 : Nat) (W W' : World), W'.ownsRow W.heap.size 9 1 (.slice A2 n2 c2) n2 (strs a.compat) → CellsIn W' 1 A2 n2 (strs a.compat)) := Lib.hid fun _ _ _ _ _ h => own_cells h
  generalize hac : a.compat = acp at HTW HSM HSA HCL
  clear HR HS HCA HCB HNA HMA HMB HGS
  obtain ⟨anm, afm, alv, acp', asc, aqk, aen⟩ := a
  obtain ⟨bnm, bfm, blv, bcp, bsc, bqk, ben⟩ := b
  obtain ⟨ra, rn, rc⟩ := r
  obtain ⟨sa, sn, sc⟩ := s
  simp only at hac
  subst hac
  unfold MadeC at HTW
  simp only [slV, cardV, cells7] at HRS HTW HSM HSA HCL ⊢
  generalize str anm = A1s at HRS HTW HSM HSA ⊢
  generalize str afm = A2s at HRS HTW HSM HSA ⊢
  generalize str aqk = A3s at HRS HTW HSM HSA ⊢
  generalize str bnm = B1s at HRS HSM ⊢
  generalize str bfm = B2s at HRS HSM ⊢
  generalize str bqk = B3s at HRS HSM ⊢
  have c0 : ((w.alloc (.cells #[.string A1s, .string A2s, .int .u8 alv, .slice ra rn rc, .int .i8 asc, .string A3s, .int .i16 aen] 30)).alloc (.cells #[.string B1s, .string B2s, .int .u8 blv, .slice sa sn sc, .int .i8 bsc, .string B3s, .int .i16 ben] 30)).cell? ⟨w.heap.size, 0, none⟩ = some (.string A1s) := by rw [World.cell?_alloc2_first]; rfl
  have d0 : ((w.alloc (.cells #[.string A1s, .string A2s, .int .u8 alv, .slice ra rn rc, .int .i8 asc, .string A3s, .int .i16 aen] 30)).alloc (.cells #[.string B1s, .string B2s, .int .u8 blv, .slice sa sn sc, .int .i8 bsc, .string B3s, .int .i16 ben] 30)).cell? ⟨w.heap.size + 1, 0, none⟩ = some (.string B1s) := by rw [World.cell?_alloc2_new]; rfl
  have c1 : ((w.alloc (.cells #[.string A1s, .string A2s, .int .u8 alv, .slice ra rn rc, .int .i8 asc, .string A3s, .int .i16 aen] 30)).alloc (.cells #[.string B1s, .string B2s, .int .u8 blv, .slice sa sn sc, .int .i8 bsc, .string B3s, .int .i16 ben] 30)).cell? ⟨w.heap.size, 1, none⟩ = some (.string A2s) := by rw [World.cell?_alloc2_first]; rfl
  have d1 : ((w.alloc (.cells #[.string A1s, .string A2s, .int .u8 alv, .slice ra rn rc, .int .i8 asc, .string A3s, .int .i16 aen] 30)).alloc (.cells #[.string B1s, .string B2s, .int .u8 blv, .slice sa sn sc, .int .i8 bsc, .string B3s, .int .i16 ben] 30)).cell? ⟨w.heap.size + 1, 1, none⟩ = some (.string B2s) := by rw [World.cell?_alloc2_new]; rfl
  have c2 : ((w.alloc (.cells #[.string A1s, .string A2s, .int .u8 alv, .slice ra rn rc, .int .i8 asc, .string A3s, .int .i16 aen] 30)).alloc (.cells #[.string B1s, .string B2s, .int .u8 blv, .slice sa sn sc, .int .i8 bsc, .string B3s, .int .i16 ben] 30)).cell? ⟨w.heap.size, 2, none⟩ = some (.int .u8 alv) := by rw [World.cell?_alloc2_first]; rfl
  have d2 : ((w.alloc (.cells #[.string A1s, .string A2s, .int .u8 alv, .slice ra rn rc, .int .i8 asc, .string A3s, .int .i16 aen] 30)).alloc (.cells #[.string B1s, .string B2s, .int .u8 blv, .slice sa sn sc, .int .i8 bsc, .string B3s, .int .i16 ben] 30)).cell? ⟨w.heap.size + 1, 2, none⟩ = some (.int .u8 blv) := by rw [World.cell?_alloc2_new]; rfl
  have c3 : ((w.alloc (.cells #[.string A1s, .string A2s, .int .u8 alv, .slice ra rn rc, .int .i8 asc, .string A3s, .int .i16 aen] 30)).alloc (.cells #[.string B1s, .string B2s, .int .u8 blv, .slice sa sn sc, .int .i8 bsc, .string B3s, .int .i16 ben] 30)).cell? ⟨w.heap.size, 3, none⟩ = some (.slice ra rn rc) := by rw [World.cell?_alloc2_first]; rfl
  have d3 : ((w.alloc (.cells #[.string A1s, .string A2s, .int .u8 alv, .slice ra rn rc, .int .i8 asc, .string A3s, .int .i16 aen] 30)).alloc (.cells #[.string B1s, .string B2s, .int .u8 blv, .slice sa sn sc, .int .i8 bsc, .string B3s, .int .i16 ben] 30)).cell? ⟨w.heap.size + 1, 3, none⟩ = some (.slice sa sn sc) := by rw [World.cell?_alloc2_new]; rfl
  have c4 : ((w.alloc (.cells #[.string A1s, .string A2s, .int .u8 alv, .slice ra rn rc, .int .i8 asc, .string A3s, .int .i16 aen] 30)).alloc (.cells #[.string B1s, .string B2s, .int .u8 blv, .slice sa sn sc, .int .i8 bsc, .string B3s, .int .i16 ben] 30)).cell? ⟨w.heap.size, 4, none⟩ = some (.int .i8 asc) := by rw [World.cell?_alloc2_first]; rfl
  have d4 : ((w.alloc (.cells #[.string A1s, .string A2s, .int .u8 alv, .slice ra rn rc, .int .i8 asc, .string A3s, .int .i16 aen] 30)).alloc (.cells #[.string B1s, .string B2s, .int .u8 blv, .slice sa sn sc, .int .i8 bsc, .string B3s, .int .i16 ben] 30)).cell? ⟨w.heap.size + 1, 4, none⟩ = some (.int .i8 bsc) := by rw [World.cell?_alloc2_new]; rfl
  have c5 : ((w.alloc (.cells #[.string A1s, .string A2s, .int .u8 alv, .slice ra rn rc, .int .i8 asc, .string A3s, .int .i16 aen] 30)).alloc (.cells #[.string B1s, .string B2s, .int .u8 blv, .slice sa sn sc, .int .i8 bsc, .string B3s, .int .i16 ben] 30)).cell? ⟨w.heap.size, 5, none⟩ = some (.string A3s) := by rw [World.cell?_alloc2_first]; rfl
  have d5 : ((w.alloc (.cells #[.string A1s, .string A2s, .int .u8 alv, .slice ra rn rc, .int .i8 asc, .string A3s, .int .i16 aen] 30)).alloc (.cells #[.string B1s, .string B2s, .int .u8 blv, .slice sa sn sc, .int .i8 bsc, .string B3s, .int .i16 ben] 30)).cell? ⟨w.heap.size + 1, 5, none⟩ = some (.string B3s) := by rw [World.cell?_alloc2_new]; rfl
  have c6 : ((w.alloc (.cells #[.string A1s, .string A2s, .int .u8 alv, .slice ra rn rc, .int .i8 asc, .string A3s, .int .i16 aen] 30)).alloc (.cells #[.string B1s, .string B2s, .int .u8 blv, .slice sa sn sc, .int .i8 bsc, .string B3s, .int .i16 ben] 30)).cell? ⟨w.heap.size, 6, none⟩ = some (.int .i16 aen) := by rw [World.cell?_alloc2_first]; rfl
  have d6 : ((w.alloc (.cells #[.string A1s, .string A2s, .int .u8 alv, .slice ra rn rc, .int .i8 asc, .string A3s, .int .i16 aen] 30)).alloc (.cells #[.string B1s, .string B2s, .int .u8 blv, .slice sa sn sc, .int .i8 bsc, .string B3s, .int .i16 ben] 30)).cell? ⟨w.heap.size + 1, 6, none⟩ = some (.int .i16 ben) := by rw [World.cell?_alloc2_new]; rfl
  have hz : w.heap.size + 1 < ((w.alloc (.cells #[.string A1s, .string A2s, .int .u8 alv, .slice ra rn rc, .int .i8 asc, .string A3s, .int .i16 aen] 30)).alloc (.cells #[.string B1s, .string B2s, .int .u8 blv, .slice sa sn sc, .int .i8 bsc, .string B3s, .int .i16 ben] 30)).heap.size := by simp
  have BW := Lib.hid (bal (bal (Below.refl w.heap.size w) rfl (.cells #[.string A1s, .string A2s, .int .u8 alv, .slice ra rn rc, .int .i8 asc, .string A3s, .int .i16 aen] 30)) rfl (.cells #[.string B1s, .string B2s, .int .u8 blv, .slice sa sn sc, .int .i8 bsc, .string B3s, .int .i16 ben] 30))
  go_enter Try.func4, Try.ntmps4
  go_upto_region 1 with (fail)
  generalize ((w.alloc (.cells #[.string A1s, .string A2s, .int .u8 alv, .slice ra rn rc, .int .i8 asc, .string A3s, .int .i16 aen] 30)).alloc (.cells #[.string B1s, .string B2s, .int .u8 blv, .slice sa sn sc, .int .i8 bsc, .string B3s, .int .i16 ben] 30)) = W2 at c0 c1 c2 c3 c4 c5 c6 d0 d1 d2 d3 d4 d5 d6 hz BW ⊢
  have hz1 : w.heap.size < W2.heap.size := by omega
  have HT := Lib.hid (twins_any A c n L R0 W2 HM2.out (GA.out.below BW.out) HNE.out)
  have HK1 := Lib.hid fun (A1 : Option Addr) (c1 : Nat) (R : List Sl) (W : World) (h : Ro.RowsOwn KC W W2.heap.size A1 n c1 L R) => check_any A1 c1 n L R at0 er W HC.out HM2.out (fun k => (h.neat k).2) h.rows
  have HK2 := Lib.hid fun (W : World) (hW : Below w.heap.size w W) => refCheck_any A c n L R0 at0 er W HC.out HM2.out hnc (GA.out.below hW)
  have HL1 := Lib.hid fun W => level_any lv W hlv
  have HL2 := Lib.hid fun W => refLevel_any lv W hlv
  have n1 : ((at0 : Int) != (at0 : Int)) = false := by simp
  have n2 : (er != er) = false := by simp
  have n3 : ((levelB lv).toList == (levelB lv).toList) = true := by simp
  have n4 : (levelE lv != levelE lv) = false := by simp
  have n5 : (gs != gs) = false := by simp
  generalize levelB lv = lb at HL1 HL2 n3
  generalize levelE lv = le at HL1 HL2 n4
  go_wp2_with fail
  refine HT.out.mono ?_
  rintro e w3 ⟨A1, cq, m1, R, rfl, hr3, b3⟩
  obtain rfl : n = m1 := by rw [hr3.1, HN.out]
  have HR3 := Lib.hid hr3
  have B3 := Lib.hid b3
  clear hr3 b3
  go_wp2_with fail
  refine (HK1.out A1 cq R _ HR3.out).mono ?_
  rintro e w4 ⟨rfl, b4⟩
  have B4 := Lib.hid b4
  clear b4
  go_wp2_with fail
  refine (HK2.out _ (bt BW.out (bt B3.out B4.out))).mono ?_
  rintro e w5 ⟨rfl, b5⟩
  have B5 := Lib.hid (bt B4.out b5)
  clear b5 B4
  go_wp2_with fail
  refine (HL1.out _).mono ?_
  rintro e w6 ⟨rfl, b6⟩
  have B6 := Lib.hid (bt B5.out b6)
  clear b6 B5
  go_wp2_with fail
  refine (HL2.out _).mono ?_
  rintro e y ⟨rfl, b7⟩
  have B7 := Lib.hid (bt B6.out b7)
  clear b7 B6
  have BY := Lib.hid (bt BW.out (bt B3.out B7.out))
  have BY2 := Lib.hid (bt B3.out B7.out)
  have RY := Lib.hid (HR3.out.below B7.out)
  clear HT HK1 HK2 HL1 HL2 B7 HR3 B3
  replace c0 := (BY2.out.cell (p := ⟨w.heap.size, 0, none⟩) hz1).trans c0
  replace d0 := (BY2.out.cell (p := ⟨w.heap.size + 1, 0, none⟩) hz).trans d0
  replace c1 := (BY2.out.cell (p := ⟨w.heap.size, 1, none⟩) hz1).trans c1
  replace d1 := (BY2.out.cell (p := ⟨w.heap.size + 1, 1, none⟩) hz).trans d1
  replace c2 := (BY2.out.cell (p := ⟨w.heap.size, 2, none⟩) hz1).trans c2
  replace d2 := (BY2.out.cell (p := ⟨w.heap.size + 1, 2, none⟩) hz).trans d2
  replace c3 := (BY2.out.cell (p := ⟨w.heap.size, 3, none⟩) hz1).trans c3
  replace d3 := (BY2.out.cell (p := ⟨w.heap.size + 1, 3, none⟩) hz).trans d3
  replace c4 := (BY2.out.cell (p := ⟨w.heap.size, 4, none⟩) hz1).trans c4
  replace d4 := (BY2.out.cell (p := ⟨w.heap.size + 1, 4, none⟩) hz).trans d4
  replace c5 := (BY2.out.cell (p := ⟨w.heap.size, 5, none⟩) hz1).trans c5
  replace d5 := (BY2.out.cell (p := ⟨w.heap.size + 1, 5, none⟩) hz).trans d5
  replace c6 := (BY2.out.cell (p := ⟨w.heap.size, 6, none⟩) hz1).trans c6
  replace d6 := (BY2.out.cell (p := ⟨w.heap.size + 1, 6, none⟩) hz).trans d6
  have hzy1 : w.heap.size < y.heap.size := Nat.lt_of_lt_of_le hz1 BY2.out.size
  have hzy : w.heap.size + 1 < y.heap.size := Nat.lt_of_lt_of_le hz BY2.out.size
  have HSC := Lib.hid fun (W : World) (hW : Below y.heap.size y W) => sameCards_any A1 A cq n c n L L R R0 true W (by simp) HM2.out HM2.out (RY.out.below hW).rows ((GA.out.below BY.out).below hW)
  have HEK : Hid (∀ W : World, Below y.heap.size y W → (W.cell? ⟨w.heap.size, 0, none⟩ = some (.string A1s) ∧ W.cell? ⟨w.heap.size, 1, none⟩ = some (.string A2s) ∧ W.cell? ⟨w.heap.size, 2, none⟩ = some (.int .u8 alv) ∧ W.cell? ⟨w.heap.size, 3, none⟩ = some (.slice ra rn rc) ∧ W.cell? ⟨w.heap.size, 4, none⟩ = some (.int .i8 asc) ∧ W.cell? ⟨w.heap.size, 5, none⟩ = some (.string A3s) ∧ W.cell? ⟨w.heap.size, 6, none⟩ = some (.int .i16 aen) ∧ W.cell? ⟨w.heap.size + 1, 0, none⟩ = some (.string B1s) ∧ W.cell? ⟨w.heap.size + 1, 1, none⟩ = some (.string B2s) ∧ W.cell? ⟨w.heap.size + 1, 2, none⟩ = some (.int .u8 blv) ∧ W.cell? ⟨w.heap.size + 1, 3, none⟩ = some (.slice sa sn sc) ∧ W.cell? ⟨w.heap.size + 1, 4, none⟩ = some (.int .i8 bsc) ∧ W.cell? ⟨w.heap.size + 1, 5, none⟩ = some (.string B3s) ∧ W.cell? ⟨w.heap.size + 1, 6, none⟩ = some (.int .i16 ben)) ∧ Below y.heap.size y W) := Lib.hid fun W hW => ⟨⟨(hW.cell (p := ⟨w.heap.size, 0, none⟩) hzy1).trans c0, (hW.cell (p := ⟨w.heap.size, 1, none⟩) hzy1).trans c1, (hW.cell (p := ⟨w.heap.size, 2, none⟩) hzy1).trans c2, (hW.cell (p := ⟨w.heap.size, 3, none⟩) hzy1).trans c3, (hW.cell (p := ⟨w.heap.size, 4, none⟩) hzy1).trans c4, (hW.cell (p := ⟨w.heap.size, 5, none⟩) hzy1).trans c5, (hW.cell (p := ⟨w.heap.size, 6, none⟩) hzy1).trans c6, (hW.cell (p := ⟨w.heap.size + 1, 0, none⟩) hzy).trans d0, (hW.cell (p := ⟨w.heap.size + 1, 1, none⟩) hzy).trans d1, (hW.cell (p := ⟨w.heap.size + 1, 2, none⟩) hzy).trans d2, (hW.cell (p := ⟨w.heap.size + 1, 3, none⟩) hzy).trans d3, (hW.cell (p := ⟨w.heap.size + 1, 4, none⟩) hzy).trans d4, (hW.cell (p := ⟨w.heap.size + 1, 5, none⟩) hzy).trans d5, (hW.cell (p := ⟨w.heap.size + 1, 6, none⟩) hzy).trans d6⟩, hW⟩
  go_wp2_with fail
  refine wp_region_noPanic ?_
  refine wp_region_held_drew (S := fun w' => (w'.cell? ⟨w.heap.size, 0, none⟩ = some (.string A1s) ∧ w'.cell? ⟨w.heap.size, 1, none⟩ = some (.string A2s) ∧ w'.cell? ⟨w.heap.size, 2, none⟩ = some (.int .u8 alv) ∧ w'.cell? ⟨w.heap.size, 3, none⟩ = some (.slice ra rn rc) ∧ w'.cell? ⟨w.heap.size, 4, none⟩ = some (.int .i8 asc) ∧ w'.cell? ⟨w.heap.size, 5, none⟩ = some (.string A3s) ∧ w'.cell? ⟨w.heap.size, 6, none⟩ = some (.int .i16 aen) ∧ w'.cell? ⟨w.heap.size + 1, 0, none⟩ = some (.string B1s) ∧ w'.cell? ⟨w.heap.size + 1, 1, none⟩ = some (.string B2s) ∧ w'.cell? ⟨w.heap.size + 1, 2, none⟩ = some (.int .u8 blv) ∧ w'.cell? ⟨w.heap.size + 1, 3, none⟩ = some (.slice sa sn sc) ∧ w'.cell? ⟨w.heap.size + 1, 4, none⟩ = some (.int .i8 bsc) ∧ w'.cell? ⟨w.heap.size + 1, 5, none⟩ = some (.string B3s) ∧ w'.cell? ⟨w.heap.size + 1, 6, none⟩ = some (.int .i16 ben)) ∧ Below y.heap.size y w') (by kernel_rfl) (HEK.out _ (below_dr (Below.refl _ _) 1)) (fun hHeld => ?_)
  first | (refine skipH (i := 0) (dst := some 42) rfl rfl (by kernel_rfl) (by kernel_rfl) (by kernel_rfl) (fun _ _ _ h => h) (by rfl) hHeld ?_) | (refine' takeH (i := 0) (dst := some 42) (v := _) rfl rfl (by kernel_rfl) (by kernel_rfl) (by kernel_rfl) (fun _ _ _ h => h) (by rfl) ?hy hHeld ?_; case hy => (intro w hSw; clear hSw; (first | done | go_simp); try with_reducible rfl)) | fail
  try simp only [Act.put, List.setIfInBounds_toArray, List.set_cons_zero, List.set_cons_succ]
  first | (refine skipH (i := 1) (dst := some 43) rfl rfl (by kernel_rfl) (by kernel_rfl) (by kernel_rfl) (fun _ _ _ h => h) (by rfl) hHeld ?_) | (refine' takeH (i := 1) (dst := some 43) (v := _) rfl rfl (by kernel_rfl) (by kernel_rfl) (by kernel_rfl) (fun _ _ _ h => h) (by rfl) ?hy hHeld ?_; case hy => (intro w hSw; clear hSw; (first | done | go_simp); try with_reducible rfl)) | fail
  try simp only [Act.put, List.setIfInBounds_toArray, List.set_cons_zero, List.set_cons_succ]
  first | (refine skipH (i := 2) (dst := some 44) rfl rfl (by kernel_rfl) (by kernel_rfl) (by kernel_rfl) (fun _ _ _ h => h) (by rfl) hHeld ?_) | (refine' takeH (i := 2) (dst := some 44) (v := _) rfl rfl (by kernel_rfl) (by kernel_rfl) (by kernel_rfl) (fun _ _ _ h => h) (by rfl) ?hy hHeld ?_; case hy => (intro w hSw; clear hSw; (first | done | go_simp); try with_reducible rfl)) | fail
  try simp only [Act.put, List.setIfInBounds_toArray, List.set_cons_zero, List.set_cons_succ]
  first | (refine skipH (i := 3) (dst := some 45) rfl rfl (by kernel_rfl) (by kernel_rfl) (by kernel_rfl) (fun _ _ _ h => h) (by rfl) hHeld ?_) | (refine' takeH (i := 3) (dst := some 45) (v := _) rfl rfl (by kernel_rfl) (by kernel_rfl) (by kernel_rfl) (fun _ _ _ h => h) (by rfl) ?hy hHeld ?_; case hy => (intro w hSw; clear hSw; (first | done | go_simp); try with_reducible rfl)) | fail
  try simp only [Act.put, List.setIfInBounds_toArray, List.set_cons_zero, List.set_cons_succ]
  first | (refine skipH (i := 4) (dst := some 46) rfl rfl (by kernel_rfl) (by kernel_rfl) (by kernel_rfl) (fun _ _ _ h => h) (by rfl) hHeld ?_) | (refine' takeH (i := 4) (dst := some 46) (v := _) rfl rfl (by kernel_rfl) (by kernel_rfl) (by kernel_rfl) (fun _ _ _ h => h) (by rfl) ?hy hHeld ?_; case hy => (intro w hSw; clear hSw; (first | done | go_simp); try with_reducible rfl)) | fail
  try simp only [Act.put, List.setIfInBounds_toArray, List.set_cons_zero, List.set_cons_succ]
  first | (refine skipH (i := 5) (dst := some 47) rfl rfl (by kernel_rfl) (by kernel_rfl) (by kernel_rfl) (fun _ _ _ h => h) (by rfl) hHeld ?_) | (refine' takeH (i := 5) (dst := some 47) (v := _) rfl rfl (by kernel_rfl) (by kernel_rfl) (by kernel_rfl) (fun _ _ _ h => h) (by rfl) ?hy hHeld ?_; case hy => (intro w hSw; clear hSw; (first | done | go_simp); try with_reducible rfl)) | fail
  try simp only [Act.put, List.setIfInBounds_toArray, List.set_cons_zero, List.set_cons_succ]
  first | (refine skipH (i := 6) (dst := some 48) rfl rfl (by kernel_rfl) (by kernel_rfl) (by kernel_rfl) (fun _ _ _ h => h) (by rfl) hHeld ?_) | (refine' takeH (i := 6) (dst := some 48) (v := _) rfl rfl (by kernel_rfl) (by kernel_rfl) (by kernel_rfl) (fun _ _ _ h => h) (by rfl) ?hy hHeld ?_; case hy => (intro w hSw; clear hSw; (first | done | go_simp); try with_reducible rfl)) | fail
  try simp only [Act.put, List.setIfInBounds_toArray, List.set_cons_zero, List.set_cons_succ]
  first | (refine skipH (i := 7) (dst := some 49) rfl rfl (by kernel_rfl) (by kernel_rfl) (by kernel_rfl) (fun _ _ _ h => h) (by rfl) hHeld ?_) | (refine' takeH (i := 7) (dst := some 49) (v := _) rfl rfl (by kernel_rfl) (by kernel_rfl) (by kernel_rfl) (fun _ _ _ h => h) (by rfl) ?hy hHeld ?_; case hy => (intro w hSw; clear hSw; (first | done | go_simp); try with_reducible rfl)) | fail
  try simp only [Act.put, List.setIfInBounds_toArray, List.set_cons_zero, List.set_cons_succ]
  first | (refine skipH (i := 8) (dst := some 50) rfl rfl (by kernel_rfl) (by kernel_rfl) (by kernel_rfl) (fun _ _ _ h => h) (by rfl) hHeld ?_) | (refine' takeH (i := 8) (dst := some 50) (v := _) rfl rfl (by kernel_rfl) (by kernel_rfl) (by kernel_rfl) (fun _ _ _ h => h) (by rfl) ?hy hHeld ?_; case hy => (intro w hSw; clear hSw; (first | done | go_simp); try with_reducible rfl)) | fail
  try simp only [Act.put, List.setIfInBounds_toArray, List.set_cons_zero, List.set_cons_succ]
  first | (refine skipH (i := 9) (dst := some 51) rfl rfl (by kernel_rfl) (by kernel_rfl) (by kernel_rfl) (fun _ _ _ h => h) (by rfl) hHeld ?_) | (refine' takeH (i := 9) (dst := some 51) (v := _) rfl rfl (by kernel_rfl) (by kernel_rfl) (by kernel_rfl) (fun _ _ _ h => h) (by rfl) ?hy hHeld ?_; case hy => (intro w hSw; clear hSw; (first | done | go_simp); try with_reducible rfl)) | fail
  try simp only [Act.put, List.setIfInBounds_toArray, List.set_cons_zero, List.set_cons_succ]
  first | (refine skipH (i := 10) (dst := some 52) rfl rfl (by kernel_rfl) (by kernel_rfl) (by kernel_rfl) (fun _ _ _ h => h) (by rfl) hHeld ?_) | (refine' takeH (i := 10) (dst := some 52) (v := _) rfl rfl (by kernel_rfl) (by kernel_rfl) (by kernel_rfl) (fun _ _ _ h => h) (by rfl) ?hy hHeld ?_; case hy => (intro w hSw; clear hSw; (first | done | go_simp); try with_reducible rfl)) | fail
  try simp only [Act.put, List.setIfInBounds_toArray, List.set_cons_zero, List.set_cons_succ]
  first | (refine skipH (i := 11) (dst := some 53) rfl rfl (by kernel_rfl) (by kernel_rfl) (by kernel_rfl) (fun _ _ _ h => h) (by rfl) hHeld ?_) | (refine' takeH (i := 11) (dst := some 53) (v := _) rfl rfl (by kernel_rfl) (by kernel_rfl) (by kernel_rfl) (fun _ _ _ h => h) (by rfl) ?hy hHeld ?_; case hy => (intro w hSw; clear hSw; (first | done | go_simp); try with_reducible rfl)) | fail
  try simp only [Act.put, List.setIfInBounds_toArray, List.set_cons_zero, List.set_cons_succ]
  first | (refine skipH (i := 12) (dst := some 54) rfl rfl (by kernel_rfl) (by kernel_rfl) (by kernel_rfl) (fun _ _ _ h => h) (by rfl) hHeld ?_) | (refine' takeH (i := 12) (dst := some 54) (v := _) rfl rfl (by kernel_rfl) (by kernel_rfl) (by kernel_rfl) (fun _ _ _ h => h) (by rfl) ?hy hHeld ?_; case hy => (intro w hSw; clear hSw; (first | done | go_simp); try with_reducible rfl)) | fail
  try simp only [Act.put, List.setIfInBounds_toArray, List.set_cons_zero, List.set_cons_succ]
  first | (refine skipH (i := 13) (dst := some 55) rfl rfl (by kernel_rfl) (by kernel_rfl) (by kernel_rfl) (fun _ _ _ h => h) (by rfl) hHeld ?_) | (refine' takeH (i := 13) (dst := some 55) (v := _) rfl rfl (by kernel_rfl) (by kernel_rfl) (by kernel_rfl) (fun _ _ _ h => h) (by rfl) ?hy hHeld ?_; case hy => (intro w hSw; clear hSw; (first | done | go_simp); try with_reducible rfl)) | fail
  try simp only [Act.put, List.setIfInBounds_toArray, List.set_cons_zero, List.set_cons_succ]
  first | (refine skipH (i := 14) (dst := some 56) rfl rfl (by kernel_rfl) (by kernel_rfl) (by kernel_rfl) (fun _ _ _ h => h) (by rfl) hHeld ?_) | (refine' takeH (i := 14) (dst := some 56) (v := _) rfl rfl (by kernel_rfl) (by kernel_rfl) (by kernel_rfl) (fun _ _ _ h => h) (by rfl) ?hy hHeld ?_; case hy => (intro w hSw; clear hSw; (first | done | go_simp); try with_reducible rfl)) | fail
  try simp only [Act.put, List.setIfInBounds_toArray, List.set_cons_zero, List.set_cons_succ]
  first | (refine skipH (i := 15) (dst := some 57) rfl rfl (by kernel_rfl) (by kernel_rfl) (by kernel_rfl) (fun _ _ _ h => h) (by rfl) hHeld ?_) | (refine' takeH (i := 15) (dst := some 57) (v := _) rfl rfl (by kernel_rfl) (by kernel_rfl) (by kernel_rfl) (fun _ _ _ h => h) (by rfl) ?hy hHeld ?_; case hy => (intro w hSw; clear hSw; (first | done | go_simp); try with_reducible rfl)) | fail
  try simp only [Act.put, List.setIfInBounds_toArray, List.set_cons_zero, List.set_cons_succ]
  first | (refine skipH (i := 16) (dst := some 58) rfl rfl (by kernel_rfl) (by kernel_rfl) (by kernel_rfl) (fun _ _ _ h => h) (by rfl) hHeld ?_) | (refine' takeH (i := 16) (dst := some 58) (v := _) rfl rfl (by kernel_rfl) (by kernel_rfl) (by kernel_rfl) (fun _ _ _ h => h) (by rfl) ?hy hHeld ?_; case hy => (intro w hSw; clear hSw; (first | done | go_simp); try with_reducible rfl)) | fail
  try simp only [Act.put, List.setIfInBounds_toArray, List.set_cons_zero, List.set_cons_succ]
  first | (refine skipH (i := 17) (dst := some 59) rfl rfl (by kernel_rfl) (by kernel_rfl) (by kernel_rfl) (fun _ _ _ h => h) (by rfl) hHeld ?_) | (refine' takeH (i := 17) (dst := some 59) (v := _) rfl rfl (by kernel_rfl) (by kernel_rfl) (by kernel_rfl) (fun _ _ _ h => h) (by rfl) ?hy hHeld ?_; case hy => (intro w hSw; clear hSw; (first | done | go_simp); try with_reducible rfl)) | fail
  try simp only [Act.put, List.setIfInBounds_toArray, List.set_cons_zero, List.set_cons_succ]
  first | (refine skipH (i := 18) (dst := some 60) rfl rfl (by kernel_rfl) (by kernel_rfl) (by kernel_rfl) (fun _ _ _ h => h) (by rfl) hHeld ?_) | (refine' takeH (i := 18) (dst := some 60) (v := _) rfl rfl (by kernel_rfl) (by kernel_rfl) (by kernel_rfl) (fun _ _ _ h => h) (by rfl) ?hy hHeld ?_; case hy => (intro w hSw; clear hSw; (first | done | go_simp); try with_reducible rfl)) | fail
  try simp only [Act.put, List.setIfInBounds_toArray, List.set_cons_zero, List.set_cons_succ]
  first | (refine skipH (i := 19) (dst := some 61) rfl rfl (by kernel_rfl) (by kernel_rfl) (by kernel_rfl) (fun _ _ _ h => h) (by rfl) hHeld ?_) | (refine' takeH (i := 19) (dst := some 61) (v := _) rfl rfl (by kernel_rfl) (by kernel_rfl) (by kernel_rfl) (fun _ _ _ h => h) (by rfl) ?hy hHeld ?_; case hy => (intro w hSw; clear hSw; (first | done | go_simp); try with_reducible rfl)) | fail
  try simp only [Act.put, List.setIfInBounds_toArray, List.set_cons_zero, List.set_cons_succ]
  first | (refine skipH (i := 20) (dst := some 62) rfl rfl (by kernel_rfl) (by kernel_rfl) (by kernel_rfl) (fun _ _ _ h => h) (by rfl) hHeld ?_) | (refine' takeH (i := 20) (dst := some 62) (v := _) rfl rfl (by kernel_rfl) (by kernel_rfl) (by kernel_rfl) (fun _ _ _ h => h) (by rfl) ?hy hHeld ?_; case hy => (intro w hSw; clear hSw; (first | done | go_simp); try with_reducible rfl)) | fail
  try simp only [Act.put, List.setIfInBounds_toArray, List.set_cons_zero, List.set_cons_succ]
  refine wpAnyH_ready (rs := [21]) (by kernel_rfl) (by simp) ?_
  refine AllReadyH.cons (i := 21) (o := ⟨some 63, .call _, _, _, _, _⟩) rfl (fun K hK => ?_) AllReadyH.nil
  go_simp
  refine (HSC.out _ hHeld.2).mono ?_
  rintro e x1 ⟨rfl, x1b⟩
  have hH := HEK.out _ (bt hHeld.2 x1b)
  clear x1b
  refine hK.out _ _ hH (fun _ => ?_)
  clear hK K hHeld
  have hHeld := hH
  clear hH
  try simp only [Act.put, List.setIfInBounds_toArray, List.set_cons_zero, List.set_cons_succ]
  first | (refine skipH (i := 22) (dst := some 64) rfl rfl (by kernel_rfl) (by kernel_rfl) (by kernel_rfl) (fun _ _ _ h => h) (by rfl) hHeld ?_) | (refine' takeH (i := 22) (dst := some 64) (v := _) rfl rfl (by kernel_rfl) (by kernel_rfl) (by kernel_rfl) (fun _ _ _ h => h) (by rfl) ?hy hHeld ?_; case hy => (intro w hSw; clear hSw; (first | done | go_simp); try with_reducible rfl)) | fail
  try simp only [Act.put, List.setIfInBounds_toArray, List.set_cons_zero, List.set_cons_succ]
  first | (refine skipH (i := 23) (dst := some 65) rfl rfl (by kernel_rfl) (by kernel_rfl) (by kernel_rfl) (fun _ _ _ h => h) (by rfl) hHeld ?_) | (refine' takeH (i := 23) (dst := some 65) (v := _) rfl rfl (by kernel_rfl) (by kernel_rfl) (by kernel_rfl) (fun _ _ _ h => h) (by rfl) ?hy hHeld ?_; case hy => (intro w hSw; clear hSw; (first | done | go_simp); try with_reducible rfl)) | fail
  try simp only [Act.put, List.setIfInBounds_toArray, List.set_cons_zero, List.set_cons_succ]
  first | (refine skipH (i := 24) (dst := some 66) rfl rfl (by kernel_rfl) (by kernel_rfl) (by kernel_rfl) (fun _ _ _ h => h) (by rfl) hHeld ?_) | (refine' takeH (i := 24) (dst := some 66) (v := _) rfl rfl (by kernel_rfl) (by kernel_rfl) (by kernel_rfl) (fun _ _ _ h => h) (by rfl) ?hy hHeld ?_; case hy => (intro w hSw; clear hSw; (first | done | go_simp); try with_reducible rfl)) | fail
  try simp only [Act.put, List.setIfInBounds_toArray, List.set_cons_zero, List.set_cons_succ]
  first | (refine skipH (i := 25) (dst := some 67) rfl rfl (by kernel_rfl) (by kernel_rfl) (by kernel_rfl) (fun _ _ _ h => h) (by rfl) hHeld ?_) | (refine' takeH (i := 25) (dst := some 67) (v := _) rfl rfl (by kernel_rfl) (by kernel_rfl) (by kernel_rfl) (fun _ _ _ h => h) (by rfl) ?hy hHeld ?_; case hy => (intro w hSw; obtain ⟨⟨_, _, _, _, _, _, _, _, _, _, _, _, _, _⟩, _⟩ := hSw; (first | done | go_simp); try with_reducible rfl)) | fail
  try simp only [Act.put, List.setIfInBounds_toArray, List.set_cons_zero, List.set_cons_succ]
  first | (refine skipH (i := 27) (dst := some 69) rfl rfl (by kernel_rfl) (by kernel_rfl) (by kernel_rfl) (fun _ _ _ h => h) (by rfl) hHeld ?_) | (refine' takeH (i := 27) (dst := some 69) (v := _) rfl rfl (by kernel_rfl) (by kernel_rfl) (by kernel_rfl) (fun _ _ _ h => h) (by rfl) ?hy hHeld ?_; case hy => (intro w hSw; obtain ⟨⟨_, _, _, _, _, _, _, _, _, _, _, _, _, _⟩, _⟩ := hSw; (first | done | go_simp); try with_reducible rfl)) | fail
  try simp only [Act.put, List.setIfInBounds_toArray, List.set_cons_zero, List.set_cons_succ]
  first | (refine skipH (i := 29) (dst := some 71) rfl rfl (by kernel_rfl) (by kernel_rfl) (by kernel_rfl) (fun _ _ _ h => h) (by rfl) hHeld ?_) | (refine' takeH (i := 29) (dst := some 71) (v := _) rfl rfl (by kernel_rfl) (by kernel_rfl) (by kernel_rfl) (fun _ _ _ h => h) (by rfl) ?hy hHeld ?_; case hy => (intro w hSw; obtain ⟨⟨_, _, _, _, _, _, _, _, _, _, _, _, _, _⟩, _⟩ := hSw; (first | done | go_simp); try with_reducible rfl)) | fail
  try simp only [Act.put, List.setIfInBounds_toArray, List.set_cons_zero, List.set_cons_succ]
  first | (refine skipH (i := 30) (dst := some 72) rfl rfl (by kernel_rfl) (by kernel_rfl) (by kernel_rfl) (fun _ _ _ h => h) (by rfl) hHeld ?_) | (refine' takeH (i := 30) (dst := some 72) (v := _) rfl rfl (by kernel_rfl) (by kernel_rfl) (by kernel_rfl) (fun _ _ _ h => h) (by rfl) ?hy hHeld ?_; case hy => (intro w hSw; obtain ⟨⟨_, _, _, _, _, _, _, _, _, _, _, _, _, _⟩, _⟩ := hSw; (first | done | go_simp); try with_reducible rfl)) | fail
  try simp only [Act.put, List.setIfInBounds_toArray, List.set_cons_zero, List.set_cons_succ]
  refine wpAnyH_ready (rs := [26]) (by kernel_rfl) (by simp) ?_
  refine AllReadyH.cons (i := 26) (o := ⟨some 68, .call _, _, _, _, _⟩) rfl (fun K hK => ?_) AllReadyH.nil
  go_simp
  refine (HTW.out _ (bt BY.out hHeld.2)).mono ?_
  rintro e x2 ⟨A2, m2, k2, rfl, hk2, ho2, x2b⟩
  have hI2 := Lib.hid (HCL.out _ _ _ _ _ ho2)
  have HX2 := Lib.hid hk2
  have hH := HEK.out _ (bt hHeld.2 x2b)
  clear x2b hk2 ho2
  refine hK.out _ _ hH (fun _ => ?_)
  clear hK K hHeld
  have hHeld := hH
  clear hH
  try simp only [Act.put, List.setIfInBounds_toArray, List.set_cons_zero, List.set_cons_succ]
  refine wpAnyH_ready (rs := [28]) (by kernel_rfl) (by simp) ?_
  refine AllReadyH.cons (i := 28) (o := ⟨some 70, .call _, _, _, _, _⟩) rfl (fun K hK => ?_) AllReadyH.nil
  go_simp
  refine (HSM.out _ _ _ _ (bt BY.out hHeld.2) HX2.out hI2.out).mono ?_
  rintro e x3 ⟨rfl, x3b⟩
  have hH := HEK.out _ (bt hHeld.2 x3b)
  clear x3b hI2 HX2
  refine hK.out _ _ hH (fun _ => ?_)
  clear hK K hHeld
  have hHeld := hH
  clear hH
  try simp only [Act.put, List.setIfInBounds_toArray, List.set_cons_zero, List.set_cons_succ]
  refine wpAnyH_ready (rs := [31]) (by kernel_rfl) (by simp) ?_
  refine AllReadyH.cons (i := 31) (o := ⟨some 73, .call _, _, _, _, _⟩) rfl (fun K hK => ?_) AllReadyH.nil
  go_simp
  refine (HRS.out _ (bt BY.out hHeld.2)).mono ?_
  rintro e x4 ⟨rfl, x4b⟩
  have hH := HEK.out _ (bt hHeld.2 x4b)
  clear x4b
  refine hK.out _ _ hH (fun _ => ?_)
  clear hK K hHeld
  have hHeld := hH
  clear hH
  try simp only [Act.put, List.setIfInBounds_toArray, List.set_cons_zero, List.set_cons_succ]
  first | (refine skipH (i := 32) (dst := some 74) rfl rfl (by kernel_rfl) (by kernel_rfl) (by kernel_rfl) (fun _ _ _ h => h) (by rfl) hHeld ?_) | (refine' takeH (i := 32) (dst := some 74) (v := _) rfl rfl (by kernel_rfl) (by kernel_rfl) (by kernel_rfl) (fun _ _ _ h => h) (by rfl) ?hy hHeld ?_; case hy => (intro w hSw; clear hSw; (first | done | go_simp); try with_reducible rfl)) | fail
  try simp only [Act.put, List.setIfInBounds_toArray, List.set_cons_zero, List.set_cons_succ]
  first | (refine skipH (i := 33) (dst := some 75) rfl rfl (by kernel_rfl) (by kernel_rfl) (by kernel_rfl) (fun _ _ _ h => h) (by rfl) hHeld ?_) | (refine' takeH (i := 33) (dst := some 75) (v := _) rfl rfl (by kernel_rfl) (by kernel_rfl) (by kernel_rfl) (fun _ _ _ h => h) (by rfl) ?hy hHeld ?_; case hy => (intro w hSw; clear hSw; (first | done | go_simp); try with_reducible rfl)) | fail
  try simp only [Act.put, List.setIfInBounds_toArray, List.set_cons_zero, List.set_cons_succ]
  first | (refine skipH (i := 34) (dst := some 76) rfl rfl (by kernel_rfl) (by kernel_rfl) (by kernel_rfl) (fun _ _ _ h => h) (by rfl) hHeld ?_) | (refine' takeH (i := 34) (dst := some 76) (v := _) rfl rfl (by kernel_rfl) (by kernel_rfl) (by kernel_rfl) (fun _ _ _ h => h) (by rfl) ?hy hHeld ?_; case hy => (intro w hSw; clear hSw; (first | done | go_simp); try with_reducible rfl)) | fail
  try simp only [Act.put, List.setIfInBounds_toArray, List.set_cons_zero, List.set_cons_succ]
  first | (refine skipH (i := 35) (dst := some 77) rfl rfl (by kernel_rfl) (by kernel_rfl) (by kernel_rfl) (fun _ _ _ h => h) (by rfl) hHeld ?_) | (refine' takeH (i := 35) (dst := some 77) (v := _) rfl rfl (by kernel_rfl) (by kernel_rfl) (by kernel_rfl) (fun _ _ _ h => h) (by rfl) ?hy hHeld ?_; case hy => (intro w hSw; obtain ⟨⟨_, _, _, _, _, _, _, _, _, _, _, _, _, _⟩, _⟩ := hSw; (first | done | go_simp); try with_reducible rfl)) | fail
  try simp only [Act.put, List.setIfInBounds_toArray, List.set_cons_zero, List.set_cons_succ]
  first | (refine skipH (i := 36) (dst := some 78) rfl rfl (by kernel_rfl) (by kernel_rfl) (by kernel_rfl) (fun _ _ _ h => h) (by rfl) hHeld ?_) | (refine' takeH (i := 36) (dst := some 78) (v := _) rfl rfl (by kernel_rfl) (by kernel_rfl) (by kernel_rfl) (fun _ _ _ h => h) (by rfl) ?hy hHeld ?_; case hy => (intro w hSw; obtain ⟨⟨_, _, _, _, _, _, _, _, _, _, _, _, _, _⟩, _⟩ := hSw; (first | done | go_simp); try with_reducible rfl)) | fail
  try simp only [Act.put, List.setIfInBounds_toArray, List.set_cons_zero, List.set_cons_succ]
  refine wpAnyH_ready (rs := [37]) (by kernel_rfl) (by simp) ?_
  refine AllReadyH.cons (i := 37) (o := ⟨some 79, .call _, _, _, _, _⟩) rfl (fun K hK => ?_) AllReadyH.nil
  go_simp
  refine (HTW.out _ (bt BY.out hHeld.2)).mono ?_
  rintro e x5 ⟨A5, m5, k5, rfl, hk5, ho5, x5b⟩
  have hI5 := Lib.hid (HCL.out _ _ _ _ _ ho5)
  have HX5 := Lib.hid hk5
  have hH := HEK.out _ (bt hHeld.2 x5b)
  clear x5b hk5 ho5
  refine hK.out _ _ hH (fun _ => ?_)
  clear hK K hHeld
  have hHeld := hH
  clear hH
  try simp only [Act.put, List.setIfInBounds_toArray, List.set_cons_zero, List.set_cons_succ]
  refine wpAnyH_ready (rs := [38]) (by kernel_rfl) (by simp) ?_
  refine AllReadyH.cons (i := 38) (o := ⟨some 80, .call _, _, _, _, _⟩) rfl (fun K hK => ?_) AllReadyH.nil
  go_simp
  refine (HSA.out _ _ _ _ (bt BY.out hHeld.2) HX5.out hI5.out).mono ?_
  rintro e x6 ⟨rfl, x6b⟩
  have hH := HEK.out _ (bt hHeld.2 x6b)
  clear x6b hI5 HX5
  refine hK.out _ _ hH (fun _ => ?_)
  clear hK K hHeld
  have hHeld := hH
  clear hH
  try simp only [Act.put, List.setIfInBounds_toArray, List.set_cons_zero, List.set_cons_succ]
  first | (refine skipH (i := 39) (dst := some 81) rfl rfl (by kernel_rfl) (by kernel_rfl) (by kernel_rfl) (fun _ _ _ h => h) (by rfl) hHeld ?_) | (refine' takeH (i := 39) (dst := some 81) (v := _) rfl rfl (by kernel_rfl) (by kernel_rfl) (by kernel_rfl) (fun _ _ _ h => h) (by rfl) ?hy hHeld ?_; case hy => (intro w hSw; clear hSw; (first | done | go_simp); try with_reducible rfl)) | fail
  try simp only [Act.put, List.setIfInBounds_toArray, List.set_cons_zero, List.set_cons_succ]
  first | (refine skipH (i := 40) (dst := some 82) rfl rfl (by kernel_rfl) (by kernel_rfl) (by kernel_rfl) (fun _ _ _ h => h) (by rfl) hHeld ?_) | (refine' takeH (i := 40) (dst := some 82) (v := _) rfl rfl (by kernel_rfl) (by kernel_rfl) (by kernel_rfl) (fun _ _ _ h => h) (by rfl) ?hy hHeld ?_; case hy => (intro w hSw; clear hSw; (first | done | go_simp); try with_reducible rfl)) | fail
  try simp only [Act.put, List.setIfInBounds_toArray, List.set_cons_zero, List.set_cons_succ]
  refine wpAnyH_done (by kernel_rfl) (NoPanic.normal ?_) _
  have B6 := Lib.hid (bt BY.out hHeld.2)
  have R6 := Lib.hid (RY.out.below hHeld.2)
  clear hHeld HEK HSC HTW HSM HSA HRS HCL RY BY BY2 n1 n2 n3 n4 n5
  go_wp2_with fail
  have hw2 : w.heap.size ≤ W2.heap.size := by omega
  go_loopw [18] (fun v18 wr => ∃ (k : Nat) (L' : List Cd), k ≤ n ∧ v18 = .int .i64 k ∧ L'.length = L.length ∧ (∀ j, MildC 1048577 (L'.getD j cd0)) ∧ (∀ j, k ≤ j → L'.getD j cd0 = L.getD j cd0) ∧ Ro.RowsOwn KC wr W2.heap.size A1 n cq L' R ∧ Below w.heap.size w wr) (fun v18 _ => n - (RowKit.intOf v18).toNat)
  case atStart => exact ⟨0, L, by omega, rfl, rfl, fun j => (HM.out.2 j).mono (by omega), fun _ _ => rfl, R6.out, B6.out⟩
  case round =>
    clear R6 B6
    obtain ⟨k, L', hk, rfl, hLL, hML, hfr, hro, hbw⟩ := hrel
    have HLL := Lib.hid hLL
    have HML := Lib.hid hML
    have HFR := Lib.hid hfr
    have HRO := Lib.hid hro
    have HB := Lib.hid hbw
    clear hLL hML hfr hro hbw
    by_cases hlt : k < n
    · have hL'k : k < L'.length := by rw [HLL.out, ← HN.out]; exact hlt
      obtain ⟨rka, rkn, rkc, hRk⟩ : ∃ ra rn rc, R.getD k sl0 = (ra, rn, rc) := ⟨_, _, _, rfl⟩
      have HRK := Lib.hid hRk
      have hdk := HFR.out k (Nat.le_refl _)
      have hmk := HM.out.2 k
      have hr1 := HRO.out
      have hsel : L'.set k (L'.getD k cd0) = L' := set_self _ _ _ (some_at L' cd0 k hL'k)
      rw [← hsel, hdk] at hr1
      obtain ⟨hrn, g, rfl, hgb, hgs, fz, e0, e3, hwr, _⟩ := card_at hr1 hlt hRk
      have HRN := Lib.hid hrn
      have hnl : (L.getD k cd0).name.length ≤ 1048576 := hmk.1
      have HW := Lib.hid (hwr ((L.getD k cd0).name ++ [98]))
      have HMK := Lib.hid hmk
      have hse : (str (L.getD k cd0).name).size ≤ 1048576 := by rw [str_size]; exact hnl
      have hrb : rkn ≤ 1048576 := by rw [HRN.out]; exact hmk.2.2.2.1
      have HAP : Hid (str (L.getD k cd0).name ++ ⟨#[98]⟩ = str ((L.getD k cd0).name ++ [98])) := Lib.hid (str_app _ [98])
      have k1 : (0 : Int) ≤ (k : Int) := by omega
      have k2 : (k : Int) < (n : Int) := by omega
      clear hdk hmk hr1 hsel hRk hrn hwr hnl
      generalize str (L.getD k cd0).name = S1 at e0 hse HAP
      go_wp2_with fail
      have HW2 : Hid (Ro.RowsOwn KC (wr.setCell ⟨g, k * 7, none⟩ (.string (S1 ++ ⟨#[98]⟩))) W2.heap.size (some ⟨g, 0, none⟩) n cq (L'.set k { L.getD k cd0 with name := (L.getD k cd0).name ++ [98] }) R) := Lib.hid (by have := HW.out; rw [← HAP.out] at this; exact this)
      have HB2 := Lib.hid (below_set (p := ⟨g, k * 7, none⟩) HB.out (show w.heap.size ≤ g by omega) (.string (S1 ++ ⟨#[98]⟩)))
      clear HW HAP HB
      go_loopw [19] (fun v19 wi => ∃ (j : Nat) (ls : List (List UInt8)), j ≤ rkn ∧ v19 = .int .i64 (j : Int) ∧ ls.length = rkn ∧ (∀ i, (ls.getD i []).length ≤ 1048576) ∧ Ro.RowsOwn KC wi W2.heap.size (some ⟨g, 0, none⟩) n cq (L'.set k { L.getD k cd0 with name := (L.getD k cd0).name ++ [98], compat := ls }) R ∧ Below w.heap.size w wi) (fun v19 _ => rkn - (RowKit.intOf v19).toNat)
      case atStart => exact ⟨0, (L.getD k cd0).compat, by omega, rfl, HRN.out.symm, HMK.out.2.2.2.2, HW2.out, HB2.out⟩
      case round =>
        clear HW2 HB2 HRO e0 e3 fz hgs
        obtain ⟨j, ls, hj, rfl, hls, hml, hro, hbw⟩ := hrel
        have HLS := Lib.hid hls
        have HMS := Lib.hid hml
        have HRO := Lib.hid hro
        have HB := Lib.hid hbw
        obtain ⟨hq9, g', hg', _, hgs, _, _, e3, _, hwr⟩ := card_at hro hlt HRK.out
        clear hq9
        injection hg' with hg'
        injection hg' with hg'
        subst hg'
        clear hls hml hro hbw
        by_cases hjl : j < rkn
        · obtain ⟨g2, rfl, hg2b, hg2s, hw⟩ := hwr (by omega)
          obtain ⟨e2, z2, hw2⟩ := hw j hjl
          have HW := Lib.hid (hw2 [120])
          have HB3 := Lib.hid (below_set (p := ⟨g2, j, none⟩) HB.out (show w.heap.size ≤ g2 by omega) (.string (str [120])))
          have j1 : (0 : Int) ≤ (j : Int) := by omega
          have j2 : (j : Int) < (rkn : Int) := by omega
          clear hw hwr hw2
          generalize str (ls.getD j []) = X at e2
          go_wp2_with fail
          go_roundw
          case rel => exact ⟨j + 1, ls.set j [120], by omega, by go_num, by rw [List.length_set]; exact HLS.out, fun i => by
            rw [getD_set _ _ _ _ _ (by rw [HLS.out]; exact hjl)]
            by_cases hij : i = j
            · rw [if_pos hij]; decide
            · rw [if_neg hij]; exact HMS.out i, HW.out, HB3.out⟩
          case measure => simp [RowKit.intOf]; omega
        · obtain rfl : rkn = j := by omega
          clear hwr
          go_wp2_with fail
          go_roundw
          case rel => exact ⟨k + 1, _, by omega, by go_num, by rw [List.length_set]; exact HLL.out, fun i => by
            rw [getD_set _ _ _ _ _ hL'k]
            by_cases hik : i = k
            · rw [if_pos hik]
              obtain ⟨x1, x2, x3, x4, x5⟩ := HMK.out
              exact ⟨by show ((L.getD k cd0).name ++ [98]).length ≤ _; rw [List.length_append]; exact Nat.add_le_add x1 (Nat.le_refl 1), Nat.le_trans x2 (by omega), Nat.le_trans x3 (by omega), by show ls.length ≤ _; rw [HLS.out, HRN.out]; omega, fun i => Nat.le_trans (HMS.out i) (by omega)⟩
            · rw [if_neg hik]; exact HML.out i, fun i hi => by
            rw [getD_set _ _ _ _ _ hL'k, if_neg (by omega)]
            exact HFR.out i (by omega), HRO.out, HB.out⟩
          case measure => simp [RowKit.intOf]; omega
    · obtain rfl : n = k := by omega
      obtain ⟨at1, er1, hC1⟩ := chkC_ex L'
      have HC1 := Lib.hid hC1
      have hml : MildL 1099511627776 L' := ⟨by rw [HLL.out, ← HN.out]; omega, fun i => (HML.out i).mono (by omega)⟩
      have HML2 := Lib.hid hml
      have HCH := Lib.hid (check_any A1 cq n L' R at1 er1 wr HC1.out HML2.out (fun k => (HRO.out.neat k).2) HRO.out.rows)
      have HTN := Lib.hid fun (W : World) (hW : Below wr.heap.size wr W) => twins_any A1 cq n L' R W HML2.out (HRO.out.below hW).rows (fun k => (HRO.out.neat k).1)
      have HRC := Lib.hid fun (A2 : Option Addr) (c2 n2 : Nat) (R2 : List Sl) (W W' : World) (h : Ro.RowsOwn KC W' W.heap.size A2 n2 c2 L' R2) => refCheck_any A2 c2 n2 L' R2 at1 er1 W' HC1.out HML2.out h.neatA.2 h.rows
      have m1 : ((at1 : Int) == (at1 : Int)) = true := by simp
      have m2 : (er1 == er1) = true := by simp
      clear hC1 hml
      go_wp2_with fail
      refine HCH.out.mono ?_
      rintro e w7 ⟨rfl, b7⟩
      have B7 := Lib.hid b7
      clear b7 HCH
      go_wp2_with fail
      refine (HTN.out _ B7.out).mono ?_
      rintro e w8 ⟨A2, c2, n2, R2, rfl, hr8, b8⟩
      have R8 := Lib.hid hr8
      have B8 := Lib.hid (bt HB.out (bt B7.out b8))
      clear hr8 b8 HTN B7
      go_wp2_with fail
      refine (HRC.out _ _ _ _ _ _ R8.out).mono ?_
      rintro e w9 ⟨rfl, b9⟩
      have B9 := Lib.hid (bt B8.out b9)
      clear b9 HRC B8
      go_wp2_with fail
      go_ret
      exact ⟨rfl, B9.out⟩
end Go.Proofs.Ytcbjmmehnfakkaa.Kc
