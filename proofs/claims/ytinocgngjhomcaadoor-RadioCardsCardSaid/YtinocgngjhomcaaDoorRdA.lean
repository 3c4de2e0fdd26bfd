/- RadioCards: two lists of cards compared by the law's own function. -/
import Derived.Test.YtinocgngjhomcaaDoorKsF
namespace Go.Proofs.YtinocgngjhomcaaDoor.Kr
open Go.ChangeShapes Go.WideShapes Go.ChangeAt Go.RowKit Own Ro wordsNames Kc

theorem cell_up (w : World) (o : Obj) {a : Addr} {v : Value} (h : w.cell? a = some v) : (w.alloc o).cell? a = some v := by
  rw [(grows' w o).cell (World.block_lt_of_cell? w _ h)]
  exact h
theorem box_new (w : World) (c : Array Value) (t : TypeId) (j : Nat) (v : Value) (h : c[j]? = some v) : (w.alloc (.cells c t)).cell? ⟨w.heap.size, j, none⟩ = some v := by
  rw [World.cell?_alloc_at _ _ _ _ rfl]
  exact h
set_option maxRecDepth 100000 in
set_option maxHeartbeats 8000000 in
theorem eqcards_any (A B : Option Addr) (c n d : Nat) (L : List Cd) (R R2 : List Sl) (w : World) (hn : n ≤ 1099511627776) (hA : Ro.RowsIn KC w A n L R) (hB : Ro.RowsIn KC w B n L R2) (hs : ∀ k, (L.getD k cd0).compat.length ≤ 1000) :
    Calls Tryd.prog 22 #[.slice A n c, .slice B n d] w fun e w' => e = .returned (.bool true) ∧ Below w.heap.size w w' := by
  have GA := Lib.hid hA
  have GB := Lib.hid hB
  have HS := Lib.hid hs
  clear hA hB hs
  go_enter Tryd.func22, Tryd.ntmps22
  go_wp2_with fail
  go_loopw [5] (fun v5 wr => ∃ (k : Nat), k ≤ n ∧ v5 = .int .i64 k ∧ Below w.heap.size w wr) (fun v5 _ => n - (RowKit.intOf v5).toNat)
  case atStart => exact ⟨0, by omega, rfl, Below.refl _ _⟩
  case round =>
    obtain ⟨k, hk, rfl, hbw⟩ := hrel
    have HB := Lib.hid hbw
    clear hbw
    by_cases hlt : k < n
    · obtain ⟨b0, o0, rfl, hbs, hc, hlen, hin⟩ := (GA.out.below HB.out).at hlt
      obtain ⟨b1, o1, rfl, hbs1, hd, hlen1, hin1⟩ := (GB.out.below HB.out).at hlt
      have hcl := HS.out k
      have e0 : wr.cell? ⟨b0, o0 + k * 7, none⟩ = some (.string (str (L.getD k cd0).name)) := hc 0 _ rfl
      have e1 : wr.cell? ⟨b0, o0 + k * 7 + 1, none⟩ = some (.string (str (L.getD k cd0).fam)) := hc 1 _ rfl
      have e2 : wr.cell? ⟨b0, o0 + k * 7 + 2, none⟩ = some (.int .u8 (L.getD k cd0).level) := hc 2 _ rfl
      have e3 : wr.cell? ⟨b0, o0 + k * 7 + 3, none⟩ = some (slV (R.getD k sl0)) := hc 3 _ rfl
      have e4 : wr.cell? ⟨b0, o0 + k * 7 + 4, none⟩ = some (.int .i8 (L.getD k cd0).score) := hc 4 _ rfl
      have e5 : wr.cell? ⟨b0, o0 + k * 7 + 5, none⟩ = some (.string (str (L.getD k cd0).quirk)) := hc 5 _ rfl
      have e6 : wr.cell? ⟨b0, o0 + k * 7 + 6, none⟩ = some (.int .i16 (L.getD k cd0).entry) := hc 6 _ rfl
      have f0 : wr.cell? ⟨b1, o1 + k * 7, none⟩ = some (.string (str (L.getD k cd0).name)) := hd 0 _ rfl
      have f1 : wr.cell? ⟨b1, o1 + k * 7 + 1, none⟩ = some (.string (str (L.getD k cd0).fam)) := hd 1 _ rfl
      have f2 : wr.cell? ⟨b1, o1 + k * 7 + 2, none⟩ = some (.int .u8 (L.getD k cd0).level) := hd 2 _ rfl
      have f3 : wr.cell? ⟨b1, o1 + k * 7 + 3, none⟩ = some (slV (R2.getD k sl0)) := hd 3 _ rfl
      have f4 : wr.cell? ⟨b1, o1 + k * 7 + 4, none⟩ = some (.int .i8 (L.getD k cd0).score) := hd 4 _ rfl
      have f5 : wr.cell? ⟨b1, o1 + k * 7 + 5, none⟩ = some (.string (str (L.getD k cd0).quirk)) := hd 5 _ rfl
      have f6 : wr.cell? ⟨b1, o1 + k * 7 + 6, none⟩ = some (.int .i16 (L.getD k cd0).entry) := hd 6 _ rfl
      replace hlen : (R.getD k sl0).2.1 = (L.getD k cd0).compat.length := hlen
      replace hlen1 : (R2.getD k sl0).2.1 = (L.getD k cd0).compat.length := hlen1
      replace hin : CellsIn wr 1 (R.getD k sl0).1 (R.getD k sl0).2.1 (strs (L.getD k cd0).compat) := hin
      replace hin1 : CellsIn wr 1 (R2.getD k sl0).1 (R2.getD k sl0).2.1 (strs (L.getD k cd0).compat) := hin1
      clear hc hd
      generalize L.getD k cd0 = q at *
      obtain ⟨nm, fm, lv, cp, sc, qk, en⟩ := q
      generalize R.getD k sl0 = r at *
      generalize R2.getD k sl0 = r2 at *
      obtain ⟨ra, rn, rc⟩ := r
      obtain ⟨sa, sn, sc2⟩ := r2
      simp only [slV] at e3 f3
      dsimp only at hlen hlen1 hin hin1 hcl e0 e1 e2 e4 e5 e6 f0 f1 f2 f4 f5 f6
      obtain rfl : sn = rn := by omega
      generalize str nm = nmS at *
      generalize str fm = fmS at *
      generalize str qk = qkS at *
      have hsn : sn ≤ 1000 := by omega
      have HI := Lib.hid hin
      have HI1 := Lib.hid hin1
      have HL := Lib.hid hlen
      clear hin hin1 hlen hlen1 hbs hbs1
      have hb1 : b1 < wr.heap.size := World.block_lt_of_cell? wr _ f0
      go_upto_region 7 with fail
      try dsimp only [Act.put]
      replace f0 := (cell_up wr (.cells #[.string nmS, .string fmS, .int .u8 lv, .slice ra sn rc, .int .i8 sc, .string qkS, .int .i16 en] 47) f0)
      replace f1 := (cell_up wr (.cells #[.string nmS, .string fmS, .int .u8 lv, .slice ra sn rc, .int .i8 sc, .string qkS, .int .i16 en] 47) f1)
      replace f2 := (cell_up wr (.cells #[.string nmS, .string fmS, .int .u8 lv, .slice ra sn rc, .int .i8 sc, .string qkS, .int .i16 en] 47) f2)
      replace f3 := (cell_up wr (.cells #[.string nmS, .string fmS, .int .u8 lv, .slice ra sn rc, .int .i8 sc, .string qkS, .int .i16 en] 47) f3)
      replace f4 := (cell_up wr (.cells #[.string nmS, .string fmS, .int .u8 lv, .slice ra sn rc, .int .i8 sc, .string qkS, .int .i16 en] 47) f4)
      replace f5 := (cell_up wr (.cells #[.string nmS, .string fmS, .int .u8 lv, .slice ra sn rc, .int .i8 sc, .string qkS, .int .i16 en] 47) f5)
      replace f6 := (cell_up wr (.cells #[.string nmS, .string fmS, .int .u8 lv, .slice ra sn rc, .int .i8 sc, .string qkS, .int .i16 en] 47) f6)
      have g0 := box_new wr #[.string nmS, .string fmS, .int .u8 lv, .slice ra sn rc, .int .i8 sc, .string qkS, .int .i16 en] 47 0 (.string nmS) rfl
      have g1 := box_new wr #[.string nmS, .string fmS, .int .u8 lv, .slice ra sn rc, .int .i8 sc, .string qkS, .int .i16 en] 47 1 (.string fmS) rfl
      have g2 := box_new wr #[.string nmS, .string fmS, .int .u8 lv, .slice ra sn rc, .int .i8 sc, .string qkS, .int .i16 en] 47 2 (.int .u8 lv) rfl
      have g3 := box_new wr #[.string nmS, .string fmS, .int .u8 lv, .slice ra sn rc, .int .i8 sc, .string qkS, .int .i16 en] 47 3 (.slice ra sn rc) rfl
      have g4 := box_new wr #[.string nmS, .string fmS, .int .u8 lv, .slice ra sn rc, .int .i8 sc, .string qkS, .int .i16 en] 47 4 (.int .i8 sc) rfl
      have g5 := box_new wr #[.string nmS, .string fmS, .int .u8 lv, .slice ra sn rc, .int .i8 sc, .string qkS, .int .i16 en] 47 5 (.string qkS) rfl
      have g6 := box_new wr #[.string nmS, .string fmS, .int .u8 lv, .slice ra sn rc, .int .i8 sc, .string qkS, .int .i16 en] 47 6 (.int .i16 en) rfl
      replace HI := Lib.hid (HI.out.below (grows' wr (.cells #[.string nmS, .string fmS, .int .u8 lv, .slice ra sn rc, .int .i8 sc, .string qkS, .int .i16 en] 47)))
      replace HI1 := Lib.hid (HI1.out.below (grows' wr (.cells #[.string nmS, .string fmS, .int .u8 lv, .slice ra sn rc, .int .i8 sc, .string qkS, .int .i16 en] 47)))
      replace HB := Lib.hid (bt HB.out (grows' wr (.cells #[.string nmS, .string fmS, .int .u8 lv, .slice ra sn rc, .int .i8 sc, .string qkS, .int .i16 en] 47)))
      have hbx : wr.heap.size < (wr.alloc (.cells #[.string nmS, .string fmS, .int .u8 lv, .slice ra sn rc, .int .i8 sc, .string qkS, .int .i16 en] 47)).heap.size := by simp
      generalize wr.alloc (.cells #[.string nmS, .string fmS, .int .u8 lv, .slice ra sn rc, .int .i8 sc, .string qkS, .int .i16 en] 47) = W6 at *
      generalize wr.heap.size = x6 at *
      clear e0 e1 e2 e3 e4 e5 e6
      go_upto_region 8 with fail
      try dsimp only [Act.put]
      replace g0 := (cell_up W6 (.cells #[.string nmS, .string fmS, .int .u8 lv, .slice sa sn sc2, .int .i8 sc, .string qkS, .int .i16 en] 47) g0)
      replace g1 := (cell_up W6 (.cells #[.string nmS, .string fmS, .int .u8 lv, .slice sa sn sc2, .int .i8 sc, .string qkS, .int .i16 en] 47) g1)
      replace g2 := (cell_up W6 (.cells #[.string nmS, .string fmS, .int .u8 lv, .slice sa sn sc2, .int .i8 sc, .string qkS, .int .i16 en] 47) g2)
      replace g3 := (cell_up W6 (.cells #[.string nmS, .string fmS, .int .u8 lv, .slice sa sn sc2, .int .i8 sc, .string qkS, .int .i16 en] 47) g3)
      replace g4 := (cell_up W6 (.cells #[.string nmS, .string fmS, .int .u8 lv, .slice sa sn sc2, .int .i8 sc, .string qkS, .int .i16 en] 47) g4)
      replace g5 := (cell_up W6 (.cells #[.string nmS, .string fmS, .int .u8 lv, .slice sa sn sc2, .int .i8 sc, .string qkS, .int .i16 en] 47) g5)
      replace g6 := (cell_up W6 (.cells #[.string nmS, .string fmS, .int .u8 lv, .slice sa sn sc2, .int .i8 sc, .string qkS, .int .i16 en] 47) g6)
      have h0 := box_new W6 #[.string nmS, .string fmS, .int .u8 lv, .slice sa sn sc2, .int .i8 sc, .string qkS, .int .i16 en] 47 0 (.string nmS) rfl
      have h1 := box_new W6 #[.string nmS, .string fmS, .int .u8 lv, .slice sa sn sc2, .int .i8 sc, .string qkS, .int .i16 en] 47 1 (.string fmS) rfl
      have h2 := box_new W6 #[.string nmS, .string fmS, .int .u8 lv, .slice sa sn sc2, .int .i8 sc, .string qkS, .int .i16 en] 47 2 (.int .u8 lv) rfl
      have h3 := box_new W6 #[.string nmS, .string fmS, .int .u8 lv, .slice sa sn sc2, .int .i8 sc, .string qkS, .int .i16 en] 47 3 (.slice sa sn sc2) rfl
      have h4 := box_new W6 #[.string nmS, .string fmS, .int .u8 lv, .slice sa sn sc2, .int .i8 sc, .string qkS, .int .i16 en] 47 4 (.int .i8 sc) rfl
      have h5 := box_new W6 #[.string nmS, .string fmS, .int .u8 lv, .slice sa sn sc2, .int .i8 sc, .string qkS, .int .i16 en] 47 5 (.string qkS) rfl
      have h6 := box_new W6 #[.string nmS, .string fmS, .int .u8 lv, .slice sa sn sc2, .int .i8 sc, .string qkS, .int .i16 en] 47 6 (.int .i16 en) rfl
      replace HI := Lib.hid (HI.out.below (grows' W6 (.cells #[.string nmS, .string fmS, .int .u8 lv, .slice sa sn sc2, .int .i8 sc, .string qkS, .int .i16 en] 47)))
      replace HI1 := Lib.hid (HI1.out.below (grows' W6 (.cells #[.string nmS, .string fmS, .int .u8 lv, .slice sa sn sc2, .int .i8 sc, .string qkS, .int .i16 en] 47)))
      replace HB := Lib.hid (bt HB.out (grows' W6 (.cells #[.string nmS, .string fmS, .int .u8 lv, .slice sa sn sc2, .int .i8 sc, .string qkS, .int .i16 en] 47)))
      generalize W6.alloc (.cells #[.string nmS, .string fmS, .int .u8 lv, .slice sa sn sc2, .int .i8 sc, .string qkS, .int .i16 en] 47) = W7 at *
      generalize W6.heap.size = x7 at *
      clear f0 f1 f2 f3 f4 f5 f6 hb1 hbx
      go_wp2_with fail
      go_loopw [8] (fun v8 wz => ∃ j : Nat, j ≤ sn ∧ v8 = .int .i64 (j : Int) ∧ ∃ q, wz = W7.drewN q) (fun v8 _ => sn - (RowKit.intOf v8).toNat)
      case atStart => exact ⟨0, Nat.zero_le _, rfl, 0, rfl⟩
      case round =>
        obtain ⟨j, hj, rfl, q, rfl⟩ := hrel
        by_cases hjl : j < sn
        · have l1 : (0 : Int) ≤ (j : Int) := by omega
          have l2 : (j : Int) < (sn : Int) := by omega
          obtain ⟨y0, p0, rfl, _, hc1⟩ := HI.out.at (show 0 < sn by omega)
          obtain ⟨y1, p1, rfl, _, hc2⟩ := HI1.out.at (show 0 < sn by omega)
          have z1 := hc1 j _ (strs_at cp j (by rw [← HL.out]; exact hjl))
          have z2 := hc2 j _ (strs_at cp j (by rw [← HL.out]; exact hjl))
          generalize str (cp.getD j []) = X at z1 z2
          clear hc1 hc2
          go_wp2_with fail
          go_quiet (fail)
          go_wp2_with fail
          go_roundw
          case rel => exact ⟨j + 1, by omega, by go_num, _, rfl⟩
          case measure => simp [RowKit.intOf]; omega
        · go_wp2_with fail
          go_roundw
          case rel => exact ⟨k + 1, by omega, by go_num, below_dr HB.out _⟩
          case measure => simp [RowKit.intOf]; omega
    · go_wp2_with fail
      go_ret
      exact ⟨rfl, HB.out⟩
end Go.Proofs.YtinocgngjhomcaaDoor.Kr
