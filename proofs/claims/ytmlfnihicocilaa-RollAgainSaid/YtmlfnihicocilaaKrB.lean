/- The registry's put and told. -/
import Derived.Test.YtmlfnihicocilaaKrA
namespace Go.Proofs.Ytmlfnihicocilaa.Kr
open Go.ChangeShapes Go.WideShapes Go.ChangeAt Go.RowKit Own Ro wordsNames Kc

/-- Seven cells of the block written one behind the other. -/
theorem Blk.set7 {W : World} {g a : Nat} {pre post : List Value} {x0 x1 x2 x3 x4 x5 x6 : Value} (h : Blk W g (pre ++ ([x0, x1, x2, x3, x4, x5, x6] ++ post))) (ha : pre.length = a) (y0 y1 y2 y3 y4 y5 y6 : Value) :
    Blk (((((((W.setCell ⟨g, a, none⟩ y0).setCell ⟨g, a + 1, none⟩ y1).setCell ⟨g, a + 2, none⟩ y2).setCell ⟨g, a + 3, none⟩ y3).setCell ⟨g, a + 4, none⟩ y4).setCell ⟨g, a + 5, none⟩ y5).setCell ⟨g, a + 6, none⟩ y6) g (pre ++ ([y0, y1, y2, y3, y4, y5, y6] ++ post)) ∧
    W.grownBy (((((((W.setCell ⟨g, a, none⟩ y0).setCell ⟨g, a + 1, none⟩ y1).setCell ⟨g, a + 2, none⟩ y2).setCell ⟨g, a + 3, none⟩ y3).setCell ⟨g, a + 4, none⟩ y4).setCell ⟨g, a + 5, none⟩ y5).setCell ⟨g, a + 6, none⟩ y6) (some g) := by
  refine ⟨?_, gb_trans (gb_trans (gb_trans (gb_trans (gb_trans (gb_trans (gb_set _ g _ _) (gb_set _ g _ _)) (gb_set _ g _ _)) (gb_set _ g _ _)) (gb_set _ g _ _)) (gb_set _ g _ _)) (gb_set _ g _ _)⟩
  rw [← Kr.set7 pre post x0 x1 x2 x3 x4 x5 x6 y0 y1 y2 y3 y4 y5 y6 a ha]
  exact ((((((h.set a y0).set (a + 1) y1).set (a + 2) y2).set (a + 3) y3).set (a + 4) y4).set (a + 5) y5).set (a + 6) y6
theorem flatC_len (C : Cs) : (C.flatMap KC.row).length = C.length * 7 := flat_len KC.row 7 rowC_len C
/-- The block of a shelf that has a place left, parted there. -/
theorem shelf_split (pre post : List Value) (C : Cs) (h : C.length < 64) : pre ++ (roomV C ++ post) = (pre ++ C.flatMap KC.row) ++ ([.string ⟨#[]⟩, .string ⟨#[]⟩, .int .u8 0, .slice none 0 0, .int .i8 0, .string ⟨#[]⟩, .int .i16 0] ++ ((List.replicate (63 - C.length) zc).flatMap KC.row ++ (.int .i64 (C.length : Int) :: post))) := by
  unfold roomV
  rw [room_split C h]
  have e : KC.row zc = [.string ⟨#[]⟩, .string ⟨#[]⟩, .int .u8 0, .slice none 0 0, .int .i8 0, .string ⟨#[]⟩, .int .i16 0] := rfl
  rw [e]
  simp
theorem shelf_snoc (pre post : List Value) (C : Cs) (d : Cd) (r : Sl) (h : C.length < 64) : pre ++ (roomV (C ++ [(d, r)]) ++ post) = ((pre ++ C.flatMap KC.row) ++ ((cells7 d r).toList ++ ((List.replicate (63 - C.length) zc).flatMap KC.row))) ++ (.int .i64 ((C.length : Int) + 1) :: post) := by
  unfold roomV
  rw [room_snoc C (d, r) h]
  have e : KC.row (d, r) = (cells7 d r).toList := rfl
  rw [e]
  simp
/-- What put leaves where there is room. -/
def PutPost (g : Nat) (pre post : List Value) (C : Cs) (d : Cd) (w : World) (e : Ending) (w' : World) : Prop :=
  ∃ r' : Sl, e = .returned (.bool true) ∧ Blk w' g (pre ++ (roomV (C ++ [(d, r')]) ++ post)) ∧ w.grownBy w' (some g) ∧ r'.2.1 = d.compat.length ∧ w'.ownsRow w.heap.size 9 1 (slV r') r'.2.1 (strs d.compat)
set_option maxRecDepth 100000 in
set_option maxHeartbeats 8000000 in
theorem put_full (g off : Nat) (pre post : List Value) (C : Cs) (d : Cd) (r : Sl) (w : World) (hW : Blk w g (pre ++ (roomV C ++ post))) (hpre : pre.length = off) (h64 : C.length = 64) :
    Calls Try.prog 23 #[.pointer (some ⟨g, off, none⟩), cardV d r] w fun e w' => e = .returned (.bool false) ∧ Below w.heap.size w w' := by
  have held : w.cell? ⟨g, off + 448, none⟩ = some (.int .i64 64) := hW.cell (by rw [app_at' _ _ off 448 hpre]; exact app_in _ (by rw [room_held (by omega), h64]; rfl))
  have hgs := hW.lt
  have B1 := Lib.hid (grows' w (.cells (cells7 d r) 34))
  have heldY := (B1.out.cell (p := ⟨g, off + 448, none⟩) hgs).trans held
  clear held hW hpre h64
  unfold cardV
  unfold cells7 at B1 heldY ⊢
  obtain ⟨nm, fm, lv, cp, sc, qk, en⟩ := d
  obtain ⟨ra, rn, rc⟩ := r
  simp only [slV] at B1 heldY ⊢
  go_enter Try.func23, Try.ntmps23
  go_wp2_with fail
  go_ret
  exact ⟨rfl, B1.out⟩
set_option maxRecDepth 100000 in
set_option maxHeartbeats 8000000 in
theorem put_room (g off : Nat) (pre post : List Value) (C : Cs) (d : Cd) (r : Sl) (w : World) (hW : Blk w g (pre ++ (roomV C ++ post))) (hpre : pre.length = off) (_hoff : off ≤ 4096) (h64 : C.length < 64) (hm : MildC 1099511627776 d) (hr : r.2.1 = d.compat.length) (hne : Neat r) (hs : CellsIn w 1 r.1 r.2.1 (strs d.compat)) :
    Calls Try.prog 23 #[.pointer (some ⟨g, off, none⟩), cardV d r] w (PutPost g pre post C d w) := by
  have held : w.cell? ⟨g, off + 448, none⟩ = some (.int .i64 (C.length : Int)) := hW.cell (by rw [app_at' _ _ off 448 hpre]; exact app_in _ (room_held (by omega)))
  have hgs := hW.lt
  have hW2 := hW
  rw [shelf_split pre post C h64] at hW2
  have HPL : Hid ((pre ++ C.flatMap KC.row).length = off + C.length * 7) := Lib.hid (by rw [List.length_append, hpre, flatC_len])
  have HBK := Lib.hid hW2
  have B1 := Lib.hid (grows' w (.cells (cells7 d r) 34))
  have heldY := (B1.out.cell (p := ⟨g, off + 448, none⟩) hgs).trans held
  have HK := Lib.hid fun (W : World) (hW : Below w.heap.size w W) => kept_any d r W hm hr hne (hs.below hW)
  have HSN := Lib.hid fun (r' : Sl) => shelf_snoc pre post C d r' h64
  have HLR : Hid (∀ r' : Sl, ((pre ++ C.flatMap KC.row) ++ ((cells7 d r').toList ++ ((List.replicate (63 - C.length) zc).flatMap KC.row))).length = off + 448) := Lib.hid (fun r' => by rw [List.length_append, HPL.out, List.length_append, flatC_len, List.length_replicate]; show off + C.length * 7 + (7 + (63 - C.length) * 7) = _; omega)
  have c0 : (w.alloc (.cells (cells7 d r) 34)).cell? ⟨w.heap.size, 0, none⟩ = _ := box7s w d r 34 0 _ rfl
  have c1 : (w.alloc (.cells (cells7 d r) 34)).cell? ⟨w.heap.size, 1, none⟩ = _ := box7s w d r 34 1 _ rfl
  have c2 : (w.alloc (.cells (cells7 d r) 34)).cell? ⟨w.heap.size, 2, none⟩ = _ := box7s w d r 34 2 _ rfl
  have c3 : (w.alloc (.cells (cells7 d r) 34)).cell? ⟨w.heap.size, 3, none⟩ = _ := box7s w d r 34 3 _ rfl
  have c4 : (w.alloc (.cells (cells7 d r) 34)).cell? ⟨w.heap.size, 4, none⟩ = _ := box7s w d r 34 4 _ rfl
  have c5 : (w.alloc (.cells (cells7 d r) 34)).cell? ⟨w.heap.size, 5, none⟩ = _ := box7s w d r 34 5 _ rfl
  have c6 : (w.alloc (.cells (cells7 d r) 34)).cell? ⟨w.heap.size, 6, none⟩ = _ := box7s w d r 34 6 _ rfl
  clear held hW hW2 hpre hm hr hne hs
  unfold MadeC at HK
  unfold cardV
  unfold PutPost
  unfold cells7 at B1 heldY c0 c1 c2 c3 c4 c5 c6 HSN HLR ⊢
  obtain ⟨nm, fm, lv, cp, sc, qk, en⟩ := d
  obtain ⟨ra, rn, rc⟩ := r
  simp only [slV, cardV, cells7] at B1 heldY c0 c1 c2 c3 c4 c5 c6 HK HSN HLR ⊢
  generalize str nm = S1 at B1 heldY c0 c1 c2 c3 c4 c5 c6 HK HSN HLR ⊢
  generalize str fm = S2 at B1 heldY c0 c1 c2 c3 c4 c5 c6 HK HSN HLR ⊢
  generalize str qk = S3 at B1 heldY c0 c1 c2 c3 c4 c5 c6 HK HSN HLR ⊢
  generalize roomV = rv at HSN ⊢
  generalize pre ++ C.flatMap KC.row = pr at HPL HBK HSN HLR
  generalize (List.replicate (63 - C.length) zc).flatMap KC.row = ps at HBK HSN HLR
  generalize C.length = n at h64 heldY HPL HBK HSN
  have n1 : (0 : Int) ≤ (n : Int) := by omega
  have n2 : (n : Int) < 64 := by omega
  have t64 : ((n : Int) == 64) = false := by simp; omega
  go_enter Try.func23, Try.ntmps23
  go_upto_region 3 with (fail)
  have hgw : g ≠ w.heap.size := by omega
  generalize w.alloc (.cells #[.string S1, .string S2, .int .u8 lv, .slice ra rn rc, .int .i8 sc, .string S3, .int .i16 en] 34) = y at B1 heldY c0 c1 c2 c3 c4 c5 c6 ⊢
  have HBY := Lib.hid (HBK.out.below B1.out)
  have HE : Hid (∀ W : World, y.grownBy W (some g) → W.cell? ⟨g, off + 448, none⟩ = some (.int .i64 (n : Int)) → (W.cell? ⟨w.heap.size, 0, none⟩ = some (.string S1) ∧ W.cell? ⟨w.heap.size, 1, none⟩ = some (.string S2) ∧ W.cell? ⟨w.heap.size, 2, none⟩ = some (.int .u8 lv) ∧ W.cell? ⟨w.heap.size, 3, none⟩ = some (.slice ra rn rc) ∧ W.cell? ⟨w.heap.size, 4, none⟩ = some (.int .i8 sc) ∧ W.cell? ⟨w.heap.size, 5, none⟩ = some (.string S3) ∧ W.cell? ⟨w.heap.size, 6, none⟩ = some (.int .i16 en)) ∧ W.cell? ⟨g, off + 448, none⟩ = some (.int .i64 (n : Int))) := Lib.hid fun W hW hh => ⟨⟨(gb_cell hW (cell_lt c0) hgw.symm).trans c0, (gb_cell hW (cell_lt c1) hgw.symm).trans c1, (gb_cell hW (cell_lt c2) hgw.symm).trans c2, (gb_cell hW (cell_lt c3) hgw.symm).trans c3, (gb_cell hW (cell_lt c4) hgw.symm).trans c4, (gb_cell hW (cell_lt c5) hgw.symm).trans c5, (gb_cell hW (cell_lt c6) hgw.symm).trans c6⟩, hh⟩
  have HE0 : Hid ((y.cell? ⟨w.heap.size, 0, none⟩ = some (.string S1) ∧ y.cell? ⟨w.heap.size, 1, none⟩ = some (.string S2) ∧ y.cell? ⟨w.heap.size, 2, none⟩ = some (.int .u8 lv) ∧ y.cell? ⟨w.heap.size, 3, none⟩ = some (.slice ra rn rc) ∧ y.cell? ⟨w.heap.size, 4, none⟩ = some (.int .i8 sc) ∧ y.cell? ⟨w.heap.size, 5, none⟩ = some (.string S3) ∧ y.cell? ⟨w.heap.size, 6, none⟩ = some (.int .i16 en)) ∧ y.cell? ⟨g, off + 448, none⟩ = some (.int .i64 (n : Int))) := Lib.hid ⟨⟨c0, c1, c2, c3, c4, c5, c6⟩, heldY⟩
  clear c0 c1 c2 c3 c4 c5 c6 heldY
  refine wp_region_noPanic ?_
  refine wp_region_held_drew (S := fun w' => (w'.cell? ⟨w.heap.size, 0, none⟩ = some (.string S1) ∧ w'.cell? ⟨w.heap.size, 1, none⟩ = some (.string S2) ∧ w'.cell? ⟨w.heap.size, 2, none⟩ = some (.int .u8 lv) ∧ w'.cell? ⟨w.heap.size, 3, none⟩ = some (.slice ra rn rc) ∧ w'.cell? ⟨w.heap.size, 4, none⟩ = some (.int .i8 sc) ∧ w'.cell? ⟨w.heap.size, 5, none⟩ = some (.string S3) ∧ w'.cell? ⟨w.heap.size, 6, none⟩ = some (.int .i16 en)) ∧ w'.cell? ⟨g, off + 448, none⟩ = some (.int .i64 (n : Int))) (by kernel_rfl) HE0.out (fun hHeld => ?_)
  first | (refine skipH (i := 0) (dst := some 10) rfl rfl (by kernel_rfl) (by kernel_rfl) (by kernel_rfl) (fun _ _ _ h => h) (by rfl) hHeld ?_) | (refine' takeH (i := 0) (dst := some 10) (v := _) rfl rfl (by kernel_rfl) (by kernel_rfl) (by kernel_rfl) (fun _ _ _ h => h) (by rfl) ?hy hHeld ?_; case hy => (intro w hSw; clear hSw; (first | done | go_simp); try with_reducible rfl)) | fail
  try simp only [Act.put, List.setIfInBounds_toArray, List.set_cons_zero, List.set_cons_succ]
  first | (refine skipH (i := 1) (dst := some 11) rfl rfl (by kernel_rfl) (by kernel_rfl) (by kernel_rfl) (fun _ _ _ h => h) (by rfl) hHeld ?_) | (refine' takeH (i := 1) (dst := some 11) (v := _) rfl rfl (by kernel_rfl) (by kernel_rfl) (by kernel_rfl) (fun _ _ _ h => h) (by rfl) ?hy hHeld ?_; case hy => (intro w hSw; clear hSw; (first | done | go_simp); try with_reducible rfl)) | fail
  try simp only [Act.put, List.setIfInBounds_toArray, List.set_cons_zero, List.set_cons_succ]
  first | (refine skipH (i := 2) (dst := some 12) rfl rfl (by kernel_rfl) (by kernel_rfl) (by kernel_rfl) (fun _ _ _ h => h) (by rfl) hHeld ?_) | (refine' takeH (i := 2) (dst := some 12) (v := _) rfl rfl (by kernel_rfl) (by kernel_rfl) (by kernel_rfl) (fun _ _ _ h => h) (by rfl) ?hy hHeld ?_; case hy => (intro w hSw; clear hSw; (first | done | go_simp); try with_reducible rfl)) | fail
  try simp only [Act.put, List.setIfInBounds_toArray, List.set_cons_zero, List.set_cons_succ]
  first | (refine skipH (i := 3) (dst := some 13) rfl rfl (by kernel_rfl) (by kernel_rfl) (by kernel_rfl) (fun _ _ _ h => h) (by rfl) hHeld ?_) | (refine' takeH (i := 3) (dst := some 13) (v := _) rfl rfl (by kernel_rfl) (by kernel_rfl) (by kernel_rfl) (fun _ _ _ h => h) (by rfl) ?hy hHeld ?_; case hy => (intro w hSw; clear hSw; (first | done | go_simp); try with_reducible rfl)) | fail
  try simp only [Act.put, List.setIfInBounds_toArray, List.set_cons_zero, List.set_cons_succ]
  first | (refine skipH (i := 4) (dst := some 14) rfl rfl (by kernel_rfl) (by kernel_rfl) (by kernel_rfl) (fun _ _ _ h => h) (by rfl) hHeld ?_) | (refine' takeH (i := 4) (dst := some 14) (v := _) rfl rfl (by kernel_rfl) (by kernel_rfl) (by kernel_rfl) (fun _ _ _ h => h) (by rfl) ?hy hHeld ?_; case hy => (intro w hSw; obtain ⟨⟨_, _, _, _, _, _, _⟩, _⟩ := hSw; (first | done | go_simp); try with_reducible rfl)) | fail
  try simp only [Act.put, List.setIfInBounds_toArray, List.set_cons_zero, List.set_cons_succ]
  first | (refine skipH (i := 5) (dst := some 15) rfl rfl (by kernel_rfl) (by kernel_rfl) (by kernel_rfl) (fun _ _ _ h => h) (by rfl) hHeld ?_) | (refine' takeH (i := 5) (dst := some 15) (v := _) rfl rfl (by kernel_rfl) (by kernel_rfl) (by kernel_rfl) (fun _ _ _ h => h) (by rfl) ?hy hHeld ?_; case hy => (intro w hSw; obtain ⟨⟨_, _, _, _, _, _, _⟩, _⟩ := hSw; (first | done | go_simp); try with_reducible rfl)) | fail
  try simp only [Act.put, List.setIfInBounds_toArray, List.set_cons_zero, List.set_cons_succ]
  first | (refine skipH (i := 7) (dst := some 17) rfl rfl (by kernel_rfl) (by kernel_rfl) (by kernel_rfl) (fun _ _ _ h => h) (by rfl) hHeld ?_) | (refine' takeH (i := 7) (dst := some 17) (v := _) rfl rfl (by kernel_rfl) (by kernel_rfl) (by kernel_rfl) (fun _ _ _ h => h) (by rfl) ?hy hHeld ?_; case hy => (intro w hSw; clear hSw; (first | done | go_simp); try with_reducible rfl)) | fail
  try simp only [Act.put, List.setIfInBounds_toArray, List.set_cons_zero, List.set_cons_succ]
  first | (refine skipH (i := 8) (dst := some 18) rfl rfl (by kernel_rfl) (by kernel_rfl) (by kernel_rfl) (fun _ _ _ h => h) (by rfl) hHeld ?_) | (refine' takeH (i := 8) (dst := some 18) (v := _) rfl rfl (by kernel_rfl) (by kernel_rfl) (by kernel_rfl) (fun _ _ _ h => h) (by rfl) ?hy hHeld ?_; case hy => (intro w hSw; clear hSw; (first | done | go_simp); try with_reducible rfl)) | fail
  try simp only [Act.put, List.setIfInBounds_toArray, List.set_cons_zero, List.set_cons_succ]
  refine wpAnyH_ready (rs := [6]) (by kernel_rfl) (by simp) ?_
  refine AllReadyH.cons (i := 6) (o := ⟨some 16, .call _, _, _, _, _⟩) rfl (fun K hK => ?_) AllReadyH.nil
  go_simp
  refine (HK.out _ (below_dr B1.out 1)).mono ?_
  rintro e x ⟨A2, c2, n2, rfl, hn2, ho2, xb⟩
  have HX := Lib.hid (bt (below_dr (Below.refl y.heap.size y) 1) xb)
  have HN2 := Lib.hid hn2
  have HO2 := Lib.hid ho2
  have hH := HE.out x (gb_below HX.out _) ((HX.out.cell (p := ⟨g, off + 448, none⟩) (cell_lt HE0.out.2)).trans HE0.out.2)
  clear xb hn2 ho2
  refine hK.out _ _ hH (fun _ => ?_)
  clear hK K hHeld
  have hHeld := hH
  clear hH
  try simp only [Act.put, List.setIfInBounds_toArray, List.set_cons_zero, List.set_cons_succ]
  first | (refine skipH (i := 9) (dst := some 19) rfl rfl (by kernel_rfl) (by kernel_rfl) (by kernel_rfl) (fun _ _ _ h => h) (by rfl) hHeld ?_) | (refine' takeH (i := 9) (dst := some 19) (v := _) rfl rfl (by kernel_rfl) (by kernel_rfl) (by kernel_rfl) (fun _ _ _ h => h) (by rfl) ?hy hHeld ?_; case hy => (intro w hSw; clear hSw; (first | done | go_simp); try with_reducible rfl)) | fail
  try simp only [Act.put, List.setIfInBounds_toArray, List.set_cons_zero, List.set_cons_succ]
  have HBX := Lib.hid (HBY.out.below HX.out)
  have z0 : x.cell? ⟨g, off + n * 7, none⟩ = some (.string ⟨#[]⟩) := HBX.out.cell (by first | (rw [app_at' _ _ (off + n * 7) 0 HPL.out]; rfl) | (rw [show off + n * 7 = off + n * 7 + 0 by omega, app_at' _ _ (off + n * 7) 0 HPL.out]; rfl))
  have f0 := HBX.out.free (off + n * 7)
  have z1 : x.cell? ⟨g, off + n * 7 + 1, none⟩ = some (.string ⟨#[]⟩) := HBX.out.cell (by first | (rw [app_at' _ _ (off + n * 7) 1 HPL.out]; rfl) | (rw [show off + n * 7 = off + n * 7 + 0 by omega, app_at' _ _ (off + n * 7) 0 HPL.out]; rfl))
  have f1 := HBX.out.free (off + n * 7 + 1)
  have z2 : x.cell? ⟨g, off + n * 7 + 2, none⟩ = some (.int .u8 0) := HBX.out.cell (by first | (rw [app_at' _ _ (off + n * 7) 2 HPL.out]; rfl) | (rw [show off + n * 7 = off + n * 7 + 0 by omega, app_at' _ _ (off + n * 7) 0 HPL.out]; rfl))
  have f2 := HBX.out.free (off + n * 7 + 2)
  have z3 : x.cell? ⟨g, off + n * 7 + 3, none⟩ = some (.slice none 0 0) := HBX.out.cell (by first | (rw [app_at' _ _ (off + n * 7) 3 HPL.out]; rfl) | (rw [show off + n * 7 = off + n * 7 + 0 by omega, app_at' _ _ (off + n * 7) 0 HPL.out]; rfl))
  have f3 := HBX.out.free (off + n * 7 + 3)
  have z4 : x.cell? ⟨g, off + n * 7 + 4, none⟩ = some (.int .i8 0) := HBX.out.cell (by first | (rw [app_at' _ _ (off + n * 7) 4 HPL.out]; rfl) | (rw [show off + n * 7 = off + n * 7 + 0 by omega, app_at' _ _ (off + n * 7) 0 HPL.out]; rfl))
  have f4 := HBX.out.free (off + n * 7 + 4)
  have z5 : x.cell? ⟨g, off + n * 7 + 5, none⟩ = some (.string ⟨#[]⟩) := HBX.out.cell (by first | (rw [app_at' _ _ (off + n * 7) 5 HPL.out]; rfl) | (rw [show off + n * 7 = off + n * 7 + 0 by omega, app_at' _ _ (off + n * 7) 0 HPL.out]; rfl))
  have f5 := HBX.out.free (off + n * 7 + 5)
  have z6 : x.cell? ⟨g, off + n * 7 + 6, none⟩ = some (.int .i16 0) := HBX.out.cell (by first | (rw [app_at' _ _ (off + n * 7) 6 HPL.out]; rfl) | (rw [show off + n * 7 = off + n * 7 + 0 by omega, app_at' _ _ (off + n * 7) 0 HPL.out]; rfl))
  have f6 := HBX.out.free (off + n * 7 + 6)
  refine wpAnyH_ready (rs := [10]) (by kernel_rfl) (by simp) ?_
  refine AllReadyH.cons (i := 10) (o := ⟨none, .store _ _ _, _, _, _, _⟩) rfl (fun K hK => ?_) AllReadyH.nil
  go_simp
  have HS7 := Lib.hid (HBX.out.set7 HPL.out (.string S1) (.string S2) (.int .u8 lv) (.slice A2 n2 c2) (.int .i8 sc) (.string S3) (.int .i16 en))
  have HGY := Lib.hid (gb_trans (gb_below HX.out (some g)) HS7.out.2)
  have HL : Hid (Blk _ g ((pr ++ ([.string S1, .string S2, .int .u8 lv, .slice A2 n2 c2, .int .i8 sc, .string S3, .int .i16 en] ++ ps)) ++ (.int .i64 (n : Int) :: post))) := Lib.hid (by rw [List.append_assoc pr, List.append_assoc]; exact HS7.out.1)
  have hH := HE.out _ HGY.out (HL.out.cell (by rw [show off + 448 = off + 448 + 0 by omega, app_at' _ _ (off + 448) 0 (HLR.out (A2, n2, c2))]; rfl))
  refine hK.out _ _ hH (fun _ => ?_)
  clear hK K hHeld hH
  try simp only [Act.put, List.setIfInBounds_toArray, List.set_cons_zero, List.set_cons_succ]
  refine wpAnyH_done (by kernel_rfl) (NoPanic.normal ?_) _
  have hld := HL.out.cell (u := .int .i64 (n : Int)) (j := off + 448) (by rw [show off + 448 = off + 448 + 0 by omega, app_at' _ _ (off + 448) 0 (HLR.out (A2, n2, c2))]; rfl)
  have hfr := HL.out.free (off + 448)
  have HO3 := Lib.hid (own_keptLow HO2.out HS7.out.2 (Nat.lt_of_lt_of_le hgs B1.out.size))
  clear z0 z1 z2 z3 z4 z5 z6 f0 f1 f2 f3 f4 f5 f6 HE HE0 HS7 HBX HBY HBK
  generalize (((((((x.setCell _ _).setCell _ _).setCell _ _).setCell _ _).setCell _ _).setCell _ _).setCell _ _) = x2 at hld hfr HL HGY HO3 ⊢
  go_wp2_with fail
  go_ret
  refine ⟨(A2, n2, c2), rfl, ?_, gb_trans (gb_trans (gb_below B1.out _) HGY.out) (gb_set _ _ _ _), HN2.out, ?_⟩
  · rw [HSN.out]
    have := HL.out.set (off + 448) (.int .i64 ((n : Int) + 1))
    rw [set_at _ _ _ _ _ (HLR.out (A2, n2, c2))] at this
    exact this
  · exact own_monoK (own_set HO3.out (Nat.lt_of_lt_of_le hgs B1.out.size)) (show w.heap.size ≤ y.heap.size from B1.out.size)
end Go.Proofs.Ytmlfnihicocilaa.Kr
