/- Registries: Enter. -/
import Derived.Test.YtmlfnihicocilaaKsD
namespace Go.Proofs.Ytmlfnihicocilaa.Kr
open Go.ChangeShapes Go.WideShapes Go.ChangeAt Go.RowKit Own Ro wordsNames Kc

set_option maxRecDepth 100000 in
set_option maxHeartbeats 16000000 in
theorem enter_any (g : Nat) (C F : Cs) (N : List Nt) (z : Bool) (d : Cd) (r : Sl) (w : World) (h : RegAt w g C F N z) (hm : MildC 1099511627776 d) (hr : r.2.1 = d.compat.length) (hne : Neat r) (hcap : r.2.1 ≤ r.2.2) (hs : CellsIn w 1 r.1 r.2.1 (strs d.compat)) :
    Calls Try.prog 10 #[.pointer (some ⟨g, 0, none⟩), cardV d r] w (EnterPost g C F N z d w) := by
  have hgs := h.blk.lt
  have HR := Lib.hid fun (W : World) (hW : Below w.heap.size w W) => h.below hW
  have HO := Lib.hid fun (W : World) (hW : Below w.heap.size w W) => open_any g C F N z W (h.below hW)
  obtain ⟨gk, hgk⟩ := bool_ex (CardOk d)
  obtain ⟨gh, hgh⟩ := bool_ex (Dup C d.name)
  have HMB := Lib.hid fun (W : World) (hW : Below w.heap.size w W) => mayBe_any d r gk W hgk hm hr hcap (hs.below hW)
  have HHS := Lib.hid fun (W : World) (hW : Below w.heap.size w W) => has_any g 0 [] (roomV F ++ (noteV N ++ [.bool z])) C d.name gh W (h.below hW).blk rfl (by omega) h.c64 hgh
  have HPF := Lib.hid fun (W : World) (hW : Below w.heap.size w W) (hl : F.length = 64) => put_full g 449 (roomV C) (noteV N ++ [.bool z]) F d r W (h.below hW).blk (roomV_len C h.c64) hl
  have HPR := Lib.hid fun (W : World) (hW : Below w.heap.size w W) (hl : F.length < 64) => put_room g 449 (roomV C) (noteV N ++ [.bool z]) F d r W (h.below hW).blk (roomV_len C h.c64) (by omega) hl hm hr hne (hs.below hW)
  have HQF := Lib.hid fun (W : World) (hW : Below w.heap.size w W) (hl : C.length = 64) => put_full g 0 [] (roomV F ++ (noteV N ++ [.bool z])) C d r W (h.below hW).blk rfl hl
  have HQR := Lib.hid fun (W : World) (hW : Below w.heap.size w W) (hl : C.length < 64) => put_room g 0 [] (roomV F ++ (noteV N ++ [.bool z])) C d r W (h.below hW).blk rfl (by omega) hl hm hr hne (hs.below hW)
  have HGK := Lib.hid hgk
  have HGH := Lib.hid hgh
  have HM := Lib.hid hm
  have HLC := Lib.hid h.c64
  have HLF := Lib.hid h.f64
  have B1 := Lib.hid (grows' w (.cells (cells7 d r) 34))
  have c0 : (w.alloc (.cells (cells7 d r) 34)).cell? ⟨w.heap.size, 0, none⟩ = some (.string (str d.name)) := box7s w d r 34 0 _ rfl
  have c1 : (w.alloc (.cells (cells7 d r) 34)).cell? ⟨w.heap.size, 1, none⟩ = some (.string (str d.fam)) := box7s w d r 34 1 _ rfl
  have c2 : (w.alloc (.cells (cells7 d r) 34)).cell? ⟨w.heap.size, 2, none⟩ = some (.int .u8 d.level) := box7s w d r 34 2 _ rfl
  have c3 : (w.alloc (.cells (cells7 d r) 34)).cell? ⟨w.heap.size, 3, none⟩ = some (slV r) := box7s w d r 34 3 _ rfl
  have c4 : (w.alloc (.cells (cells7 d r) 34)).cell? ⟨w.heap.size, 4, none⟩ = some (.int .i8 d.score) := box7s w d r 34 4 _ rfl
  have c5 : (w.alloc (.cells (cells7 d r) 34)).cell? ⟨w.heap.size, 5, none⟩ = some (.string (str d.quirk)) := box7s w d r 34 5 _ rfl
  have c6 : (w.alloc (.cells (cells7 d r) 34)).cell? ⟨w.heap.size, 6, none⟩ = some (.int .i16 d.entry) := box7s w d r 34 6 _ rfl
  have hgw : g ≠ w.heap.size := by omega
  clear h hm hr hne hcap hs hgk hgh
  unfold cardV at HMB HPF HPR HQF HQR ⊢
  unfold cells7 at B1 c0 c1 c2 c3 c4 c5 c6 HMB HPF HPR HQF HQR ⊢
  obtain ⟨ra, rn, rc⟩ := r
  simp only [slV] at B1 c0 c1 c2 c3 c4 c5 c6 HMB HPF HQF ⊢
  have HPR2 : Hid (∀ W : World, Below w.heap.size w W → F.length < 64 → Calls Try.prog 23 #[.pointer (some ⟨g, 449, none⟩), .agg #[.string (str d.name), .string (str d.fam), .int .u8 d.level, .slice ra rn rc, .int .i8 d.score, .string (str d.quirk), .int .i16 d.entry]] W (PutPost g (roomV C) (noteV N ++ [.bool z]) F d W)) := Lib.hid HPR.out
  have HQR2 : Hid (∀ W : World, Below w.heap.size w W → C.length < 64 → Calls Try.prog 23 #[.pointer (some ⟨g, 0, none⟩), .agg #[.string (str d.name), .string (str d.fam), .int .u8 d.level, .slice ra rn rc, .int .i8 d.score, .string (str d.quirk), .int .i16 d.entry]] W (PutPost g [] (roomV F ++ (noteV N ++ [.bool z])) C d W)) := Lib.hid HQR.out
  clear HPR HQR
  generalize str d.name = S1 at B1 c0 c1 c2 c3 c4 c5 c6 HMB HHS HPF HPR2 HQF HQR2 ⊢
  generalize str d.fam = S2 at B1 c0 c1 c2 c3 c4 c5 c6 HMB HPF HPR2 HQF HQR2 ⊢
  generalize str d.quirk = S3 at B1 c0 c1 c2 c3 c4 c5 c6 HMB HPF HPR2 HQF HQR2 ⊢
  go_enter Try.func10, Try.ntmps10
  go_wp2_with fail
  refine (HO.out _ B1.out).mono ?_
  rintro e w5 ⟨rfl, rfl⟩
  cases z with
  | true =>
    have HRY := Lib.hid (HR.out _ B1.out)
    simp only [openE]
    go_wp2_with fail
    go_ret
    exact ⟨C, F, 5, rfl, HRY.out, gb_below B1.out _, .inl ⟨rfl, rfl, rfl, rfl⟩⟩
  | false =>
    simp only [openE]
    generalize w.alloc (.cells #[.string S1, .string S2, .int .u8 d.level, .slice ra rn rc, .int .i8 d.score, .string S3, .int .i16 d.entry] 34) = y at B1 c0 c1 c2 c3 c4 c5 c6 ⊢
    have HE : Hid (∀ W : World, y.grownBy W (some g) → W.cell? ⟨w.heap.size, 0, none⟩ = some (.string S1) ∧ W.cell? ⟨w.heap.size, 1, none⟩ = some (.string S2) ∧ W.cell? ⟨w.heap.size, 2, none⟩ = some (.int .u8 d.level) ∧ W.cell? ⟨w.heap.size, 3, none⟩ = some (.slice ra rn rc) ∧ W.cell? ⟨w.heap.size, 4, none⟩ = some (.int .i8 d.score) ∧ W.cell? ⟨w.heap.size, 5, none⟩ = some (.string S3) ∧ W.cell? ⟨w.heap.size, 6, none⟩ = some (.int .i16 d.entry)) := Lib.hid fun W hW => ⟨(gb_cell hW (cell_lt c0) hgw.symm).trans c0, (gb_cell hW (cell_lt c1) hgw.symm).trans c1, (gb_cell hW (cell_lt c2) hgw.symm).trans c2, (gb_cell hW (cell_lt c3) hgw.symm).trans c3, (gb_cell hW (cell_lt c4) hgw.symm).trans c4, (gb_cell hW (cell_lt c5) hgw.symm).trans c5, (gb_cell hW (cell_lt c6) hgw.symm).trans c6⟩
    go_wp2_with fail
    refine (HMB.out _ B1.out).mono ?_
    rintro e w4 ⟨rfl, b4⟩
    have B4 := Lib.hid b4
    clear b4
    cases gk with
    | false =>
      have HNOK : Hid (¬ CardOk d) := Lib.hid fun hh => by cases HGK.out.2 hh
      have HRY := Lib.hid (HR.out _ (bt B1.out B4.out))
      go_wp2_with fail
      go_ret
      exact ⟨C, F, 70, rfl, HRY.out, gb_below (bt B1.out B4.out) _, .inr (.inl ⟨rfl, HNOK.out, rfl, rfl, rfl⟩)⟩
    | true =>
      have HOK := Lib.hid (HGK.out.1 rfl)
      clear c0 c1 c2 c3 c4 c5 c6
      go_wp2_with fail
      refine wp_region_noPanic ?_
      refine wp_region_held_drew (S := fun w' => (w'.cell? ⟨w.heap.size, 0, none⟩ = some (.string S1) ∧ w'.cell? ⟨w.heap.size, 1, none⟩ = some (.string S2) ∧ w'.cell? ⟨w.heap.size, 2, none⟩ = some (.int .u8 d.level) ∧ w'.cell? ⟨w.heap.size, 3, none⟩ = some (.slice ra rn rc) ∧ w'.cell? ⟨w.heap.size, 4, none⟩ = some (.int .i8 d.score) ∧ w'.cell? ⟨w.heap.size, 5, none⟩ = some (.string S3) ∧ w'.cell? ⟨w.heap.size, 6, none⟩ = some (.int .i16 d.entry)) ∧ Below y.heap.size y w') (by kernel_rfl) ⟨HE.out _ (gb_below (below_dr B4.out 1) _), below_dr B4.out 1⟩ (fun hHeld => ?_)
      first | (refine skipH (i := 0) (dst := some 14) rfl rfl (by kernel_rfl) (by kernel_rfl) (by kernel_rfl) (fun _ _ _ h => h) (by rfl) hHeld ?_) | (refine' takeH (i := 0) (dst := some 14) (v := _) rfl rfl (by kernel_rfl) (by kernel_rfl) (by kernel_rfl) (fun _ _ _ h => h) (by rfl) ?hy hHeld ?_; case hy => (intro w hSw; clear hSw; (first | done | go_simp); try with_reducible rfl)) | fail
      try simp only [Act.put, List.setIfInBounds_toArray, List.set_cons_zero, List.set_cons_succ]
      first | (refine skipH (i := 1) (dst := some 15) rfl rfl (by kernel_rfl) (by kernel_rfl) (by kernel_rfl) (fun _ _ _ h => h) (by rfl) hHeld ?_) | (refine' takeH (i := 1) (dst := some 15) (v := _) rfl rfl (by kernel_rfl) (by kernel_rfl) (by kernel_rfl) (fun _ _ _ h => h) (by rfl) ?hy hHeld ?_; case hy => (intro w hSw; clear hSw; (first | done | go_simp); try with_reducible rfl)) | fail
      try simp only [Act.put, List.setIfInBounds_toArray, List.set_cons_zero, List.set_cons_succ]
      first | (refine skipH (i := 2) (dst := some 16) rfl rfl (by kernel_rfl) (by kernel_rfl) (by kernel_rfl) (fun _ _ _ h => h) (by rfl) hHeld ?_) | (refine' takeH (i := 2) (dst := some 16) (v := _) rfl rfl (by kernel_rfl) (by kernel_rfl) (by kernel_rfl) (fun _ _ _ h => h) (by rfl) ?hy hHeld ?_; case hy => (intro w hSw; clear hSw; (first | done | go_simp); try with_reducible rfl)) | fail
      try simp only [Act.put, List.setIfInBounds_toArray, List.set_cons_zero, List.set_cons_succ]
      first | (refine skipH (i := 3) (dst := some 17) rfl rfl (by kernel_rfl) (by kernel_rfl) (by kernel_rfl) (fun _ _ _ h => h) (by rfl) hHeld ?_) | (refine' takeH (i := 3) (dst := some 17) (v := _) rfl rfl (by kernel_rfl) (by kernel_rfl) (by kernel_rfl) (fun _ _ _ h => h) (by rfl) ?hy hHeld ?_; case hy => (intro w hSw; clear hSw; (first | done | go_simp); try with_reducible rfl)) | fail
      try simp only [Act.put, List.setIfInBounds_toArray, List.set_cons_zero, List.set_cons_succ]
      first | (refine skipH (i := 4) (dst := some 18) rfl rfl (by kernel_rfl) (by kernel_rfl) (by kernel_rfl) (fun _ _ _ h => h) (by rfl) hHeld ?_) | (refine' takeH (i := 4) (dst := some 18) (v := _) rfl rfl (by kernel_rfl) (by kernel_rfl) (by kernel_rfl) (fun _ _ _ h => h) (by rfl) ?hy hHeld ?_; case hy => (intro w hSw; obtain ⟨⟨_, _, _, _, _, _, _⟩, _⟩ := hSw; (first | done | go_simp); try with_reducible rfl)) | fail
      try simp only [Act.put, List.setIfInBounds_toArray, List.set_cons_zero, List.set_cons_succ]
      refine wpAnyH_ready (rs := [5]) (by kernel_rfl) (by simp) ?_
      refine AllReadyH.cons (i := 5) (o := ⟨some 19, .call _, _, _, _, _⟩) rfl (fun K hK => ?_) AllReadyH.nil
      go_simp
      refine (HHS.out _ (bt B1.out hHeld.2)).mono ?_
      rintro e w6 ⟨rfl, b6⟩
      have B6 := Lib.hid (bt hHeld.2 b6)
      have hH : (w6.cell? ⟨w.heap.size, 0, none⟩ = some (.string S1) ∧ w6.cell? ⟨w.heap.size, 1, none⟩ = some (.string S2) ∧ w6.cell? ⟨w.heap.size, 2, none⟩ = some (.int .u8 d.level) ∧ w6.cell? ⟨w.heap.size, 3, none⟩ = some (.slice ra rn rc) ∧ w6.cell? ⟨w.heap.size, 4, none⟩ = some (.int .i8 d.score) ∧ w6.cell? ⟨w.heap.size, 5, none⟩ = some (.string S3) ∧ w6.cell? ⟨w.heap.size, 6, none⟩ = some (.int .i16 d.entry)) ∧ Below y.heap.size y w6 := ⟨HE.out _ (gb_below B6.out _), B6.out⟩
      clear b6
      refine hK.out _ _ hH (fun _ => ?_)
      clear hK K hHeld
      have hHeld := hH
      clear hH
      try simp only [Act.put, List.setIfInBounds_toArray, List.set_cons_zero, List.set_cons_succ]
      refine wpAnyH_done (by kernel_rfl) (NoPanic.normal ?_) _
      clear hHeld B4
      cases gh with
      | true =>
        have HDP := Lib.hid (HGH.out.1 rfl)
        by_cases hl : F.length = 64
        · have HL := Lib.hid hl
          clear hl
          go_wp2_with fail
          refine wp_region_noPanic ?_
          refine wp_region_held_drew (S := fun w' => w'.cell? ⟨w.heap.size, 0, none⟩ = some (.string S1) ∧ w'.cell? ⟨w.heap.size, 1, none⟩ = some (.string S2) ∧ w'.cell? ⟨w.heap.size, 2, none⟩ = some (.int .u8 d.level) ∧ w'.cell? ⟨w.heap.size, 3, none⟩ = some (.slice ra rn rc) ∧ w'.cell? ⟨w.heap.size, 4, none⟩ = some (.int .i8 d.score) ∧ w'.cell? ⟨w.heap.size, 5, none⟩ = some (.string S3) ∧ w'.cell? ⟨w.heap.size, 6, none⟩ = some (.int .i16 d.entry)) (by kernel_rfl) (HE.out _ (gb_below (below_dr B6.out 1) _)) (fun hHeld => ?_)
          first | (refine skipH (i := 0) (dst := some 20) rfl rfl (by kernel_rfl) (by kernel_rfl) (by kernel_rfl) (fun _ _ _ h => h) (by rfl) hHeld ?_) | (refine' takeH (i := 0) (dst := some 20) (v := _) rfl rfl (by kernel_rfl) (by kernel_rfl) (by kernel_rfl) (fun _ _ _ h => h) (by rfl) ?hy hHeld ?_; case hy => (intro w hSw; clear hSw; (first | done | go_simp); try with_reducible rfl)) | fail
          try simp only [Act.put, List.setIfInBounds_toArray, List.set_cons_zero, List.set_cons_succ]
          first | (refine skipH (i := 1) (dst := some 21) rfl rfl (by kernel_rfl) (by kernel_rfl) (by kernel_rfl) (fun _ _ _ h => h) (by rfl) hHeld ?_) | (refine' takeH (i := 1) (dst := some 21) (v := _) rfl rfl (by kernel_rfl) (by kernel_rfl) (by kernel_rfl) (fun _ _ _ h => h) (by rfl) ?hy hHeld ?_; case hy => (intro w hSw; clear hSw; (first | done | go_simp); try with_reducible rfl)) | fail
          try simp only [Act.put, List.setIfInBounds_toArray, List.set_cons_zero, List.set_cons_succ]
          first | (refine skipH (i := 2) (dst := some 22) rfl rfl (by kernel_rfl) (by kernel_rfl) (by kernel_rfl) (fun _ _ _ h => h) (by rfl) hHeld ?_) | (refine' takeH (i := 2) (dst := some 22) (v := _) rfl rfl (by kernel_rfl) (by kernel_rfl) (by kernel_rfl) (fun _ _ _ h => h) (by rfl) ?hy hHeld ?_; case hy => (intro w hSw; clear hSw; (first | done | go_simp); try with_reducible rfl)) | fail
          try simp only [Act.put, List.setIfInBounds_toArray, List.set_cons_zero, List.set_cons_succ]
          first | (refine skipH (i := 3) (dst := some 23) rfl rfl (by kernel_rfl) (by kernel_rfl) (by kernel_rfl) (fun _ _ _ h => h) (by rfl) hHeld ?_) | (refine' takeH (i := 3) (dst := some 23) (v := _) rfl rfl (by kernel_rfl) (by kernel_rfl) (by kernel_rfl) (fun _ _ _ h => h) (by rfl) ?hy hHeld ?_; case hy => (intro w hSw; obtain ⟨_, _, _, _, _, _, _⟩ := hSw; (first | done | go_simp); try with_reducible rfl)) | fail
          try simp only [Act.put, List.setIfInBounds_toArray, List.set_cons_zero, List.set_cons_succ]
          refine wpAnyH_ready (rs := [4]) (by kernel_rfl) (by simp) ?_
          refine AllReadyH.cons (i := 4) (o := ⟨some 24, .call _, _, _, _, _⟩) rfl (fun K hK => ?_) AllReadyH.nil
          go_simp
          refine (HPF.out _ (bt B1.out (below_dr B6.out 1)) HL.out).mono ?_
          rintro e w7 ⟨rfl, b7⟩
          have B7 := Lib.hid (bt (below_dr B6.out 1) b7)
          have hH := HE.out w7 (gb_below B7.out _)
          clear b7
          refine hK.out _ _ hH (fun _ => ?_)
          clear hK K hHeld
          have hHeld := hH
          clear hH
          try simp only [Act.put, List.setIfInBounds_toArray, List.set_cons_zero, List.set_cons_succ]
          first | (refine skipH (i := 5) (dst := some 25) rfl rfl (by kernel_rfl) (by kernel_rfl) (by kernel_rfl) (fun _ _ _ h => h) (by rfl) hHeld ?_) | (refine' takeH (i := 5) (dst := some 25) (v := _) rfl rfl (by kernel_rfl) (by kernel_rfl) (by kernel_rfl) (fun _ _ _ h => h) (by rfl) ?hy hHeld ?_; case hy => (intro w hSw; clear hSw; (first | done | go_simp); try with_reducible rfl)) | fail
          try simp only [Act.put, List.setIfInBounds_toArray, List.set_cons_zero, List.set_cons_succ]
          refine wpAnyH_done (by kernel_rfl) (NoPanic.normal ?_) _
          clear hHeld
          go_wp2_with fail
          go_ret
          have HRY := Lib.hid (HR.out _ (bt B1.out B7.out))
          exact ⟨C, F, 3, rfl, HRY.out, gb_below (bt B1.out B7.out) _, .inr (.inr (.inl ⟨rfl, HOK.out, HDP.out, HL.out, rfl, rfl, rfl⟩))⟩
        · have HL : Hid (F.length < 64) := Lib.hid (by have := HLF.out; omega)
          clear hl
          go_wp2_with fail
          refine wp_region_noPanic ?_
          refine wp_region_held_drew (S := fun w' => w'.cell? ⟨w.heap.size, 0, none⟩ = some (.string S1) ∧ w'.cell? ⟨w.heap.size, 1, none⟩ = some (.string S2) ∧ w'.cell? ⟨w.heap.size, 2, none⟩ = some (.int .u8 d.level) ∧ w'.cell? ⟨w.heap.size, 3, none⟩ = some (.slice ra rn rc) ∧ w'.cell? ⟨w.heap.size, 4, none⟩ = some (.int .i8 d.score) ∧ w'.cell? ⟨w.heap.size, 5, none⟩ = some (.string S3) ∧ w'.cell? ⟨w.heap.size, 6, none⟩ = some (.int .i16 d.entry)) (by kernel_rfl) (HE.out _ (gb_below (below_dr B6.out 1) _)) (fun hHeld => ?_)
          first | (refine skipH (i := 0) (dst := some 20) rfl rfl (by kernel_rfl) (by kernel_rfl) (by kernel_rfl) (fun _ _ _ h => h) (by rfl) hHeld ?_) | (refine' takeH (i := 0) (dst := some 20) (v := _) rfl rfl (by kernel_rfl) (by kernel_rfl) (by kernel_rfl) (fun _ _ _ h => h) (by rfl) ?hy hHeld ?_; case hy => (intro w hSw; clear hSw; (first | done | go_simp); try with_reducible rfl)) | fail
          try simp only [Act.put, List.setIfInBounds_toArray, List.set_cons_zero, List.set_cons_succ]
          first | (refine skipH (i := 1) (dst := some 21) rfl rfl (by kernel_rfl) (by kernel_rfl) (by kernel_rfl) (fun _ _ _ h => h) (by rfl) hHeld ?_) | (refine' takeH (i := 1) (dst := some 21) (v := _) rfl rfl (by kernel_rfl) (by kernel_rfl) (by kernel_rfl) (fun _ _ _ h => h) (by rfl) ?hy hHeld ?_; case hy => (intro w hSw; clear hSw; (first | done | go_simp); try with_reducible rfl)) | fail
          try simp only [Act.put, List.setIfInBounds_toArray, List.set_cons_zero, List.set_cons_succ]
          first | (refine skipH (i := 2) (dst := some 22) rfl rfl (by kernel_rfl) (by kernel_rfl) (by kernel_rfl) (fun _ _ _ h => h) (by rfl) hHeld ?_) | (refine' takeH (i := 2) (dst := some 22) (v := _) rfl rfl (by kernel_rfl) (by kernel_rfl) (by kernel_rfl) (fun _ _ _ h => h) (by rfl) ?hy hHeld ?_; case hy => (intro w hSw; clear hSw; (first | done | go_simp); try with_reducible rfl)) | fail
          try simp only [Act.put, List.setIfInBounds_toArray, List.set_cons_zero, List.set_cons_succ]
          first | (refine skipH (i := 3) (dst := some 23) rfl rfl (by kernel_rfl) (by kernel_rfl) (by kernel_rfl) (fun _ _ _ h => h) (by rfl) hHeld ?_) | (refine' takeH (i := 3) (dst := some 23) (v := _) rfl rfl (by kernel_rfl) (by kernel_rfl) (by kernel_rfl) (fun _ _ _ h => h) (by rfl) ?hy hHeld ?_; case hy => (intro w hSw; obtain ⟨_, _, _, _, _, _, _⟩ := hSw; (first | done | go_simp); try with_reducible rfl)) | fail
          try simp only [Act.put, List.setIfInBounds_toArray, List.set_cons_zero, List.set_cons_succ]
          refine wpAnyH_ready (rs := [4]) (by kernel_rfl) (by simp) ?_
          refine AllReadyH.cons (i := 4) (o := ⟨some 24, .call _, _, _, _, _⟩) rfl (fun K hK => ?_) AllReadyH.nil
          go_simp
          refine (HPR2.out _ (bt B1.out (below_dr B6.out 1)) HL.out).mono ?_
          rintro e w7 ⟨r', rfl, hb7, hg7, hr7, ho7⟩
          have HB7 := Lib.hid hb7
          have HG6 := Lib.hid hg7
          have HG7 := Lib.hid (gb_trans (gb_below (below_dr B6.out 1) (some g)) hg7)
          have HR7 := Lib.hid hr7
          have HO7 := Lib.hid (own_monoK ho7 (show w.heap.size ≤ _ from (bt B1.out (below_dr B6.out 1)).size))
          have HT7 := Lib.hid (txin_own (Nat.lt_of_lt_of_le hgs (bt B1.out (below_dr B6.out 1)).size) hr7 ho7)
          have hH := HE.out w7 HG7.out
          clear hb7 hg7 hr7 ho7
          refine hK.out _ _ hH (fun _ => ?_)
          clear hK K hHeld
          have hHeld := hH
          clear hH
          try simp only [Act.put, List.setIfInBounds_toArray, List.set_cons_zero, List.set_cons_succ]
          first | (refine skipH (i := 5) (dst := some 25) rfl rfl (by kernel_rfl) (by kernel_rfl) (by kernel_rfl) (fun _ _ _ h => h) (by rfl) hHeld ?_) | (refine' takeH (i := 5) (dst := some 25) (v := _) rfl rfl (by kernel_rfl) (by kernel_rfl) (by kernel_rfl) (fun _ _ _ h => h) (by rfl) ?hy hHeld ?_; case hy => (intro w hSw; clear hSw; (first | done | go_simp); try with_reducible rfl)) | fail
          try simp only [Act.put, List.setIfInBounds_toArray, List.set_cons_zero, List.set_cons_succ]
          refine wpAnyH_done (by kernel_rfl) (NoPanic.normal ?_) _
          clear hHeld
          go_wp2_with fail
          go_ret
          exact ⟨C, F ++ [(d, r')], 71, rfl, reg_put_f (HR.out _ (bt B1.out (below_dr B6.out 1))) HG6.out HB7.out HL.out HT7.out HM.out, gb_trans (gb_below B1.out _) HG7.out, .inr (.inr (.inr (.inl ⟨rfl, HOK.out, HDP.out, HL.out, rfl, rfl, r', rfl, own_from HO7.out⟩)))⟩
      | false =>
        have HDP : Hid (¬ Dup C d.name) := Lib.hid fun hh => by cases HGH.out.2 hh
        by_cases hl : C.length = 64
        · have HL := Lib.hid hl
          clear hl
          go_wp2_with fail
          refine wp_region_noPanic ?_
          refine wp_region_held_drew (S := fun w' => w'.cell? ⟨w.heap.size, 0, none⟩ = some (.string S1) ∧ w'.cell? ⟨w.heap.size, 1, none⟩ = some (.string S2) ∧ w'.cell? ⟨w.heap.size, 2, none⟩ = some (.int .u8 d.level) ∧ w'.cell? ⟨w.heap.size, 3, none⟩ = some (.slice ra rn rc) ∧ w'.cell? ⟨w.heap.size, 4, none⟩ = some (.int .i8 d.score) ∧ w'.cell? ⟨w.heap.size, 5, none⟩ = some (.string S3) ∧ w'.cell? ⟨w.heap.size, 6, none⟩ = some (.int .i16 d.entry)) (by kernel_rfl) (HE.out _ (gb_below (below_dr B6.out 1) _)) (fun hHeld => ?_)
          first | (refine skipH (i := 0) (dst := some 26) rfl rfl (by kernel_rfl) (by kernel_rfl) (by kernel_rfl) (fun _ _ _ h => h) (by rfl) hHeld ?_) | (refine' takeH (i := 0) (dst := some 26) (v := _) rfl rfl (by kernel_rfl) (by kernel_rfl) (by kernel_rfl) (fun _ _ _ h => h) (by rfl) ?hy hHeld ?_; case hy => (intro w hSw; clear hSw; (first | done | go_simp); try with_reducible rfl)) | fail
          try simp only [Act.put, List.setIfInBounds_toArray, List.set_cons_zero, List.set_cons_succ]
          first | (refine skipH (i := 1) (dst := some 27) rfl rfl (by kernel_rfl) (by kernel_rfl) (by kernel_rfl) (fun _ _ _ h => h) (by rfl) hHeld ?_) | (refine' takeH (i := 1) (dst := some 27) (v := _) rfl rfl (by kernel_rfl) (by kernel_rfl) (by kernel_rfl) (fun _ _ _ h => h) (by rfl) ?hy hHeld ?_; case hy => (intro w hSw; clear hSw; (first | done | go_simp); try with_reducible rfl)) | fail
          try simp only [Act.put, List.setIfInBounds_toArray, List.set_cons_zero, List.set_cons_succ]
          first | (refine skipH (i := 2) (dst := some 28) rfl rfl (by kernel_rfl) (by kernel_rfl) (by kernel_rfl) (fun _ _ _ h => h) (by rfl) hHeld ?_) | (refine' takeH (i := 2) (dst := some 28) (v := _) rfl rfl (by kernel_rfl) (by kernel_rfl) (by kernel_rfl) (fun _ _ _ h => h) (by rfl) ?hy hHeld ?_; case hy => (intro w hSw; clear hSw; (first | done | go_simp); try with_reducible rfl)) | fail
          try simp only [Act.put, List.setIfInBounds_toArray, List.set_cons_zero, List.set_cons_succ]
          first | (refine skipH (i := 3) (dst := some 29) rfl rfl (by kernel_rfl) (by kernel_rfl) (by kernel_rfl) (fun _ _ _ h => h) (by rfl) hHeld ?_) | (refine' takeH (i := 3) (dst := some 29) (v := _) rfl rfl (by kernel_rfl) (by kernel_rfl) (by kernel_rfl) (fun _ _ _ h => h) (by rfl) ?hy hHeld ?_; case hy => (intro w hSw; obtain ⟨_, _, _, _, _, _, _⟩ := hSw; (first | done | go_simp); try with_reducible rfl)) | fail
          try simp only [Act.put, List.setIfInBounds_toArray, List.set_cons_zero, List.set_cons_succ]
          refine wpAnyH_ready (rs := [4]) (by kernel_rfl) (by simp) ?_
          refine AllReadyH.cons (i := 4) (o := ⟨some 30, .call _, _, _, _, _⟩) rfl (fun K hK => ?_) AllReadyH.nil
          go_simp
          refine (HQF.out _ (bt B1.out (below_dr B6.out 1)) HL.out).mono ?_
          rintro e w7 ⟨rfl, b7⟩
          have B7 := Lib.hid (bt (below_dr B6.out 1) b7)
          have hH := HE.out w7 (gb_below B7.out _)
          clear b7
          refine hK.out _ _ hH (fun _ => ?_)
          clear hK K hHeld
          have hHeld := hH
          clear hH
          try simp only [Act.put, List.setIfInBounds_toArray, List.set_cons_zero, List.set_cons_succ]
          first | (refine skipH (i := 5) (dst := some 31) rfl rfl (by kernel_rfl) (by kernel_rfl) (by kernel_rfl) (fun _ _ _ h => h) (by rfl) hHeld ?_) | (refine' takeH (i := 5) (dst := some 31) (v := _) rfl rfl (by kernel_rfl) (by kernel_rfl) (by kernel_rfl) (fun _ _ _ h => h) (by rfl) ?hy hHeld ?_; case hy => (intro w hSw; clear hSw; (first | done | go_simp); try with_reducible rfl)) | fail
          try simp only [Act.put, List.setIfInBounds_toArray, List.set_cons_zero, List.set_cons_succ]
          refine wpAnyH_done (by kernel_rfl) (NoPanic.normal ?_) _
          clear hHeld
          go_wp2_with fail
          go_ret
          have HRY := Lib.hid (HR.out _ (bt B1.out B7.out))
          exact ⟨C, F, 3, rfl, HRY.out, gb_below (bt B1.out B7.out) _, .inr (.inr (.inr (.inr (.inl ⟨rfl, HOK.out, HDP.out, HL.out, rfl, rfl, rfl⟩))))⟩
        · have HL : Hid (C.length < 64) := Lib.hid (by have := HLC.out; omega)
          clear hl
          go_wp2_with fail
          refine wp_region_noPanic ?_
          refine wp_region_held_drew (S := fun w' => w'.cell? ⟨w.heap.size, 0, none⟩ = some (.string S1) ∧ w'.cell? ⟨w.heap.size, 1, none⟩ = some (.string S2) ∧ w'.cell? ⟨w.heap.size, 2, none⟩ = some (.int .u8 d.level) ∧ w'.cell? ⟨w.heap.size, 3, none⟩ = some (.slice ra rn rc) ∧ w'.cell? ⟨w.heap.size, 4, none⟩ = some (.int .i8 d.score) ∧ w'.cell? ⟨w.heap.size, 5, none⟩ = some (.string S3) ∧ w'.cell? ⟨w.heap.size, 6, none⟩ = some (.int .i16 d.entry)) (by kernel_rfl) (HE.out _ (gb_below (below_dr B6.out 1) _)) (fun hHeld => ?_)
          first | (refine skipH (i := 0) (dst := some 26) rfl rfl (by kernel_rfl) (by kernel_rfl) (by kernel_rfl) (fun _ _ _ h => h) (by rfl) hHeld ?_) | (refine' takeH (i := 0) (dst := some 26) (v := _) rfl rfl (by kernel_rfl) (by kernel_rfl) (by kernel_rfl) (fun _ _ _ h => h) (by rfl) ?hy hHeld ?_; case hy => (intro w hSw; clear hSw; (first | done | go_simp); try with_reducible rfl)) | fail
          try simp only [Act.put, List.setIfInBounds_toArray, List.set_cons_zero, List.set_cons_succ]
          first | (refine skipH (i := 1) (dst := some 27) rfl rfl (by kernel_rfl) (by kernel_rfl) (by kernel_rfl) (fun _ _ _ h => h) (by rfl) hHeld ?_) | (refine' takeH (i := 1) (dst := some 27) (v := _) rfl rfl (by kernel_rfl) (by kernel_rfl) (by kernel_rfl) (fun _ _ _ h => h) (by rfl) ?hy hHeld ?_; case hy => (intro w hSw; clear hSw; (first | done | go_simp); try with_reducible rfl)) | fail
          try simp only [Act.put, List.setIfInBounds_toArray, List.set_cons_zero, List.set_cons_succ]
          first | (refine skipH (i := 2) (dst := some 28) rfl rfl (by kernel_rfl) (by kernel_rfl) (by kernel_rfl) (fun _ _ _ h => h) (by rfl) hHeld ?_) | (refine' takeH (i := 2) (dst := some 28) (v := _) rfl rfl (by kernel_rfl) (by kernel_rfl) (by kernel_rfl) (fun _ _ _ h => h) (by rfl) ?hy hHeld ?_; case hy => (intro w hSw; clear hSw; (first | done | go_simp); try with_reducible rfl)) | fail
          try simp only [Act.put, List.setIfInBounds_toArray, List.set_cons_zero, List.set_cons_succ]
          first | (refine skipH (i := 3) (dst := some 29) rfl rfl (by kernel_rfl) (by kernel_rfl) (by kernel_rfl) (fun _ _ _ h => h) (by rfl) hHeld ?_) | (refine' takeH (i := 3) (dst := some 29) (v := _) rfl rfl (by kernel_rfl) (by kernel_rfl) (by kernel_rfl) (fun _ _ _ h => h) (by rfl) ?hy hHeld ?_; case hy => (intro w hSw; obtain ⟨_, _, _, _, _, _, _⟩ := hSw; (first | done | go_simp); try with_reducible rfl)) | fail
          try simp only [Act.put, List.setIfInBounds_toArray, List.set_cons_zero, List.set_cons_succ]
          refine wpAnyH_ready (rs := [4]) (by kernel_rfl) (by simp) ?_
          refine AllReadyH.cons (i := 4) (o := ⟨some 30, .call _, _, _, _, _⟩) rfl (fun K hK => ?_) AllReadyH.nil
          go_simp
          refine (HQR2.out _ (bt B1.out (below_dr B6.out 1)) HL.out).mono ?_
          rintro e w7 ⟨r', rfl, hb7, hg7, hr7, ho7⟩
          have HB7 := Lib.hid hb7
          have HG6 := Lib.hid hg7
          have HG7 := Lib.hid (gb_trans (gb_below (below_dr B6.out 1) (some g)) hg7)
          have HR7 := Lib.hid hr7
          have HO7 := Lib.hid (own_monoK ho7 (show w.heap.size ≤ _ from (bt B1.out (below_dr B6.out 1)).size))
          have HT7 := Lib.hid (txin_own (Nat.lt_of_lt_of_le hgs (bt B1.out (below_dr B6.out 1)).size) hr7 ho7)
          have hH := HE.out w7 HG7.out
          clear hb7 hg7 hr7 ho7
          refine hK.out _ _ hH (fun _ => ?_)
          clear hK K hHeld
          have hHeld := hH
          clear hH
          try simp only [Act.put, List.setIfInBounds_toArray, List.set_cons_zero, List.set_cons_succ]
          first | (refine skipH (i := 5) (dst := some 31) rfl rfl (by kernel_rfl) (by kernel_rfl) (by kernel_rfl) (fun _ _ _ h => h) (by rfl) hHeld ?_) | (refine' takeH (i := 5) (dst := some 31) (v := _) rfl rfl (by kernel_rfl) (by kernel_rfl) (by kernel_rfl) (fun _ _ _ h => h) (by rfl) ?hy hHeld ?_; case hy => (intro w hSw; clear hSw; (first | done | go_simp); try with_reducible rfl)) | fail
          try simp only [Act.put, List.setIfInBounds_toArray, List.set_cons_zero, List.set_cons_succ]
          refine wpAnyH_done (by kernel_rfl) (NoPanic.normal ?_) _
          clear hHeld
          go_wp2_with fail
          go_ret
          exact ⟨C ++ [(d, r')], F, 0, rfl, reg_put_c (HR.out _ (bt B1.out (below_dr B6.out 1))) HG6.out HB7.out HL.out HT7.out HM.out, gb_trans (gb_below B1.out _) HG7.out, .inr (.inr (.inr (.inr (.inr ⟨rfl, HOK.out, HDP.out, HL.out, rfl, rfl, r', rfl, own_from HO7.out⟩))))⟩
end Go.Proofs.Ytmlfnihicocilaa.Kr
