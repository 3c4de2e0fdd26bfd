/- The law SupplyRamps, walked. -/
import Derived.Test.YtpoijmncdicdkaaDoorSuM
import Derived.Test.YtpoijmncdicdkaaDoorSuH
import Derived.Test.YtpoijmncdicdkaaDoorSuS
namespace Go.Proofs.YtpoijmncdicdkaaDoor.Su
open Go.ChangeShapes Go.WideShapes Go.ChangeAt Go.RowKit Own Ro

def md (i : Int) : Int := (i.tmod 24 + 24).tmod 24
theorem md_rng (i : Int) : (-24 < i.tmod 24 ∧ i.tmod 24 < 24) ∧ 0 ≤ md i ∧ md i < 24 := by
  have h1 : -24 < i.tmod 24 ∧ i.tmod 24 < 24 := by
    refine ⟨?_, Int.tmod_lt_of_pos _ (by omega)⟩
    by_cases h : 0 ≤ i
    · have := Int.tmod_nonneg 24 h; omega
    · have h2 := Int.tmod_lt_of_pos (-i) (b := 24) (by omega)
      rw [Int.neg_tmod] at h2; omega
  exact ⟨h1, Int.tmod_nonneg 24 (by omega), Int.tmod_lt_of_pos _ (by omega)⟩
theorem code_steps (t : Int) (h0 : -32768 ≤ t) (h1 : t ≤ 32767) : codeV (t * 12500) = .tuple #[.int .i16 t, .bool true] ∧ codeV (t * 12500 + 6250) = .tuple #[.int .i16 t, .bool true] := by
  have key : ∀ m, (m = t * 12500 ∨ m = t * 12500 + 6250) → nst m = t := by
    intro m hm
    obtain ⟨s1, s2, s3, s4, s5⟩ := dv_of m
    unfold nst
    generalize m.tdiv 12500 = q at *
    generalize m.tmod 12500 = r at *
    rcases hm with rfl | rfl <;> (split <;> (try split) <;> omega)
  have c : cl t = t := by unfold cl; split <;> (try split) <;> omega
  unfold codeV
  rw [key _ (.inl rfl), key _ (.inr rfl), c]
  simp
set_option maxRecDepth 100000 in
set_option maxHeartbeats 8000000 in
theorem ramps_any (i k u t : Int) (w : World) (h : Tb w) (u0 : 0 ≤ u) (u1 : u ≤ 65535) (t0 : -32768 ≤ t) (t1 : t ≤ 32767) :
    Calls Tryd.prog 8 #[.agg #[.int .i64 i, .int .i64 k, .int .u16 u, .int .i16 t]] w (fun e w' => e = .returned (.bool true) ∧ Below w.heap.size w w') := by
  have HT := Lib.hid h
  clear h
  obtain ⟨⟨i1, i2⟩, i3, i4⟩ := md_rng i
  obtain ⟨⟨k1, k2⟩, k3, k4⟩ := md_rng k
  obtain ⟨s, kk, hs1, hs2⟩ := Fl.slew_sl u.toNat (by omega)
  rw [show ((u.toNat : Nat) : Int) = u by omega] at hs1
  have HS := Lib.hid hs2
  have HSB := Lib.hid (slew_of hs2)
  have hadd : ∀ (ty : TypeId) (V : World), (binOp .add ty (.float .f64 (floatOfInt FloatKind.f64 u)) (.float .f64 4607182418800017408)).run Tryd.prog V = .ok (.float .f64 s) V := fun ty V => run_float_arith _ _ _ _ _ _ _ hs1
  clear hs1 hs2
  have HA := Lib.hid (show md i = (i.tmod 24 + 24).tmod 24 from rfl)
  have HK := Lib.hid (show md k = (k.tmod 24 + 24).tmod 24 from rfl)
  generalize md i = a at *
  generalize md k = b at *
  have ea1 : (i.tmod 24 + 24) % 24 = a := ((Int.tmod_eq_emod_of_nonneg (a := i.tmod 24 + 24) (b := 24) (by omega)).symm.trans HA.out.symm)
  have ek1 : (k.tmod 24 + 24) % 24 = b := ((Int.tmod_eq_emod_of_nonneg (a := k.tmod 24 + 24) (b := 24) (by omega)).symm.trans HK.out.symm)
  clear HA HK
  go_enter Tryd.func8, Tryd.ntmps8
  go_wp2_with fail
  simp only [ea1, ek1]
  have HB0 := Lib.hid (grows' w (.cells #[.int .i64 i, .int .i64 k, .int .u16 u, .int .i16 t] 83))
  have HT0 := Lib.hid (Tb.alloc HT.out (.cells #[.int .i64 i, .int .i64 k, .int .u16 u, .int .i16 t] 83))
  generalize w.alloc (.cells #[.int .i64 i, .int .i64 k, .int .u16 u, .int .i16 t] 83) = W at HB0 HT0 ⊢
  generalize i.tmod 24 = im at *
  generalize k.tmod 24 = km at *
  clear ea1 ek1 hadd
  have pa : okP a = true := decide_eq_true ⟨i3, i4⟩
  have pb : okP b = true := decide_eq_true ⟨k3, k4⟩
  have HPA := Lib.hid pa
  have HPB := Lib.hid pb
  clear pa pb
  refine (ramp_ok a b s W HT0.out HPA.out HPB.out HSB.out).mono ?_
  rintro e W1 ⟨rfl, q1, rfl⟩
  have HR1 := Lib.hid (below_dr (Below.refl W.heap.size W) q1)
  generalize W.drewN q1 = W1 at HR1 ⊢
  go_wp2_with fail
  refine (ramp_ok b a s W1 (Tb.below HT0.out HR1.out) HPB.out HPA.out HSB.out).mono ?_
  rintro e W2 ⟨rfl, q1, rfl⟩
  rw [rampN_comm b a]
  have HR2 := Lib.hid (below_dr HR1.out q1)
  generalize W1.drewN q1 = W2 at HR2 ⊢
  clear HR1
  go_wp2_with fail
  have hway : Calls Tryd.prog 21 #[.int .i64 a, .int .i64 b] W2 (fun e w' => WayOk W2 a b e w') := by
    by_cases hd : b < a
    · exact way_down a b W2 HPA.out HPB.out hd
    · exact way_up a b W2 HPA.out HPB.out (by omega)
  refine hway.mono ?_
  rintro e W3 ⟨A, c, rfl, ho, hb⟩
  have HR3 := Lib.hid (bt HR2.out hb)
  have HO := Lib.hid (own_cells ho)
  clear hway hb ho HR2
  obtain ⟨n, hn⟩ : ∃ n, n = wayN a b := ⟨_, rfl⟩
  have HN := Lib.hid hn
  rw [← hn] at HO ⊢
  clear hn
  obtain ⟨bl, ol, rfl, hbl, hcl⟩ := HO.out.at (by omega)
  have hat : ∀ j, j < n + 1 → (wayV a b (n + 1))[j]? = some (.int .i64 (wat a b j)) := fun j hj => by
    unfold wayV
    rw [List.getElem?_map, List.getElem?_range hj]
    rfl
  have HCL := Lib.hid (fun (V : World) (hV : Below W3.heap.size W3 V) (j : Nat) (hj : j < n + 1) => show V.cell? ⟨bl, ol + j, none⟩ = some (.int .i64 (wat a b j)) by rw [hV.cell (cell_lt (hcl j _ (hat j hj)))]; exact hcl j _ (hat j hj))
  have HW0 := Lib.hid (show wat a b 0 = a by unfold wat; split <;> simp)
  have HWN := Lib.hid (show wat a b n = b by rw [HN.out]; unfold wat wayN; split <;> omega)
  have HXX : Hid (FloatKind.f64.format.order (rampN a b s) (rampN a b s) = some .eq) := Lib.hid (by
    by_cases hab : a = b
    · subst hab
      rw [ramp_zero HS.out]
      rfl
    · obtain ⟨r, hr, _⟩ := ramp_tm HS.out i3 i4 k3 k4 hab
      obtain ⟨m, e, he, _⟩ := hr
      exact Fl.order_self ⟨_, m, e, he⟩)
  have x0 := HCL.out W3 (Below.refl _ _) 0 (by omega)
  rw [HW0.out, Nat.add_zero] at x0
  have xn := HCL.out W3 (Below.refl _ _) n (by omega)
  rw [HWN.out] at xn
  have hxx := HXX.out
  have hn24 : n ≤ 23 := by rw [HN.out]; unfold wayN; omega
  clear hcl hat
  have hn0 : ((n : Int) + 1 == 0) = false := by simp; omega
  go_wp2_with fail
  clear x0 xn hxx hn0
  go_loopw [13, 14] (fun v13 v14 wr => ∃ (j : Nat) (σ : Nat), j ≤ n ∧ v14 = .int .i64 ((j : Int) + 1) ∧ v13 = .float .f64 σ ∧ Fl.Sm kk (dif a (wat a b j)).toNat (j + 1) σ ∧ Below W3.heap.size W3 wr ∧ (j = 0 → σ = 0)) (fun _ v14 _ => n + 1 - (RowKit.intOf v14).toNat)
  case atStart => exact ⟨0, 0, by omega, rfl, rfl, by rw [HW0.out, dif_self]; exact Fl.sm_zero kk, Below.refl _ _, fun _ => rfl⟩
  case round =>
    obtain ⟨j, σ, hj, rfl, rfl, hsm, hbr, hz0⟩ := hrel
    have HSM := Lib.hid hsm
    have HBR := Lib.hid hbr
    have HZ0 := Lib.hid hz0
    clear hsm hbr hz0
    by_cases hlt : j < n
    · have l1 : (0 : Int) ≤ (j : Int) + 1 := by omega
      have l2 : (j : Int) + 1 < (n : Int) + 1 := by omega
      have l3 : (0 : Int) ≤ (j : Int) := by omega
      have l4 : (j : Int) < (n : Int) + 1 := by omega
      have l6 : IntKind.i64.wrap (j : Int) = (j : Int) := by rw [IntKind.wrap_i64]; omega
      have l7 : ((j : Int) + 1).toNat = j + 1 := by omega
      have hd1 : (0 ≤ wat a b j ∧ wat a b j < 24) ∧ (0 ≤ wat a b (j + 1) ∧ wat a b (j + 1) < 24) ∧ (wat a b (j + 1) = wat a b j + 1 ∨ wat a b (j + 1) = wat a b j - 1) := by
        have := HN.out
        unfold wayN at this
        unfold wat
        split <;> omega
      have hsum := dif_sum i3 i4 k3 k4 j (by rw [← HN.out]; exact hlt)
      have HK1 := Lib.hid (fun V (hV : Below W3.heap.size W3 V) => show (V.cell? ⟨bl, ol + j, none⟩ = some (.int .i64 (wat a b j)) ∧ V.cell? ⟨bl, ol + (j + 1), none⟩ = some (.int .i64 (wat a b (j + 1)))) ∧ Below W3.heap.size W3 V from ⟨⟨HCL.out V hV j (by omega), HCL.out V hV (j + 1) (by omega)⟩, hV⟩)
      have hrt := ramp_tm HS.out hd1.1.1 hd1.1.2 hd1.2.1.1 hd1.2.1.2 (by omega)
      have hdr := dif_rng hd1.1.1 hd1.1.2 hd1.2.1.1 hd1.2.1.2 (by omega)
      have hPr : (dif a (wat a b j)).toNat ≤ 100000000 := by
        by_cases he : a = wat a b j
        · rw [← he, dif_self]; decide
        · exact (dif_rng i3 i4 hd1.1.1 hd1.1.2 he).2.1
      have HRM := Lib.hid (fun V (hV : Tb V) => ramp_ok (wat a b j) (wat a b (j + 1)) s V hV (decide_eq_true hd1.1) (decide_eq_true hd1.2.1) HSB.out)
      obtain ⟨r, hr1, hr2⟩ := hrt
      obtain ⟨σ', ha1, ha2⟩ := Fl.sm_step HS.out HSM.out (by omega) (by omega) hPr hdr.1 hdr.2.1 hr1 hr2
      rw [← hsum] at ha2
      have HS2 := Lib.hid ha2
      have hadd : ∀ (ty : TypeId) (V : World), (binOp .add ty (.float .f64 σ) (.float .f64 (rampN (wat a b j) (wat a b (j + 1)) s))).run Tryd.prog V = .ok (.float .f64 σ') V := fun ty V => run_float_arith _ _ _ _ _ _ _ ha1
      obtain ⟨⟨hy0, hy1b⟩, ⟨hy2, hy3⟩, hd2⟩ := hd1
      clear hsum hdr hPr hr1 hr2 ha1 ha2 HSM
      generalize rampN (wat a b j) (wat a b (j + 1)) s = z at *
      have HWJ := Lib.hid (rfl : wat a b (j + 1) = wat a b (j + 1))
      obtain ⟨⟨f0, f1⟩, _⟩ := HK1.out _ HBR.out
      generalize wat a b j = y0 at *
      generalize hy1 : wat a b (j + 1) = y1 at *
      go_wp2_with fail
      go_region_held3 (fun w' => (w'.cell? ⟨bl, ol + j, none⟩ = some (.int .i64 y0) ∧ w'.cell? ⟨bl, ol + (j + 1), none⟩ = some (.int .i64 y1)) ∧ Below W3.heap.size W3 w') (first | exact HK1.out _ (by assumption) | exact HK1.out _ HBR.out | exact HK1.out _ (below_dr HBR.out 1))
        ((go_at_call 17; refine (HRM.out _ (Tb.below HT0.out (bt HR3.out (And.right (by assumption))))).mono ?_; rintro e w9 ⟨rfl, q9, rfl⟩; have b9 := below_dr HBR.out (1 + q9)))
      have HB9 := Lib.hid b9
      clear b9 f0 f1
      generalize wr.drewN (1 + q9) = W9 at HB9 ⊢
      obtain ⟨⟨f0, f1⟩, _⟩ := HK1.out _ HB9.out
      rcases hd2 with hd2 | hd2
      · subst hd2
        have w1 : IntKind.i64.wrap (y0 + 1) = y0 + 1 := by rw [IntKind.wrap_i64]; omega
        go_wp2_with fail
        refine wp_region_noPanic ?_
        refine wp_region_held_drew (S := fun w' => (w'.cell? ⟨bl, ol + j, none⟩ = some (.int .i64 y0) ∧ w'.cell? ⟨bl, ol + (j + 1), none⟩ = some (.int .i64 (y0 + 1))) ∧ Below W3.heap.size W3 w') (by kernel_rfl) (HK1.out _ (below_dr HB9.out 1)) (fun hHeld => ?_)
        first | (refine skipH (i := 0) (dst := some 114) rfl rfl (by kernel_rfl) (by kernel_rfl) (by kernel_rfl) (fun _ _ _ h => h) (by rfl) hHeld ?_) | (refine' takeH (i := 0) (dst := some 114) (v := _) rfl rfl (by kernel_rfl) (by kernel_rfl) (by kernel_rfl) (fun _ _ _ h => h) (by rfl) ?hy hHeld ?_; case hy => (intro w hSw; clear hSw; (first | done | go_simp); try with_reducible rfl)) | fail
        try simp only [Act.put, List.setIfInBounds_toArray, List.set_cons_zero, List.set_cons_succ]
        first | (refine skipH (i := 1) (dst := some 115) rfl rfl (by kernel_rfl) (by kernel_rfl) (by kernel_rfl) (fun _ _ _ h => h) (by rfl) hHeld ?_) | (refine' takeH (i := 1) (dst := some 115) (v := _) rfl rfl (by kernel_rfl) (by kernel_rfl) (by kernel_rfl) (fun _ _ _ h => h) (by rfl) ?hy hHeld ?_; case hy => (intro w hSw; clear hSw; (first | done | go_simp); try with_reducible rfl)) | fail
        try simp only [Act.put, List.setIfInBounds_toArray, List.set_cons_zero, List.set_cons_succ]
        first | (refine skipH (i := 2) (dst := some 116) rfl rfl (by kernel_rfl) (by kernel_rfl) (by kernel_rfl) (fun _ _ _ h => h) (by rfl) hHeld ?_) | (refine' takeH (i := 2) (dst := some 116) (v := _) rfl rfl (by kernel_rfl) (by kernel_rfl) (by kernel_rfl) (fun _ _ _ h => h) (by rfl) ?hy hHeld ?_; case hy => (intro w hSw; clear hSw; (first | done | go_simp); try with_reducible rfl)) | fail
        try simp only [Act.put, List.setIfInBounds_toArray, List.set_cons_zero, List.set_cons_succ]
        first | (refine skipH (i := 3) (dst := some 117) rfl rfl (by kernel_rfl) (by kernel_rfl) (by kernel_rfl) (fun _ _ _ h => h) (by rfl) hHeld ?_) | (refine' takeH (i := 3) (dst := some 117) (v := _) rfl rfl (by kernel_rfl) (by kernel_rfl) (by kernel_rfl) (fun _ _ _ h => h) (by rfl) ?hy hHeld ?_; case hy => (intro w hSw; clear hSw; (first | done | go_simp); try with_reducible rfl)) | fail
        try simp only [Act.put, List.setIfInBounds_toArray, List.set_cons_zero, List.set_cons_succ]
        first | (refine skipH (i := 4) (dst := some 118) rfl rfl (by kernel_rfl) (by kernel_rfl) (by kernel_rfl) (fun _ _ _ h => h) (by rfl) hHeld ?_) | (refine' takeH (i := 4) (dst := some 118) (v := _) rfl rfl (by kernel_rfl) (by kernel_rfl) (by kernel_rfl) (fun _ _ _ h => h) (by rfl) ?hy hHeld ?_; case hy => (intro w hSw; clear hSw; (first | done | go_simp); try with_reducible rfl)) | fail
        try simp only [Act.put, List.setIfInBounds_toArray, List.set_cons_zero, List.set_cons_succ]
        first | (refine skipH (i := 5) (dst := some 119) rfl rfl (by kernel_rfl) (by kernel_rfl) (by kernel_rfl) (fun _ _ _ h => h) (by rfl) hHeld ?_) | (refine' takeH (i := 5) (dst := some 119) (v := _) rfl rfl (by kernel_rfl) (by kernel_rfl) (by kernel_rfl) (fun _ _ _ h => h) (by rfl) ?hy hHeld ?_; case hy => (intro w hSw; clear hSw; (first | done | go_simp); try with_reducible rfl)) | fail
        try simp only [Act.put, List.setIfInBounds_toArray, List.set_cons_zero, List.set_cons_succ]
        first | (refine skipH (i := 6) (dst := some 120) rfl rfl (by kernel_rfl) (by kernel_rfl) (by kernel_rfl) (fun _ _ _ h => h) (by rfl) hHeld ?_) | (refine' takeH (i := 6) (dst := some 120) (v := _) rfl rfl (by kernel_rfl) (by kernel_rfl) (by kernel_rfl) (fun _ _ _ h => h) (by rfl) ?hy hHeld ?_; case hy => (intro w hSw; obtain ⟨⟨_, _⟩, _⟩ := hSw; (first | done | go_simp); try with_reducible rfl)) | fail
        try simp only [Act.put, List.setIfInBounds_toArray, List.set_cons_zero, List.set_cons_succ]
        first | (refine skipH (i := 7) (dst := some 121) rfl rfl (by kernel_rfl) (by kernel_rfl) (by kernel_rfl) (fun _ _ _ h => h) (by rfl) hHeld ?_) | (refine' takeH (i := 7) (dst := some 121) (v := _) rfl rfl (by kernel_rfl) (by kernel_rfl) (by kernel_rfl) (fun _ _ _ h => h) (by rfl) ?hy hHeld ?_; case hy => (intro w hSw; clear hSw; (first | done | go_simp); try with_reducible rfl)) | fail
        try simp only [Act.put, List.setIfInBounds_toArray, List.set_cons_zero, List.set_cons_succ]
        first | (refine skipH (i := 8) (dst := some 122) rfl rfl (by kernel_rfl) (by kernel_rfl) (by kernel_rfl) (fun _ _ _ h => h) (by rfl) hHeld ?_) | (refine' takeH (i := 8) (dst := some 122) (v := _) rfl rfl (by kernel_rfl) (by kernel_rfl) (by kernel_rfl) (fun _ _ _ h => h) (by rfl) ?hy hHeld ?_; case hy => (intro w hSw; clear hSw; (first | done | go_simp); try with_reducible rfl)) | fail
        try simp only [Act.put, List.setIfInBounds_toArray, List.set_cons_zero, List.set_cons_succ]
        first | (refine skipH (i := 9) (dst := some 123) rfl rfl (by kernel_rfl) (by kernel_rfl) (by kernel_rfl) (fun _ _ _ h => h) (by rfl) hHeld ?_) | (refine' takeH (i := 9) (dst := some 123) (v := _) rfl rfl (by kernel_rfl) (by kernel_rfl) (by kernel_rfl) (fun _ _ _ h => h) (by rfl) ?hy hHeld ?_; case hy => (intro w hSw; clear hSw; (first | done | go_simp); try with_reducible rfl)) | fail
        try simp only [Act.put, List.setIfInBounds_toArray, List.set_cons_zero, List.set_cons_succ]
        first | (refine skipH (i := 10) (dst := some 124) rfl rfl (by kernel_rfl) (by kernel_rfl) (by kernel_rfl) (fun _ _ _ h => h) (by rfl) hHeld ?_) | (refine' takeH (i := 10) (dst := some 124) (v := _) rfl rfl (by kernel_rfl) (by kernel_rfl) (by kernel_rfl) (fun _ _ _ h => h) (by rfl) ?hy hHeld ?_; case hy => (intro w hSw; clear hSw; (first | done | go_simp); try with_reducible rfl)) | fail
        try simp only [Act.put, List.setIfInBounds_toArray, List.set_cons_zero, List.set_cons_succ]
        first | (refine skipH (i := 11) (dst := some 125) rfl rfl (by kernel_rfl) (by kernel_rfl) (by kernel_rfl) (fun _ _ _ h => h) (by rfl) hHeld ?_) | (refine' takeH (i := 11) (dst := some 125) (v := _) rfl rfl (by kernel_rfl) (by kernel_rfl) (by kernel_rfl) (fun _ _ _ h => h) (by rfl) ?hy hHeld ?_; case hy => (intro w hSw; obtain ⟨⟨_, _⟩, _⟩ := hSw; (first | done | go_simp); try with_reducible rfl)) | fail
        try simp only [Act.put, List.setIfInBounds_toArray, List.set_cons_zero, List.set_cons_succ]
        first | (refine skipH (i := 12) (dst := some 126) rfl rfl (by kernel_rfl) (by kernel_rfl) (by kernel_rfl) (fun _ _ _ h => h) (by rfl) hHeld ?_) | (refine' takeH (i := 12) (dst := some 126) (v := _) rfl rfl (by kernel_rfl) (by kernel_rfl) (by kernel_rfl) (fun _ _ _ h => h) (by rfl) ?hy hHeld ?_; case hy => (intro w hSw; clear hSw; (first | done | go_simp); try with_reducible rfl)) | fail
        try simp only [Act.put, List.setIfInBounds_toArray, List.set_cons_zero, List.set_cons_succ]
        first | (refine skipH (i := 13) (dst := some 127) rfl rfl (by kernel_rfl) (by kernel_rfl) (by kernel_rfl) (fun _ _ _ h => h) (by rfl) hHeld ?_) | (refine' takeH (i := 13) (dst := some 127) (v := _) rfl rfl (by kernel_rfl) (by kernel_rfl) (by kernel_rfl) (fun _ _ _ h => h) (by rfl) ?hy hHeld ?_; case hy => (intro w hSw; clear hSw; (first | done | go_simp); try with_reducible rfl)) | fail
        try simp only [Act.put, List.setIfInBounds_toArray, List.set_cons_zero, List.set_cons_succ]
        first | (refine skipH (i := 14) (dst := some 128) rfl rfl (by kernel_rfl) (by kernel_rfl) (by kernel_rfl) (fun _ _ _ h => h) (by rfl) hHeld ?_) | (refine' takeH (i := 14) (dst := some 128) (v := _) rfl rfl (by kernel_rfl) (by kernel_rfl) (by kernel_rfl) (fun _ _ _ h => h) (by rfl) ?hy hHeld ?_; case hy => (intro w hSw; clear hSw; (first | done | go_simp); try with_reducible rfl)) | fail
        try simp only [Act.put, List.setIfInBounds_toArray, List.set_cons_zero, List.set_cons_succ]
        first | (refine skipH (i := 15) (dst := some 129) rfl rfl (by kernel_rfl) (by kernel_rfl) (by kernel_rfl) (fun _ _ _ h => h) (by rfl) hHeld ?_) | (refine' takeH (i := 15) (dst := some 129) (v := _) rfl rfl (by kernel_rfl) (by kernel_rfl) (by kernel_rfl) (fun _ _ _ h => h) (by rfl) ?hy hHeld ?_; case hy => (intro w hSw; clear hSw; (first | done | go_simp); try with_reducible rfl)) | fail
        try simp only [Act.put, List.setIfInBounds_toArray, List.set_cons_zero, List.set_cons_succ]
        first | (refine skipH (i := 16) (dst := some 130) rfl rfl (by kernel_rfl) (by kernel_rfl) (by kernel_rfl) (fun _ _ _ h => h) (by rfl) hHeld ?_) | (refine' takeH (i := 16) (dst := some 130) (v := _) rfl rfl (by kernel_rfl) (by kernel_rfl) (by kernel_rfl) (fun _ _ _ h => h) (by rfl) ?hy hHeld ?_; case hy => (intro w hSw; clear hSw; (first | done | go_simp); try with_reducible rfl)) | fail
        try simp only [Act.put, List.setIfInBounds_toArray, List.set_cons_zero, List.set_cons_succ]
        first | (refine skipH (i := 17) (dst := some 131) rfl rfl (by kernel_rfl) (by kernel_rfl) (by kernel_rfl) (fun _ _ _ h => h) (by rfl) hHeld ?_) | (refine' takeH (i := 17) (dst := some 131) (v := _) rfl rfl (by kernel_rfl) (by kernel_rfl) (by kernel_rfl) (fun _ _ _ h => h) (by rfl) ?hy hHeld ?_; case hy => (intro w hSw; clear hSw; (first | done | go_simp); try with_reducible rfl)) | fail
        try simp only [Act.put, List.setIfInBounds_toArray, List.set_cons_zero, List.set_cons_succ]
        first | (refine skipH (i := 18) (dst := some 132) rfl rfl (by kernel_rfl) (by kernel_rfl) (by kernel_rfl) (fun _ _ _ h => h) (by rfl) hHeld ?_) | (refine' takeH (i := 18) (dst := some 132) (v := _) rfl rfl (by kernel_rfl) (by kernel_rfl) (by kernel_rfl) (fun _ _ _ h => h) (by rfl) ?hy hHeld ?_; case hy => (intro w hSw; obtain ⟨⟨_, _⟩, _⟩ := hSw; (first | done | go_simp); try with_reducible rfl)) | fail
        try simp only [Act.put, List.setIfInBounds_toArray, List.set_cons_zero, List.set_cons_succ]
        first | (refine skipH (i := 19) (dst := some 133) rfl rfl (by kernel_rfl) (by kernel_rfl) (by kernel_rfl) (fun _ _ _ h => h) (by rfl) hHeld ?_) | (refine' takeH (i := 19) (dst := some 133) (v := _) rfl rfl (by kernel_rfl) (by kernel_rfl) (by kernel_rfl) (fun _ _ _ h => h) (by rfl) ?hy hHeld ?_; case hy => (intro w hSw; clear hSw; (first | done | go_simp); try with_reducible rfl)) | fail
        try simp only [Act.put, List.setIfInBounds_toArray, List.set_cons_zero, List.set_cons_succ]
        first | (refine skipH (i := 20) (dst := some 134) rfl rfl (by kernel_rfl) (by kernel_rfl) (by kernel_rfl) (fun _ _ _ h => h) (by rfl) hHeld ?_) | (refine' takeH (i := 20) (dst := some 134) (v := _) rfl rfl (by kernel_rfl) (by kernel_rfl) (by kernel_rfl) (fun _ _ _ h => h) (by rfl) ?hy hHeld ?_; case hy => (intro w hSw; clear hSw; (first | done | go_simp); try with_reducible rfl)) | fail
        try simp only [Act.put, List.setIfInBounds_toArray, List.set_cons_zero, List.set_cons_succ]
        first | (refine skipH (i := 21) (dst := some 135) rfl rfl (by kernel_rfl) (by kernel_rfl) (by kernel_rfl) (fun _ _ _ h => h) (by rfl) hHeld ?_) | (refine' takeH (i := 21) (dst := some 135) (v := _) rfl rfl (by kernel_rfl) (by kernel_rfl) (by kernel_rfl) (fun _ _ _ h => h) (by rfl) ?hy hHeld ?_; case hy => (intro w hSw; clear hSw; (first | done | go_simp); try with_reducible rfl)) | fail
        try simp only [Act.put, List.setIfInBounds_toArray, List.set_cons_zero, List.set_cons_succ]
        first | (refine skipH (i := 22) (dst := some 136) rfl rfl (by kernel_rfl) (by kernel_rfl) (by kernel_rfl) (fun _ _ _ h => h) (by rfl) hHeld ?_) | (refine' takeH (i := 22) (dst := some 136) (v := _) rfl rfl (by kernel_rfl) (by kernel_rfl) (by kernel_rfl) (fun _ _ _ h => h) (by rfl) ?hy hHeld ?_; case hy => (intro w hSw; clear hSw; (first | done | go_simp); try with_reducible rfl)) | fail
        try simp only [Act.put, List.setIfInBounds_toArray, List.set_cons_zero, List.set_cons_succ]
        first | (refine skipH (i := 23) (dst := some 137) rfl rfl (by kernel_rfl) (by kernel_rfl) (by kernel_rfl) (fun _ _ _ h => h) (by rfl) hHeld ?_) | (refine' takeH (i := 23) (dst := some 137) (v := _) rfl rfl (by kernel_rfl) (by kernel_rfl) (by kernel_rfl) (fun _ _ _ h => h) (by rfl) ?hy hHeld ?_; case hy => (intro w hSw; obtain ⟨⟨_, _⟩, _⟩ := hSw; (first | done | go_simp); try with_reducible rfl)) | fail
        try simp only [Act.put, List.setIfInBounds_toArray, List.set_cons_zero, List.set_cons_succ]
        first | (refine skipH (i := 24) (dst := some 138) rfl rfl (by kernel_rfl) (by kernel_rfl) (by kernel_rfl) (fun _ _ _ h => h) (by rfl) hHeld ?_) | (refine' takeH (i := 24) (dst := some 138) (v := _) rfl rfl (by kernel_rfl) (by kernel_rfl) (by kernel_rfl) (fun _ _ _ h => h) (by rfl) ?hy hHeld ?_; case hy => (intro w hSw; clear hSw; (first | done | go_simp); try with_reducible rfl)) | fail
        try simp only [Act.put, List.setIfInBounds_toArray, List.set_cons_zero, List.set_cons_succ]
        first | (refine skipH (i := 25) (dst := some 139) rfl rfl (by kernel_rfl) (by kernel_rfl) (by kernel_rfl) (fun _ _ _ h => h) (by rfl) hHeld ?_) | (refine' takeH (i := 25) (dst := some 139) (v := _) rfl rfl (by kernel_rfl) (by kernel_rfl) (by kernel_rfl) (fun _ _ _ h => h) (by rfl) ?hy hHeld ?_; case hy => (intro w hSw; clear hSw; (first | done | go_simp); try with_reducible rfl)) | fail
        try simp only [Act.put, List.setIfInBounds_toArray, List.set_cons_zero, List.set_cons_succ]
        first | (refine skipH (i := 26) (dst := some 140) rfl rfl (by kernel_rfl) (by kernel_rfl) (by kernel_rfl) (fun _ _ _ h => h) (by rfl) hHeld ?_) | (refine' takeH (i := 26) (dst := some 140) (v := _) rfl rfl (by kernel_rfl) (by kernel_rfl) (by kernel_rfl) (fun _ _ _ h => h) (by rfl) ?hy hHeld ?_; case hy => (intro w hSw; clear hSw; (first | done | go_simp); try with_reducible rfl)) | fail
        try simp only [Act.put, List.setIfInBounds_toArray, List.set_cons_zero, List.set_cons_succ]
        first | (refine skipH (i := 27) (dst := some 141) rfl rfl (by kernel_rfl) (by kernel_rfl) (by kernel_rfl) (fun _ _ _ h => h) (by rfl) hHeld ?_) | (refine' takeH (i := 27) (dst := some 141) (v := _) rfl rfl (by kernel_rfl) (by kernel_rfl) (by kernel_rfl) (fun _ _ _ h => h) (by rfl) ?hy hHeld ?_; case hy => (intro w hSw; clear hSw; (first | done | go_simp); try with_reducible rfl)) | fail
        try simp only [Act.put, List.setIfInBounds_toArray, List.set_cons_zero, List.set_cons_succ]
        refine wpAnyH_done (by kernel_rfl) (NoPanic.normal ?_) _
        have HBL := Lib.hid hHeld.2
        clear hHeld
        go_wp2_with fail
        go_roundw
        case rel => exact ⟨j + 1, σ', by omega, by congr 1, rfl, by rw [hy1]; exact HS2.out, HBL.out, fun h => absurd h (by omega)⟩
        case measure => simp [RowKit.intOf]; omega
      · subst hd2
        have w1 : IntKind.i64.wrap (y0 + 1) = y0 + 1 := by rw [IntKind.wrap_i64]; omega
        have w2 : IntKind.i64.wrap (y0 - 1) = y0 - 1 := by rw [IntKind.wrap_i64]; omega
        have w3 : ((y0 - 1) != (y0 + 1)) = true := by simp; omega
        go_wp2_with fail
        refine wp_region_noPanic ?_
        refine wp_region_held_drew (S := fun w' => (w'.cell? ⟨bl, ol + j, none⟩ = some (.int .i64 y0) ∧ w'.cell? ⟨bl, ol + (j + 1), none⟩ = some (.int .i64 (y0 - 1))) ∧ Below W3.heap.size W3 w') (by kernel_rfl) (HK1.out _ (below_dr HB9.out 1)) (fun hHeld => ?_)
        first | (refine skipH (i := 0) (dst := some 114) rfl rfl (by kernel_rfl) (by kernel_rfl) (by kernel_rfl) (fun _ _ _ h => h) (by rfl) hHeld ?_) | (refine' takeH (i := 0) (dst := some 114) (v := _) rfl rfl (by kernel_rfl) (by kernel_rfl) (by kernel_rfl) (fun _ _ _ h => h) (by rfl) ?hy hHeld ?_; case hy => (intro w hSw; clear hSw; (first | done | go_simp); try with_reducible rfl)) | fail
        try simp only [Act.put, List.setIfInBounds_toArray, List.set_cons_zero, List.set_cons_succ]
        first | (refine skipH (i := 1) (dst := some 115) rfl rfl (by kernel_rfl) (by kernel_rfl) (by kernel_rfl) (fun _ _ _ h => h) (by rfl) hHeld ?_) | (refine' takeH (i := 1) (dst := some 115) (v := _) rfl rfl (by kernel_rfl) (by kernel_rfl) (by kernel_rfl) (fun _ _ _ h => h) (by rfl) ?hy hHeld ?_; case hy => (intro w hSw; clear hSw; (first | done | go_simp); try with_reducible rfl)) | fail
        try simp only [Act.put, List.setIfInBounds_toArray, List.set_cons_zero, List.set_cons_succ]
        first | (refine skipH (i := 2) (dst := some 116) rfl rfl (by kernel_rfl) (by kernel_rfl) (by kernel_rfl) (fun _ _ _ h => h) (by rfl) hHeld ?_) | (refine' takeH (i := 2) (dst := some 116) (v := _) rfl rfl (by kernel_rfl) (by kernel_rfl) (by kernel_rfl) (fun _ _ _ h => h) (by rfl) ?hy hHeld ?_; case hy => (intro w hSw; clear hSw; (first | done | go_simp); try with_reducible rfl)) | fail
        try simp only [Act.put, List.setIfInBounds_toArray, List.set_cons_zero, List.set_cons_succ]
        first | (refine skipH (i := 3) (dst := some 117) rfl rfl (by kernel_rfl) (by kernel_rfl) (by kernel_rfl) (fun _ _ _ h => h) (by rfl) hHeld ?_) | (refine' takeH (i := 3) (dst := some 117) (v := _) rfl rfl (by kernel_rfl) (by kernel_rfl) (by kernel_rfl) (fun _ _ _ h => h) (by rfl) ?hy hHeld ?_; case hy => (intro w hSw; clear hSw; (first | done | go_simp); try with_reducible rfl)) | fail
        try simp only [Act.put, List.setIfInBounds_toArray, List.set_cons_zero, List.set_cons_succ]
        first | (refine skipH (i := 4) (dst := some 118) rfl rfl (by kernel_rfl) (by kernel_rfl) (by kernel_rfl) (fun _ _ _ h => h) (by rfl) hHeld ?_) | (refine' takeH (i := 4) (dst := some 118) (v := _) rfl rfl (by kernel_rfl) (by kernel_rfl) (by kernel_rfl) (fun _ _ _ h => h) (by rfl) ?hy hHeld ?_; case hy => (intro w hSw; clear hSw; (first | done | go_simp); try with_reducible rfl)) | fail
        try simp only [Act.put, List.setIfInBounds_toArray, List.set_cons_zero, List.set_cons_succ]
        first | (refine skipH (i := 5) (dst := some 119) rfl rfl (by kernel_rfl) (by kernel_rfl) (by kernel_rfl) (fun _ _ _ h => h) (by rfl) hHeld ?_) | (refine' takeH (i := 5) (dst := some 119) (v := _) rfl rfl (by kernel_rfl) (by kernel_rfl) (by kernel_rfl) (fun _ _ _ h => h) (by rfl) ?hy hHeld ?_; case hy => (intro w hSw; clear hSw; (first | done | go_simp); try with_reducible rfl)) | fail
        try simp only [Act.put, List.setIfInBounds_toArray, List.set_cons_zero, List.set_cons_succ]
        first | (refine skipH (i := 6) (dst := some 120) rfl rfl (by kernel_rfl) (by kernel_rfl) (by kernel_rfl) (fun _ _ _ h => h) (by rfl) hHeld ?_) | (refine' takeH (i := 6) (dst := some 120) (v := _) rfl rfl (by kernel_rfl) (by kernel_rfl) (by kernel_rfl) (fun _ _ _ h => h) (by rfl) ?hy hHeld ?_; case hy => (intro w hSw; obtain ⟨⟨_, _⟩, _⟩ := hSw; (first | done | go_simp); try with_reducible rfl)) | fail
        try simp only [Act.put, List.setIfInBounds_toArray, List.set_cons_zero, List.set_cons_succ]
        first | (refine skipH (i := 7) (dst := some 121) rfl rfl (by kernel_rfl) (by kernel_rfl) (by kernel_rfl) (fun _ _ _ h => h) (by rfl) hHeld ?_) | (refine' takeH (i := 7) (dst := some 121) (v := _) rfl rfl (by kernel_rfl) (by kernel_rfl) (by kernel_rfl) (fun _ _ _ h => h) (by rfl) ?hy hHeld ?_; case hy => (intro w hSw; clear hSw; (first | done | go_simp); try with_reducible rfl)) | fail
        try simp only [Act.put, List.setIfInBounds_toArray, List.set_cons_zero, List.set_cons_succ]
        first | (refine skipH (i := 8) (dst := some 122) rfl rfl (by kernel_rfl) (by kernel_rfl) (by kernel_rfl) (fun _ _ _ h => h) (by rfl) hHeld ?_) | (refine' takeH (i := 8) (dst := some 122) (v := _) rfl rfl (by kernel_rfl) (by kernel_rfl) (by kernel_rfl) (fun _ _ _ h => h) (by rfl) ?hy hHeld ?_; case hy => (intro w hSw; clear hSw; (first | done | go_simp); try with_reducible rfl)) | fail
        try simp only [Act.put, List.setIfInBounds_toArray, List.set_cons_zero, List.set_cons_succ]
        first | (refine skipH (i := 9) (dst := some 123) rfl rfl (by kernel_rfl) (by kernel_rfl) (by kernel_rfl) (fun _ _ _ h => h) (by rfl) hHeld ?_) | (refine' takeH (i := 9) (dst := some 123) (v := _) rfl rfl (by kernel_rfl) (by kernel_rfl) (by kernel_rfl) (fun _ _ _ h => h) (by rfl) ?hy hHeld ?_; case hy => (intro w hSw; clear hSw; (first | done | go_simp); try with_reducible rfl)) | fail
        try simp only [Act.put, List.setIfInBounds_toArray, List.set_cons_zero, List.set_cons_succ]
        first | (refine skipH (i := 10) (dst := some 124) rfl rfl (by kernel_rfl) (by kernel_rfl) (by kernel_rfl) (fun _ _ _ h => h) (by rfl) hHeld ?_) | (refine' takeH (i := 10) (dst := some 124) (v := _) rfl rfl (by kernel_rfl) (by kernel_rfl) (by kernel_rfl) (fun _ _ _ h => h) (by rfl) ?hy hHeld ?_; case hy => (intro w hSw; clear hSw; (first | done | go_simp); try with_reducible rfl)) | fail
        try simp only [Act.put, List.setIfInBounds_toArray, List.set_cons_zero, List.set_cons_succ]
        first | (refine skipH (i := 11) (dst := some 125) rfl rfl (by kernel_rfl) (by kernel_rfl) (by kernel_rfl) (fun _ _ _ h => h) (by rfl) hHeld ?_) | (refine' takeH (i := 11) (dst := some 125) (v := _) rfl rfl (by kernel_rfl) (by kernel_rfl) (by kernel_rfl) (fun _ _ _ h => h) (by rfl) ?hy hHeld ?_; case hy => (intro w hSw; obtain ⟨⟨_, _⟩, _⟩ := hSw; (first | done | go_simp); try with_reducible rfl)) | fail
        try simp only [Act.put, List.setIfInBounds_toArray, List.set_cons_zero, List.set_cons_succ]
        first | (refine skipH (i := 12) (dst := some 126) rfl rfl (by kernel_rfl) (by kernel_rfl) (by kernel_rfl) (fun _ _ _ h => h) (by rfl) hHeld ?_) | (refine' takeH (i := 12) (dst := some 126) (v := _) rfl rfl (by kernel_rfl) (by kernel_rfl) (by kernel_rfl) (fun _ _ _ h => h) (by rfl) ?hy hHeld ?_; case hy => (intro w hSw; clear hSw; (first | done | go_simp); try with_reducible rfl)) | fail
        try simp only [Act.put, List.setIfInBounds_toArray, List.set_cons_zero, List.set_cons_succ]
        first | (refine skipH (i := 13) (dst := some 127) rfl rfl (by kernel_rfl) (by kernel_rfl) (by kernel_rfl) (fun _ _ _ h => h) (by rfl) hHeld ?_) | (refine' takeH (i := 13) (dst := some 127) (v := _) rfl rfl (by kernel_rfl) (by kernel_rfl) (by kernel_rfl) (fun _ _ _ h => h) (by rfl) ?hy hHeld ?_; case hy => (intro w hSw; clear hSw; (first | done | go_simp); try with_reducible rfl)) | fail
        try simp only [Act.put, List.setIfInBounds_toArray, List.set_cons_zero, List.set_cons_succ]
        first | (refine skipH (i := 14) (dst := some 128) rfl rfl (by kernel_rfl) (by kernel_rfl) (by kernel_rfl) (fun _ _ _ h => h) (by rfl) hHeld ?_) | (refine' takeH (i := 14) (dst := some 128) (v := _) rfl rfl (by kernel_rfl) (by kernel_rfl) (by kernel_rfl) (fun _ _ _ h => h) (by rfl) ?hy hHeld ?_; case hy => (intro w hSw; clear hSw; (first | done | go_simp); try with_reducible rfl)) | fail
        try simp only [Act.put, List.setIfInBounds_toArray, List.set_cons_zero, List.set_cons_succ]
        first | (refine skipH (i := 15) (dst := some 129) rfl rfl (by kernel_rfl) (by kernel_rfl) (by kernel_rfl) (fun _ _ _ h => h) (by rfl) hHeld ?_) | (refine' takeH (i := 15) (dst := some 129) (v := _) rfl rfl (by kernel_rfl) (by kernel_rfl) (by kernel_rfl) (fun _ _ _ h => h) (by rfl) ?hy hHeld ?_; case hy => (intro w hSw; clear hSw; (first | done | go_simp); try with_reducible rfl)) | fail
        try simp only [Act.put, List.setIfInBounds_toArray, List.set_cons_zero, List.set_cons_succ]
        first | (refine skipH (i := 16) (dst := some 130) rfl rfl (by kernel_rfl) (by kernel_rfl) (by kernel_rfl) (fun _ _ _ h => h) (by rfl) hHeld ?_) | (refine' takeH (i := 16) (dst := some 130) (v := _) rfl rfl (by kernel_rfl) (by kernel_rfl) (by kernel_rfl) (fun _ _ _ h => h) (by rfl) ?hy hHeld ?_; case hy => (intro w hSw; clear hSw; (first | done | go_simp); try with_reducible rfl)) | fail
        try simp only [Act.put, List.setIfInBounds_toArray, List.set_cons_zero, List.set_cons_succ]
        first | (refine skipH (i := 17) (dst := some 131) rfl rfl (by kernel_rfl) (by kernel_rfl) (by kernel_rfl) (fun _ _ _ h => h) (by rfl) hHeld ?_) | (refine' takeH (i := 17) (dst := some 131) (v := _) rfl rfl (by kernel_rfl) (by kernel_rfl) (by kernel_rfl) (fun _ _ _ h => h) (by rfl) ?hy hHeld ?_; case hy => (intro w hSw; clear hSw; (first | done | go_simp); try with_reducible rfl)) | fail
        try simp only [Act.put, List.setIfInBounds_toArray, List.set_cons_zero, List.set_cons_succ]
        first | (refine skipH (i := 18) (dst := some 132) rfl rfl (by kernel_rfl) (by kernel_rfl) (by kernel_rfl) (fun _ _ _ h => h) (by rfl) hHeld ?_) | (refine' takeH (i := 18) (dst := some 132) (v := _) rfl rfl (by kernel_rfl) (by kernel_rfl) (by kernel_rfl) (fun _ _ _ h => h) (by rfl) ?hy hHeld ?_; case hy => (intro w hSw; obtain ⟨⟨_, _⟩, _⟩ := hSw; (first | done | go_simp); try with_reducible rfl)) | fail
        try simp only [Act.put, List.setIfInBounds_toArray, List.set_cons_zero, List.set_cons_succ]
        first | (refine skipH (i := 19) (dst := some 133) rfl rfl (by kernel_rfl) (by kernel_rfl) (by kernel_rfl) (fun _ _ _ h => h) (by rfl) hHeld ?_) | (refine' takeH (i := 19) (dst := some 133) (v := _) rfl rfl (by kernel_rfl) (by kernel_rfl) (by kernel_rfl) (fun _ _ _ h => h) (by rfl) ?hy hHeld ?_; case hy => (intro w hSw; clear hSw; (first | done | go_simp); try with_reducible rfl)) | fail
        try simp only [Act.put, List.setIfInBounds_toArray, List.set_cons_zero, List.set_cons_succ]
        first | (refine skipH (i := 20) (dst := some 134) rfl rfl (by kernel_rfl) (by kernel_rfl) (by kernel_rfl) (fun _ _ _ h => h) (by rfl) hHeld ?_) | (refine' takeH (i := 20) (dst := some 134) (v := _) rfl rfl (by kernel_rfl) (by kernel_rfl) (by kernel_rfl) (fun _ _ _ h => h) (by rfl) ?hy hHeld ?_; case hy => (intro w hSw; clear hSw; (first | done | go_simp); try with_reducible rfl)) | fail
        try simp only [Act.put, List.setIfInBounds_toArray, List.set_cons_zero, List.set_cons_succ]
        first | (refine skipH (i := 21) (dst := some 135) rfl rfl (by kernel_rfl) (by kernel_rfl) (by kernel_rfl) (fun _ _ _ h => h) (by rfl) hHeld ?_) | (refine' takeH (i := 21) (dst := some 135) (v := _) rfl rfl (by kernel_rfl) (by kernel_rfl) (by kernel_rfl) (fun _ _ _ h => h) (by rfl) ?hy hHeld ?_; case hy => (intro w hSw; clear hSw; (first | done | go_simp); try with_reducible rfl)) | fail
        try simp only [Act.put, List.setIfInBounds_toArray, List.set_cons_zero, List.set_cons_succ]
        first | (refine skipH (i := 22) (dst := some 136) rfl rfl (by kernel_rfl) (by kernel_rfl) (by kernel_rfl) (fun _ _ _ h => h) (by rfl) hHeld ?_) | (refine' takeH (i := 22) (dst := some 136) (v := _) rfl rfl (by kernel_rfl) (by kernel_rfl) (by kernel_rfl) (fun _ _ _ h => h) (by rfl) ?hy hHeld ?_; case hy => (intro w hSw; clear hSw; (first | done | go_simp); try with_reducible rfl)) | fail
        try simp only [Act.put, List.setIfInBounds_toArray, List.set_cons_zero, List.set_cons_succ]
        first | (refine skipH (i := 23) (dst := some 137) rfl rfl (by kernel_rfl) (by kernel_rfl) (by kernel_rfl) (fun _ _ _ h => h) (by rfl) hHeld ?_) | (refine' takeH (i := 23) (dst := some 137) (v := _) rfl rfl (by kernel_rfl) (by kernel_rfl) (by kernel_rfl) (fun _ _ _ h => h) (by rfl) ?hy hHeld ?_; case hy => (intro w hSw; obtain ⟨⟨_, _⟩, _⟩ := hSw; (first | done | go_simp); try with_reducible rfl)) | fail
        try simp only [Act.put, List.setIfInBounds_toArray, List.set_cons_zero, List.set_cons_succ]
        first | (refine skipH (i := 24) (dst := some 138) rfl rfl (by kernel_rfl) (by kernel_rfl) (by kernel_rfl) (fun _ _ _ h => h) (by rfl) hHeld ?_) | (refine' takeH (i := 24) (dst := some 138) (v := _) rfl rfl (by kernel_rfl) (by kernel_rfl) (by kernel_rfl) (fun _ _ _ h => h) (by rfl) ?hy hHeld ?_; case hy => (intro w hSw; clear hSw; (first | done | go_simp); try with_reducible rfl)) | fail
        try simp only [Act.put, List.setIfInBounds_toArray, List.set_cons_zero, List.set_cons_succ]
        first | (refine skipH (i := 25) (dst := some 139) rfl rfl (by kernel_rfl) (by kernel_rfl) (by kernel_rfl) (fun _ _ _ h => h) (by rfl) hHeld ?_) | (refine' takeH (i := 25) (dst := some 139) (v := _) rfl rfl (by kernel_rfl) (by kernel_rfl) (by kernel_rfl) (fun _ _ _ h => h) (by rfl) ?hy hHeld ?_; case hy => (intro w hSw; clear hSw; (first | done | go_simp); try with_reducible rfl)) | fail
        try simp only [Act.put, List.setIfInBounds_toArray, List.set_cons_zero, List.set_cons_succ]
        first | (refine skipH (i := 26) (dst := some 140) rfl rfl (by kernel_rfl) (by kernel_rfl) (by kernel_rfl) (fun _ _ _ h => h) (by rfl) hHeld ?_) | (refine' takeH (i := 26) (dst := some 140) (v := _) rfl rfl (by kernel_rfl) (by kernel_rfl) (by kernel_rfl) (fun _ _ _ h => h) (by rfl) ?hy hHeld ?_; case hy => (intro w hSw; clear hSw; (first | done | go_simp); try with_reducible rfl)) | fail
        try simp only [Act.put, List.setIfInBounds_toArray, List.set_cons_zero, List.set_cons_succ]
        first | (refine skipH (i := 27) (dst := some 141) rfl rfl (by kernel_rfl) (by kernel_rfl) (by kernel_rfl) (fun _ _ _ h => h) (by rfl) hHeld ?_) | (refine' takeH (i := 27) (dst := some 141) (v := _) rfl rfl (by kernel_rfl) (by kernel_rfl) (by kernel_rfl) (fun _ _ _ h => h) (by rfl) ?hy hHeld ?_; case hy => (intro w hSw; clear hSw; (first | done | go_simp); try with_reducible rfl)) | fail
        try simp only [Act.put, List.setIfInBounds_toArray, List.set_cons_zero, List.set_cons_succ]
        refine wpAnyH_done (by kernel_rfl) (NoPanic.normal ?_) _
        have HBL := Lib.hid hHeld.2
        clear hHeld
        go_wp2_with fail
        go_roundw
        case rel => exact ⟨j + 1, σ', by omega, by congr 1, rfl, by rw [hy1]; exact HS2.out, HBL.out, fun h => absurd h (by omega)⟩
        case measure => simp [RowKit.intOf]; omega
    · obtain rfl : j = n := by omega
      have HXR : Hid (∃ up lo, FloatKind.f64.format.mul (rampN a b s) 4607182423303617035 = some up ∧ FloatKind.f64.format.mul (rampN a b s) 4607182409792818153 = some lo ∧ (FloatKind.f64.format.order σ up == some .gt) = false ∧ (FloatKind.f64.format.order σ lo == some .lt) = false) := Lib.hid (by
        by_cases hab : a = b
        · have hj0 : j = 0 := by rw [HN.out, hab]; unfold wayN; omega
          rw [HZ0.out hj0, hab, ramp_zero HS.out]
          exact ⟨0, 0, by rfl, by rfl, by rfl, by rfl⟩
        · obtain ⟨r, hr1, hr2⟩ := ramp_tm HS.out i3 i4 k3 k4 hab
          obtain ⟨g1, g2, _⟩ := dif_rng i3 i4 k3 k4 hab
          have hsm := HSM.out
          rw [HWN.out] at hsm
          obtain ⟨up, p1, p2⟩ := Fl.up_mil HS.out hr1 hr2 g1 g2 (by omega) hsm
          obtain ⟨lo, p3, p4⟩ := Fl.down_mil HS.out hr1 hr2 g1 g2 (by omega) hsm
          exact ⟨up, lo, p1, p3, p2, p4⟩)
      obtain ⟨up, lo, p1, p3, p2, p4⟩ := HXR.out
      have hm1 : ∀ (ty : TypeId) (V : World), (binOp .mul ty (.float .f64 (rampN a b s)) (.float .f64 4607182423303617035)).run Tryd.prog V = .ok (.float .f64 up) V := fun ty V => run_float_arith _ _ _ _ _ _ _ p1
      have hm2 : ∀ (ty : TypeId) (V : World), (binOp .mul ty (.float .f64 (rampN a b s)) (.float .f64 4607182409792818153)).run Tryd.prog V = .ok (.float .f64 lo) V := fun ty V => run_float_arith _ _ _ _ _ _ _ p3
      have HC1 := Lib.hid (fun V => code_any (t * 12500) V (by omega) (by omega))
      have HC2 := Lib.hid (fun V => code_any (t * 12500 + 6250) V (by omega) (by omega))
      rw [(code_steps t t0 t1).1] at HC1
      rw [(code_steps t t0 t1).2] at HC2
      clear HSM p1 p3 HXR HXX
      generalize rampN a b s = x at *
      have HAW := Lib.hid (awake_any wr (Tb.below HT0.out (bt HR3.out HBR.out)))
      go_wp2_with fail
      refine (HC1.out _).mono ?_
      rintro e v ⟨rfl, hv⟩
      rw [hv]
      clear hv v
      go_wp2_with fail
      refine (HC2.out _).mono ?_
      rintro e v ⟨rfl, hv⟩
      rw [hv]
      clear hv v
      go_wp2_with fail
      refine HAW.out.mono ?_
      rintro e v ⟨rfl, hv⟩
      rw [hv]
      clear hv v
      go_wp2_with fail
      go_ret
      exact ⟨rfl, bt HB0.out (bt HR3.out HBR.out)⟩
end Go.Proofs.YtpoijmncdicdkaaDoor.Su
