/- The law SensorCards. -/
import Derived.Test.YtkloihfnngbceaaSeF
namespace Go.Proofs.Ytkloihfnngbceaa.Kc
open Go.ChangeShapes Go.WideShapes Go.ChangeAt Go.RowKit Own Ro

/-- The first list, from place i on, in a world of the law. -/
def Top (lo ga : Nat) (xs : List Value) (wr : World) : Prop := wr.ownsRow lo 36 7 (.slice (some ⟨ga, 0, none⟩) 5 5) 5 xs
def Inn (lo i : Nat) (R : List Sl) (wr : World) : Prop := ∀ j, i ≤ j → j < 5 → wr.ownsRow lo 9 1 (rowV R j) (R.getD j sl0).2.1 (strs (FL.getD j cd0).compat)
/-- What holds of where the first list lies. -/
structure Apart (lo hi ga : Nat) (R : List Sl) : Prop where
  ga1 : lo ≤ ga
  ga2 : ga < hi
  len : R.length = 5
  n : ∀ j, j < 5 → (R.getD j sl0).2.1 = (FL.getD j cd0).compat.length
  inn : ∀ j, j < 5 → ∀ g, (rowV R j).ownBlock = some g → lo ≤ g ∧ g < hi ∧ g ≠ ga
  diff : ∀ i j, i < 5 → j < 5 → i ≠ j → ∀ g, (rowV R i).ownBlock = some g → (rowV R j).ownBlock ≠ some g
theorem keep_row {w w' : World} {E : TypeId} {k b n : Nat} {v : Value} {xs : List Value} {row : Option Nat} (ho : w.ownsRow b E k v n xs) (hg : w.grownBy w' row) (hne : ∀ g, v.ownBlock = some g → row ≠ some g) : w'.ownsRow b E k v n xs := by
  refine ho.kept hg ?_
  cases h : v.ownBlock with
  | none => exact .inl rfl
  | some g => exact .inr fun e => hne g h e.symm
theorem mild_drop {M : Nat} {L : List Cd} (h : MildL M L) (i : Nat) : MildL M (L.drop i) := by
  refine ⟨by have := h.1; simp; omega, fun k => ?_⟩
  rw [List.getD_eq_getElem?_getD, List.getElem?_drop, ← List.getD_eq_getElem?_getD]
  exact h.2 _
theorem rin_if {w : World} {n m i a : Nat} {b : Nat} {L : List Cd} {R : List Sl} (h : Ro.RowsIn KC w (some ⟨b, a, none⟩) n L R) (hm : m = n) (hi : i = 4 → n = 0) : Ro.RowsIn KC w (if i = 4 then some ⟨b, 0, none⟩ else some ⟨b, a, none⟩) m L R := by
  subst hm
  split
  · rename_i h4
    obtain ⟨h1, h2, h3, h5⟩ := h
    exact ⟨h1, h2, ⟨h3.1, .inl (hi h4)⟩, h5⟩
  · exact h
theorem FLc : ∀ i < 5, (FL.getD i cd0).compat.length ≤ 1000000 := by decide
theorem apart_of {w1 w2 : World} {ga : Nat} {R : List Sl} (h : RowsOwn KC w2 w1.heap.size (some ⟨ga, 0, none⟩) 5 5 FL R) : Apart w1.heap.size w2.heap.size ga R := by
  have hl : R.length = 5 := h.2.2.1
  refine ⟨(h.2.1.lt ga rfl).1, (h.2.1.lt ga rfl).2, hl, fun j hj => (h.2.2.2.1 j (by omega)).1, fun j hj g hg => ?_, fun i j hi hj hne g hg => ?_⟩
  · refine ⟨((h.2.2.2.1 j (by omega)).2.lt g hg).1, ((h.2.2.2.1 j (by omega)).2.lt g hg).2, fun e => ?_⟩
    rcases h.apart j (by omega) with h1 | h1
    · rw [hg] at h1; cases h1
    · exact h1 (by rw [hg, e]; rfl)
  · rcases h.2.2.2.2 i j (by omega) (by omega) hne with h1 | h1
    · rw [hg] at h1; cases h1
    · rw [hg] at h1; exact fun e => h1 e.symm
set_option maxRecDepth 100000 in
set_option maxHeartbeats 8000000 in
theorem ccards_any (w : World) : Calls Try.prog 4 #[] w (fun e w' => e = .returned (.bool true) ∧ Below w.heap.size w w') := by
  go_enter Try.func4, Try.ntmps4
  go_wp2_with fail
  refine (refCards_any w).mono ?_
  rintro e w1 ⟨rfl, hw⟩
  have B1 := made_below w
  have HW := made_rows w
  rw [← hw] at B1 HW
  clear hw
  generalize top w.heap.size FL = t0 at HW ⊢
  generalize pl w.heap.size FL = R0 at HW
  have HL0 := HW.low
  replace B1 := Lib.hid B1
  replace HW := Lib.hid HW
  replace HL0 := Lib.hid HL0
  go_wp2_with fail
  refine (cards_any w1).mono ?_
  rintro e w2 ⟨rfl, hw⟩
  have B2 := made_below w1
  have HA := made_rows w1
  rw [← hw] at B2 HA
  clear hw
  generalize top w1.heap.size FL = t1 at HA ⊢
  generalize pl w1.heap.size FL = R1 at HA
  have HAP := apart_of HA
  replace B2 := Lib.hid B2
  replace HA := Lib.hid HA
  replace HAP := Lib.hid HAP
  go_wp2_with fail
  refine (cards_any w2).mono ?_
  rintro e w3 ⟨rfl, hw⟩
  have B3 := made_below w2
  have HB := made_rows w2
  rw [← hw] at B3 HB
  clear hw
  generalize top w2.heap.size FL = t2 at HB ⊢
  generalize pl w2.heap.size FL = R2 at HB
  have HWK := Lib.hid (fun V (h : Kp w1.heap.size w2.heap.size w3 V) => (rows_kp (HW.out.below (bt B2.out B3)) h ⟨fun g hg => .inl (HL0.out.1 g hg), fun i hi g hg => .inl (HL0.out.2 i hi g hg)⟩).rows)
  have HBK := Lib.hid (fun V (h : Kp w1.heap.size w2.heap.size w3 V) => (rows_kp HB h ⟨fun g hg => .inr (HB.2.1.lt g hg).1, fun i hi g hg => .inr ((HB.2.2.2.1 i hi).2.lt g hg).1⟩).rows)
  have HS1 := Lib.hid (sameAll_any (some ⟨t1, 0, none⟩) (some ⟨t0, 0, none⟩) 5 5 5 5 FL FL R1 R0 true w3 (by simp) mildFL mildFL (HA.out.below B3).rows (HWK.out w3 (Kp.refl _)))
  have HS2 := Lib.hid (fun V h => sameAll_any (some ⟨t2, 0, none⟩) (some ⟨t0, 0, none⟩) 5 5 5 5 FL FL R2 R0 true V (by simp) mildFL mildFL (HBK.out V h) (HWK.out V h))
  have HT0 := Lib.hid (HA.out.below B3)
  have BW := Lib.hid (bt (bt B1.out B2.out) B3)
  have hlo : w1.heap.size ≤ w3.heap.size := Nat.le_trans B2.out.size B3.size
  have hhi : w2.heap.size ≤ w3.heap.size := B3.size
  have hw1 : w.heap.size ≤ w1.heap.size := B1.out.size
  clear B1 B2 B3 HW HA HL0 HB HBK
  go_wp2_with fail
  refine HS1.out.mono ?_
  rintro e w4 ⟨rfl, b4⟩
  have K4 := Lib.hid ((Kp.refl (lo := w1.heap.size) (hi := w2.heap.size) w3).below b4)
  have T4 := Lib.hid (HT0.out.below b4)
  clear b4 HS1 HT0
  go_wp2_with fail
  refine (HS2.out _ K4.out).mono ?_
  rintro e w5 ⟨rfl, b5⟩
  have K5 := Lib.hid (K4.out.below b5)
  have T5 := Lib.hid (T4.out.below b5)
  clear b5 K4 T4
  generalize w1.heap.size = lo at *
  generalize w2.heap.size = hi at *
  go_wp2_with fail
  go_loopw [4] (fun v4 wr => ∃ i, i ≤ 5 ∧ v4 = .int .i64 (i : Nat) ∧ Kp lo hi w3 wr ∧ Inn lo i R1 wr ∧ ∃ xs, Top lo t1 xs wr ∧ xs.drop (i * 7) = (KC.rows FL R1).drop (i * 7)) (fun v4 _ => 5 - (RowKit.intOf v4).toNat)
  case atStart => exact ⟨0, by omega, rfl, K5.out, fun j _ hj => (by have := (T5.out.2.2.2.1 j (by rw [HAP.out.len]; exact hj)); rw [this.1]; have h2 := this.2; rw [this.1] at h2; exact h2), _, T5.out.2.1, rfl⟩
  case round =>
    obtain ⟨i, hi5, rfl, hk, hin, xs, htop, hxs⟩ := hrel
    have HK := Lib.hid hk
    have HI := Lib.hid hin
    have HTP := Lib.hid htop
    have HX := Lib.hid hxs
    clear hk hin htop hxs
    by_cases hlt : i < 5
    · have i1 : (0 : Int) ≤ (i : Int) := by omega
      have i2 : (i : Int) < 5 := by omega
      have c3 : wr.cell? ⟨t1, i * 7 + 3, none⟩ = some (slV (R1.getD i sl0)) := by
        rw [HTP.out.cellAt (i * 7 + 3) (by omega), ← List.getElem?_drop, HX.out, List.getElem?_drop]
        exact rows_at KC FL R1 (by rw [HAP.out.len]; rfl) i 3 hlt (by decide)
      have hown := HI.out i (Nat.le_refl _) hlt
      have hag := HAP.out.inn i hlt
      have had := fun j h1 h2 => HAP.out.diff i j hlt h1 h2
      unfold rowV at hown hag had
      have HIN : Hid (Inn lo (i + 1) R1 wr) := Lib.hid (fun j h1 h2 => HI.out j (by omega) h2)
      have hrn : (R1.getD i sl0).2.1 ≤ 1000000 := by rw [HAP.out.n i hlt]; exact FLc i hlt
      generalize R1.getD i sl0 = r at c3 hown hag had hrn
      generalize strs (FL.getD i cd0).compat = ys at hown
      obtain ⟨ra, rn, rc⟩ := r
      have HO := Lib.hid hown
      have HAG := Lib.hid hag
      have HAD := Lib.hid had
      replace hrn : rn ≤ 1000000 := hrn
      replace c3 : wr.cell? ⟨t1, i * 7 + 3, none⟩ = some (.slice ra rn rc) := c3
      clear hown hag had HI
      go_wp2_with fail
      go_loopw [6] (fun v6 wy => ∃ k, k ≤ rn ∧ v6 = .int .i64 (k : Nat) ∧ Kp lo hi w3 wy ∧ Inn lo (i + 1) R1 wy ∧ Top lo t1 xs wy ∧ ∃ zs, wy.ownsRow lo 9 1 (.slice ra rn rc) rn zs) (fun v6 _ => rn - (RowKit.intOf v6).toNat)
      case atStart => exact ⟨0, by omega, rfl, HK.out, HIN.out, HTP.out, ys, HO.out⟩
      case round =>
        obtain ⟨k, hk, rfl, hk1, hk2, hk3, zs, hk4⟩ := hrel
        have Y1 := Lib.hid hk1
        have Y2 := Lib.hid hk2
        have Y3 := Lib.hid hk3
        have Y4 := Lib.hid hk4
        clear hk1 hk2 hk3 hk4 c3
        by_cases hlk : k < rn
        · have k1 : (0 : Int) ≤ (k : Int) := by omega
          have k2 : (k : Int) < (rn : Int) := by omega
          obtain ⟨gi, rfl, hg1, hg2⟩ := own_shapeK Y4.out (by omega)
          obtain ⟨u, hu⟩ : ∃ u, zs[k]? = some u := ⟨_, List.getElem?_eq_getElem (by rw [Y4.out.1]; omega)⟩
          have c0 : wr.cell? ⟨gi, k, none⟩ = some u := by rw [Y4.out.cellAt k (by omega)]; exact hu
          have z0 := Y4.out.frozenAt k
          have HG := Lib.hid (HAG.out gi rfl)
          have HD := Lib.hid (fun j h1 h2 => HAD.out j h1 h2 gi rfl)
          go_wp2_with fail
          go_roundw
          case rel =>
            have hst := set_grown wr ⟨gi, k, none⟩ (.string ⟨#[115, 112, 111, 105, 108, 116]⟩)
            refine ⟨k + 1, by omega, by go_num, Y1.out.setCell (p := ⟨gi, k, none⟩) (.inl ⟨HG.out.1, HG.out.2.1⟩) _, fun j h1 h2 => ?_, ?_, _, (Y4.out.stored k _).1⟩
            · exact own_keptNe (Y2.out j h1 h2) hst (HD.out j h2 (by omega))
            · exact own_keptNe Y3.out hst (fun e => HG.out.2.2 (by injection e with e; exact e.symm))
          case measure => simp [RowKit.intOf]; omega
        · obtain rfl : rn = k := by omega
          clear hk hlk
          go_wp2_with fail
          go_loopw [5, 7] (fun v5 v7 wy => ∃ k zs, k ≤ 20 ∧ v7 = .int .i64 (k : Nat) ∧ Kp lo hi w3 wy ∧ Inn lo (i + 1) R1 wy ∧ Top lo t1 xs wy ∧ (∃ sa sc, v5 = .slice sa (rn + k) sc ∧ wy.ownsRow lo 9 1 (.slice sa (rn + k) sc) (rn + k) zs ∧ ∀ g, (Value.slice sa (rn + k) sc).ownBlock = some g → (Value.slice ra rn rc).ownBlock = some g ∨ w3.heap.size ≤ g)) (fun _ v7 _ => 20 - (RowKit.intOf v7).toNat)
          case atStart => exact ⟨0, zs, by omega, rfl, Y1.out, Y2.out, Y3.out, ra, rc, rfl, Y4.out, fun g hg => .inl hg⟩
          case round =>
            clear Y1 Y2 Y3 Y4
            obtain ⟨k, zs, hk, rfl, hk1, hk2, hk3, sa, sc, rfl, hk4, hk5⟩ := hrel
            have Y1 := Lib.hid hk1
            have Y2 := Lib.hid hk2
            have Y3 := Lib.hid hk3
            have Y4 := Lib.hid hk4
            have Y5 := Lib.hid hk5
            have hsz : w3.heap.size ≤ wr.heap.size := hk1.size
            clear hk1 hk2 hk3 hk4 hk5
            by_cases hlk : k < 20
            · have k1 : (0 : Int) ≤ (k : Int) := by omega
              have k2 : (k : Int) < 20 := by omega
              go_wp2_with (at_builtin; go_must (refine wpList_append_apartK (o := ⟨some 48, _, _, _, _, _⟩) rfl (.tmp 46) (.tmp 47) 33 rfl lo 9 (.string ⟨#[]⟩) 1 16 (by omega) Try.underlying33 info_str rfl _ (rn + k) zs rfl (own_belowK Y4.out (grows' wr _)) ⟨wr.heap.size, 0, none⟩ 1 1 [.string ⟨#[98, 101, 104, 105, 110, 100]⟩] rfl (by omega) rfl (fun j u hu => by rw [Ro.add_plain, World.cell?_alloc_at _ _ _ _ rfl, Nat.zero_add]; simpa using hu) (by intro u hu; simp at hu; subst hu; rfl) (by omega) (by omega) (by simp; omega) ?_); intro v' w' ho hg hf)
              go_roundw
              case rel =>
                obtain ⟨sa', sc', rfl, _, _⟩ := own_srcK ho
                have hrow : ∀ g, (Value.slice sa (rn + k) sc).ownBlock = some g → (lo ≤ g ∧ g < hi) ∨ w3.heap.size ≤ g := fun g h => by
                  rcases Y5.out g h with h1 | h1
                  · exact .inl ⟨(HAG.out g h1).1, (HAG.out g h1).2.1⟩
                  · exact .inr h1
                refine ⟨k + 1, _, by omega, by go_num, (Y1.out.below (grows' wr _)).grown hg hrow, fun j h1 h2 => ?_, ?_, sa', sc', rfl, ho, fun g h => ?_⟩
                · refine keep_row (own_belowK (Y2.out j h1 h2) (grows' wr _)) hg fun g h e => ?_
                  rcases Y5.out g e with h3 | h3
                  · exact HAD.out j h2 (by omega) g h3 h
                  · have := (HAP.out.inn j h2 g h).2.1
                    omega
                · refine keep_row (own_belowK Y3.out (grows' wr _)) hg fun g h e => ?_
                  have hgt : g = t1 := (Option.some.inj h).symm
                  rcases Y5.out g e with h3 | h3
                  · exact (HAG.out g h3).2.2 hgt
                  · have := HAP.out.ga2
                    omega
                · rcases hf with h3 | h3
                  · exact Y5.out g (h3.symm.trans h)
                  · have := h3 g h
                    exact .inr (by simp at this; omega)
              case measure => simp [RowKit.intOf]; omega
            · obtain rfl : k = 20 := by omega
              go_wp2_with fail
              have HKB := Lib.hid (fun V (hV : Below wr.heap.size wr V) => Y1.out.below hV)
              have HS3 := Lib.hid (fun V (hV : Below wr.heap.size wr V) => sameAll_any (if i = 4 then some ⟨t1, 0, none⟩ else some ⟨t1, (i + 1) * 7, none⟩) (if i = 4 then some ⟨t0, 0, none⟩ else some ⟨t0, (i + 1) * 7, none⟩) (4 - i) (4 - i) (4 - i) (4 - i) (FL.drop (i + 1)) (FL.drop (i + 1)) (R1.drop (i + 1)) (R0.drop (i + 1)) true V (by simp) (mild_drop mildFL _) (mild_drop mildFL _)
                (rin_if (suffix (own_belowK Y3.out hV) (by
                  have := congrArg (List.drop 7) HX.out
                  rw [List.drop_drop, List.drop_drop] at this
                  rw [show (i + 1) * 7 = i * 7 + 7 by omega]
                  exact this) (fun j h1 h2 => ⟨HAP.out.n j h2, own_belowK (Y2.out j h1 h2) hV⟩) rfl (by rw [HAP.out.len]; rfl) (by omega)) (by omega) (fun h => by omega)) (rin_if (rin_drop (HWK.out V (Y1.out.below hV)) (by omega)) (by omega) (fun h => by omega)))
              have hb1 : 0 ≤ (i : Int) + 1 := by omega
              have hb2 : (i : Int) + 1 ≤ 5 := by omega
              have hb3 : (20 : Int) ≤ (rn : Int) + 20 := by omega
              have hb4 : decide ((rn : Int) + 20 < 20) = false := decide_eq_false (by omega)
              have hwi : IntKind.i64.wrap ((i : Int) + 1) = (i : Int) + 1 := by
                rw [IntKind.wrap_i64]
                omega
              refine wp_region_noPanic ?_
              refine wp_region_held_drew (S := fun w' => Below wr.heap.size wr w') (by kernel_rfl) (below_dr (Below.refl _ _) 1) (fun hHeld => ?_)
              first | (refine skipH (i := 0) (dst := some 49) rfl rfl (by kernel_rfl) (by kernel_rfl) (by kernel_rfl) (fun _ _ _ h => h) (by rfl) hHeld ?_) | (refine' takeH (i := 0) (dst := some 49) (v := _) rfl rfl (by kernel_rfl) (by kernel_rfl) (by kernel_rfl) (fun _ _ _ h => h) (by rfl) ?hy hHeld ?_; case hy => (intro w hSw; clear hSw; (first | done | go_simp); try with_reducible rfl)) | fail
              try simp only [Act.put, List.setIfInBounds_toArray, List.set_cons_zero, List.set_cons_succ]
              first | (refine skipH (i := 1) (dst := some 50) rfl rfl (by kernel_rfl) (by kernel_rfl) (by kernel_rfl) (fun _ _ _ h => h) (by rfl) hHeld ?_) | (refine' takeH (i := 1) (dst := some 50) (v := _) rfl rfl (by kernel_rfl) (by kernel_rfl) (by kernel_rfl) (fun _ _ _ h => h) (by rfl) ?hy hHeld ?_; case hy => (intro w hSw; clear hSw; (first | done | go_simp); try with_reducible rfl)) | fail
              try simp only [Act.put, List.setIfInBounds_toArray, List.set_cons_zero, List.set_cons_succ]
              first | (refine skipH (i := 2) (dst := some 51) rfl rfl (by kernel_rfl) (by kernel_rfl) (by kernel_rfl) (fun _ _ _ h => h) (by rfl) hHeld ?_) | (refine' takeH (i := 2) (dst := some 51) (v := _) rfl rfl (by kernel_rfl) (by kernel_rfl) (by kernel_rfl) (fun _ _ _ h => h) (by rfl) ?hy hHeld ?_; case hy => (intro w hSw; clear hSw; (first | done | go_simp); try with_reducible rfl)) | fail
              try simp only [Act.put, List.setIfInBounds_toArray, List.set_cons_zero, List.set_cons_succ]
              first | (refine skipH (i := 3) (dst := some 52) rfl rfl (by kernel_rfl) (by kernel_rfl) (by kernel_rfl) (fun _ _ _ h => h) (by rfl) hHeld ?_) | (refine' takeH (i := 3) (dst := some 52) (v := _) rfl rfl (by kernel_rfl) (by kernel_rfl) (by kernel_rfl) (fun _ _ _ h => h) (by rfl) ?hy hHeld ?_; case hy => (intro w hSw; clear hSw; (first | done | go_simp); try with_reducible rfl)) | fail
              try simp only [Act.put, List.setIfInBounds_toArray, List.set_cons_zero, List.set_cons_succ]
              first | (refine skipH (i := 4) (dst := some 53) rfl rfl (by kernel_rfl) (by kernel_rfl) (by kernel_rfl) (fun _ _ _ h => h) (by rfl) hHeld ?_) | (refine' takeH (i := 4) (dst := some 53) (v := _) rfl rfl (by kernel_rfl) (by kernel_rfl) (by kernel_rfl) (fun _ _ _ h => h) (by rfl) ?hy hHeld ?_; case hy => (intro w hSw; clear hSw; (first | done | go_simp); try with_reducible rfl)) | fail
              try simp only [Act.put, List.setIfInBounds_toArray, List.set_cons_zero, List.set_cons_succ]
              first | (refine skipH (i := 5) (dst := some 54) rfl rfl (by kernel_rfl) (by kernel_rfl) (by kernel_rfl) (fun _ _ _ h => h) (by rfl) hHeld ?_) | (refine' takeH (i := 5) (dst := some 54) (v := _) rfl rfl (by kernel_rfl) (by kernel_rfl) (by kernel_rfl) (fun _ _ _ h => h) (by rfl) ?hy hHeld ?_; case hy => (intro w hSw; clear hSw; (first | done | go_simp); try with_reducible rfl)) | fail
              try simp only [Act.put, List.setIfInBounds_toArray, List.set_cons_zero, List.set_cons_succ]
              first | (refine skipH (i := 6) (dst := some 55) rfl rfl (by kernel_rfl) (by kernel_rfl) (by kernel_rfl) (fun _ _ _ h => h) (by rfl) hHeld ?_) | (refine' takeH (i := 6) (dst := some 55) (v := _) rfl rfl (by kernel_rfl) (by kernel_rfl) (by kernel_rfl) (fun _ _ _ h => h) (by rfl) ?hy hHeld ?_; case hy => (intro w hSw; clear hSw; (first | done | go_simp); try with_reducible rfl)) | fail
              try simp only [Act.put, List.setIfInBounds_toArray, List.set_cons_zero, List.set_cons_succ]
              first | (refine skipH (i := 7) (dst := some 56) rfl rfl (by kernel_rfl) (by kernel_rfl) (by kernel_rfl) (fun _ _ _ h => h) (by rfl) hHeld ?_) | (refine' takeH (i := 7) (dst := some 56) (v := _) rfl rfl (by kernel_rfl) (by kernel_rfl) (by kernel_rfl) (fun _ _ _ h => h) (by rfl) ?hy hHeld ?_; case hy => (intro w hSw; clear hSw; (first | done | go_simp); try with_reducible rfl)) | fail
              try simp only [Act.put, List.setIfInBounds_toArray, List.set_cons_zero, List.set_cons_succ]
              first | (refine skipH (i := 8) (dst := some 57) rfl rfl (by kernel_rfl) (by kernel_rfl) (by kernel_rfl) (fun _ _ _ h => h) (by rfl) hHeld ?_) | (refine' takeH (i := 8) (dst := some 57) (v := _) rfl rfl (by kernel_rfl) (by kernel_rfl) (by kernel_rfl) (fun _ _ _ h => h) (by rfl) ?hy hHeld ?_; case hy => (intro w hSw; clear hSw; (first | done | go_simp); try with_reducible rfl)) | fail
              try simp only [Act.put, List.setIfInBounds_toArray, List.set_cons_zero, List.set_cons_succ]
              first | (refine skipH (i := 9) (dst := some 58) rfl rfl (by kernel_rfl) (by kernel_rfl) (by kernel_rfl) (fun _ _ _ h => h) (by rfl) hHeld ?_) | (refine' takeH (i := 9) (dst := some 58) (v := _) rfl rfl (by kernel_rfl) (by kernel_rfl) (by kernel_rfl) (fun _ _ _ h => h) (by rfl) ?hy hHeld ?_; case hy => (intro w hSw; clear hSw; (first | done | go_simp); try with_reducible rfl)) | fail
              try simp only [Act.put, List.setIfInBounds_toArray, List.set_cons_zero, List.set_cons_succ]
              first | (refine skipH (i := 10) (dst := some 59) rfl rfl (by kernel_rfl) (by kernel_rfl) (by kernel_rfl) (fun _ _ _ h => h) (by rfl) hHeld ?_) | (refine' takeH (i := 10) (dst := some 59) (v := _) rfl rfl (by kernel_rfl) (by kernel_rfl) (by kernel_rfl) (fun _ _ _ h => h) (by rfl) ?hy hHeld ?_; case hy => (intro w hSw; clear hSw; (first | done | go_simp); try with_reducible rfl)) | fail
              try simp only [Act.put, List.setIfInBounds_toArray, List.set_cons_zero, List.set_cons_succ]
              first | (refine skipH (i := 11) (dst := some 60) rfl rfl (by kernel_rfl) (by kernel_rfl) (by kernel_rfl) (fun _ _ _ h => h) (by rfl) hHeld ?_) | (refine' takeH (i := 11) (dst := some 60) (v := _) rfl rfl (by kernel_rfl) (by kernel_rfl) (by kernel_rfl) (fun _ _ _ h => h) (by rfl) ?hy hHeld ?_; case hy => (intro w hSw; clear hSw; (first | done | go_simp); try with_reducible rfl)) | fail
              try simp only [Act.put, List.setIfInBounds_toArray, List.set_cons_zero, List.set_cons_succ]
              refine wpAnyH_ready (rs := [12]) (by kernel_rfl) (by simp) ?_
              refine AllReadyH.cons (i := 12) (o := ⟨some 61, .call _, _, _, _, _⟩) rfl (fun K hK => ?_) AllReadyH.nil
              go_simp
              refine (HS3.out _ hHeld).mono ?_
              rintro e w6 ⟨rfl, b6⟩
              have hH := bt hHeld b6
              clear b6
              refine hK.out _ _ hH (fun _ => ?_)
              clear hK K hHeld
              have hHeld := hH
              clear hH
              try simp only [Act.put, List.setIfInBounds_toArray, List.set_cons_zero, List.set_cons_succ]
              first | (refine skipH (i := 13) (dst := some 62) rfl rfl (by kernel_rfl) (by kernel_rfl) (by kernel_rfl) (fun _ _ _ h => h) (by rfl) hHeld ?_) | (refine' takeH (i := 13) (dst := some 62) (v := _) rfl rfl (by kernel_rfl) (by kernel_rfl) (by kernel_rfl) (fun _ _ _ h => h) (by rfl) ?hy hHeld ?_; case hy => (intro w hSw; clear hSw; (first | done | go_simp); try with_reducible rfl)) | fail
              try simp only [Act.put, List.setIfInBounds_toArray, List.set_cons_zero, List.set_cons_succ]
              first | (refine skipH (i := 14) (dst := some 63) rfl rfl (by kernel_rfl) (by kernel_rfl) (by kernel_rfl) (fun _ _ _ h => h) (by rfl) hHeld ?_) | (refine' takeH (i := 14) (dst := some 63) (v := _) rfl rfl (by kernel_rfl) (by kernel_rfl) (by kernel_rfl) (fun _ _ _ h => h) (by rfl) ?hy hHeld ?_; case hy => (intro w hSw; clear hSw; (first | done | go_simp); try with_reducible rfl)) | fail
              try simp only [Act.put, List.setIfInBounds_toArray, List.set_cons_zero, List.set_cons_succ]
              first | (refine skipH (i := 15) (dst := some 64) rfl rfl (by kernel_rfl) (by kernel_rfl) (by kernel_rfl) (fun _ _ _ h => h) (by rfl) hHeld ?_) | (refine' takeH (i := 15) (dst := some 64) (v := _) rfl rfl (by kernel_rfl) (by kernel_rfl) (by kernel_rfl) (fun _ _ _ h => h) (by rfl) ?hy hHeld ?_; case hy => (intro w hSw; clear hSw; (first | done | go_simp); try with_reducible rfl)) | fail
              try simp only [Act.put, List.setIfInBounds_toArray, List.set_cons_zero, List.set_cons_succ]
              first | (refine skipH (i := 16) (dst := some 65) rfl rfl (by kernel_rfl) (by kernel_rfl) (by kernel_rfl) (fun _ _ _ h => h) (by rfl) hHeld ?_) | (refine' takeH (i := 16) (dst := some 65) (v := _) rfl rfl (by kernel_rfl) (by kernel_rfl) (by kernel_rfl) (fun _ _ _ h => h) (by rfl) ?hy hHeld ?_; case hy => (intro w hSw; clear hSw; (first | done | go_simp); try with_reducible rfl)) | fail
              try simp only [Act.put, List.setIfInBounds_toArray, List.set_cons_zero, List.set_cons_succ]
              first | (refine skipH (i := 17) (dst := some 66) rfl rfl (by kernel_rfl) (by kernel_rfl) (by kernel_rfl) (fun _ _ _ h => h) (by rfl) hHeld ?_) | (refine' takeH (i := 17) (dst := some 66) (v := _) rfl rfl (by kernel_rfl) (by kernel_rfl) (by kernel_rfl) (fun _ _ _ h => h) (by rfl) ?hy hHeld ?_; case hy => (intro w hSw; clear hSw; (first | done | go_simp); try with_reducible rfl)) | fail
              try simp only [Act.put, List.setIfInBounds_toArray, List.set_cons_zero, List.set_cons_succ]
              refine wpAnyH_ready (rs := [18]) (by kernel_rfl) (by simp) ?_
              refine AllReadyH.cons (i := 18) (o := ⟨some 67, .call _, _, _, _, _⟩) rfl (fun K hK => ?_) AllReadyH.nil
              go_simp
              refine (HS2.out _ (HKB.out _ hHeld)).mono ?_
              rintro e w7 ⟨rfl, b7⟩
              have hH := bt hHeld b7
              clear b7
              refine hK.out _ _ hH (fun _ => ?_)
              clear hK K hHeld
              have hHeld := hH
              clear hH
              try simp only [Act.put, List.setIfInBounds_toArray, List.set_cons_zero, List.set_cons_succ]
              first | (refine skipH (i := 19) (dst := some 68) rfl rfl (by kernel_rfl) (by kernel_rfl) (by kernel_rfl) (fun _ _ _ h => h) (by rfl) hHeld ?_) | (refine' takeH (i := 19) (dst := some 68) (v := _) rfl rfl (by kernel_rfl) (by kernel_rfl) (by kernel_rfl) (fun _ _ _ h => h) (by rfl) ?hy hHeld ?_; case hy => (intro w hSw; clear hSw; (first | done | go_simp); try with_reducible rfl)) | fail
              try simp only [Act.put, List.setIfInBounds_toArray, List.set_cons_zero, List.set_cons_succ]
              first | (refine skipH (i := 20) (dst := some 69) rfl rfl (by kernel_rfl) (by kernel_rfl) (by kernel_rfl) (fun _ _ _ h => h) (by rfl) hHeld ?_) | (refine' takeH (i := 20) (dst := some 69) (v := _) rfl rfl (by kernel_rfl) (by kernel_rfl) (by kernel_rfl) (fun _ _ _ h => h) (by rfl) ?hy hHeld ?_; case hy => (intro w hSw; clear hSw; (first | done | go_simp); try with_reducible rfl)) | fail
              try simp only [Act.put, List.setIfInBounds_toArray, List.set_cons_zero, List.set_cons_succ]
              refine wpAnyH_done (by kernel_rfl) (NoPanic.normal ?_) _
              have Z1 := Lib.hid (Y1.out.below hHeld)
              have Z2 := Lib.hid (fun j h1 h2 => own_belowK (Y2.out j h1 h2) hHeld)
              have Z3 : Hid (Top lo t1 xs w7) := Lib.hid (own_belowK Y3.out hHeld)
              clear hHeld HS3 HKB Y1 Y2 Y3 Y4 Y5
              have HTH := Lib.hid (there_own Z3.out i hlt)
              go_wp2_with (first | refine wpList_store_mid (op := ⟨none, .store 36 (.tmp 73) (.tmp 72), _, _, _, _⟩) rfl 36 (.tmp 73) (.tmp 72) rfl t1 (i * 7) #[.string ⟨#[115, 112, 111, 105, 108, 116]⟩, .string ⟨#[]⟩, .int .u8 0, .slice none 0 0, .int .i8 0, .string ⟨#[]⟩, .int .i16 0] rfl rfl HTH.out (by kernel_rfl) (by kernel_rfl) ?_)
              go_roundw
              case rel =>
                refine ⟨i + 1, by omega, by go_num, Z1.out.setCells (.inl ⟨HAP.out.ga1, HAP.out.ga2⟩) _ _, fun j h1 h2 => own_setsNe _ _ (Z2.out j h1 h2) (fun e => (HAP.out.inn j h2 t1 e).2.2 rfl), _, own_sets _ _ Z3.out, ?_⟩
                rw [setL_drop _ _ _ _ (by simp; omega)]
                have := congrArg (List.drop 7) HX.out
                rw [List.drop_drop, List.drop_drop] at this
                rw [show (i + 1) * 7 = i * 7 + 7 by omega]
                exact this
              case measure => simp [RowKit.intOf]; omega
    · have hge : decide ((i : Int) < 5) = false := decide_eq_false (by omega)
      clear HI HX hlt hi5
      go_wp2_with fail
      clear hge
      generalize (i : Int) = iv
      go_loopw [2, 8] (fun v2 v8 wy => ∃ k zs, k ≤ 20 ∧ v8 = .int .i64 (k : Nat) ∧ Kp lo hi w3 wy ∧ (∃ sa sc, v2 = .slice sa (5 + k) sc ∧ wy.ownsRow lo 36 7 (.slice sa (5 + k) sc) (5 + k) zs ∧ ∀ g, (Value.slice sa (5 + k) sc).ownBlock = some g → g = t1 ∨ w3.heap.size ≤ g)) (fun _ v8 _ => 20 - (RowKit.intOf v8).toNat)
      case atStart => exact ⟨0, xs, by omega, rfl, HK.out, _, _, rfl, HTP.out, fun g hg => .inl (Option.some.inj hg).symm⟩
      case round =>
        clear HK HTP
        obtain ⟨k, zs, hk, rfl, hk1, sa, sc, rfl, hk4, hk5⟩ := hrel
        have Y1 := Lib.hid hk1
        have Y4 := Lib.hid hk4
        have Y5 := Lib.hid hk5
        have hsz : w3.heap.size ≤ wr.heap.size := hk1.size
        clear hk1 hk4 hk5
        by_cases hlk : k < 20
        · have k1 : (0 : Int) ≤ (k : Int) := by omega
          have k2 : (k : Int) < 20 := by omega
          go_wp2_with (at_builtin; go_must (refine wpList_append_apartK (o := ⟨some 81, _, _, _, _, _⟩) rfl (.tmp 78) (.tmp 80) 30 rfl lo 36 (.agg #[.string ⟨#[]⟩, .string ⟨#[]⟩, .int .u8 0, .slice none 0 0, .int .i8 0, .string ⟨#[]⟩, .int .i16 0]) 7 96 (by omega) Try.underlying30 info_card rfl _ (5 + k) zs rfl (own_belowK Y4.out (grows' wr _)) ⟨wr.heap.size, 0, none⟩ 1 1 [.string ⟨#[98, 101, 104, 105, 110, 100]⟩, .string ⟨#[]⟩, .int .u8 0, .slice none 0 0, .int .i8 0, .string ⟨#[]⟩, .int .i16 0] rfl (by omega) rfl (fun j u hu => by rw [Ro.add_plain, World.cell?_alloc_at _ _ _ _ rfl, Nat.zero_add]; simpa using hu) (by intro u hu; simp at hu; rcases hu with rfl | rfl | rfl | rfl | rfl | rfl | rfl <;> rfl) (by omega) (by omega) (by simp; omega) ?_); intro v' w' ho hg hf)
          go_roundw
          case rel =>
            obtain ⟨sa', sc', rfl, _, _⟩ := own_srcK ho
            have hrow : ∀ g, (Value.slice sa (5 + k) sc).ownBlock = some g → (lo ≤ g ∧ g < hi) ∨ w3.heap.size ≤ g := fun g h => by
              rcases Y5.out g h with h1 | h1
              · have a1 := HAP.out.ga1
                have a2 := HAP.out.ga2
                exact .inl (by omega)
              · exact .inr h1
            refine ⟨k + 1, _, by omega, by go_num, (Y1.out.below (grows' wr _)).grown hg hrow, sa', sc', rfl, ho, fun g h => ?_⟩
            rcases hf with h3 | h3
            · exact Y5.out g (h3.symm.trans h)
            · have := h3 g h
              exact .inr (by simp at this; omega)
          case measure => simp [RowKit.intOf]; omega
        · obtain rfl : k = 20 := by omega
          go_wp2_with fail
          refine (HS2.out _ Y1.out).mono ?_
          rintro e w6 ⟨rfl, b6⟩
          have Z1 := Lib.hid (Y1.out.below b6)
          clear b6
          go_wp2_with fail
          refine (cards_any w6).mono ?_
          rintro e w7 ⟨rfl, hw⟩
          have b7 := made_below w6
          have hr := made_rows w6
          rw [← hw] at b7 hr
          clear hw
          generalize top w6.heap.size FL = t7 at hr ⊢
          generalize pl w6.heap.size FL = R7 at hr
          have Z2 := Lib.hid (Z1.out.below b7)
          have HS4 := Lib.hid (sameAll_any (some ⟨t7, 0, none⟩) (some ⟨t0, 0, none⟩) 5 5 5 5 FL FL R7 R0 true w7 (by simp) mildFL mildFL hr.rows (HWK.out _ Z2.out))
          clear b7 hr
          go_wp2_with fail
          refine HS4.out.mono ?_
          rintro e w8 ⟨rfl, b8⟩
          have Z3 := Lib.hid (Z2.out.below b8)
          clear b8
          go_wp2_with fail
          go_ret
          exact ⟨rfl, Z3.out.low BW.out hw1 BW.out.size⟩
end Go.Proofs.Ytkloihfnngbceaa.Kc
