/- The law RadioCards. -/
import Derived.Test.YtinocgngjhomcaaDoorRdA
import Derived.Test.YtinocgngjhomcaaDoorRdF
import Derived.Test.YtinocgngjhomcaaDoorRaA
import Derived.Test.YtinocgngjhomcaaDoorRdH
namespace Go.Proofs.YtinocgngjhomcaaDoor.Kr
open Go.ChangeShapes Go.WideShapes Go.ChangeAt Go.RowKit Own Ro wordsNames Kc

/-- The first list, in a world of the law: it and its texts are the call's own; from place i on the texts lie where they lay. -/
def Top (lo ga : Nat) (xs : List Value) (wr : World) : Prop := wr.ownsRow lo 47 7 (.slice (some ⟨ga, 0, none⟩) 6 6) 6 xs
def Inn (lo : Nat) (R : List Sl) (wr : World) : Prop := ∀ j, j < 6 → ∃ ys, wr.ownsRow lo 9 1 (rowV R j) (R.getD j sl0).2.1 ys
structure Apart (lo hi ga : Nat) (R : List Sl) : Prop where
  ga1 : lo ≤ ga
  ga2 : ga < hi
  len : R.length = 6
  n : ∀ j, j < 6 → (R.getD j sl0).2.1 = (FL.getD j cd0).compat.length
  inn : ∀ j, j < 6 → ∀ g, (rowV R j).ownBlock = some g → lo ≤ g ∧ g < hi ∧ g ≠ ga
  diff : ∀ i j, i < 6 → j < 6 → i ≠ j → ∀ g, (rowV R i).ownBlock = some g → (rowV R j).ownBlock ≠ some g
theorem keep_row {w w' : World} {E : TypeId} {k b n : Nat} {v : Value} {xs : List Value} {row : Option Nat} (ho : w.ownsRow b E k v n xs) (hg : w.grownBy w' row) (hne : ∀ g, v.ownBlock = some g → row ≠ some g) : w'.ownsRow b E k v n xs := by
  refine ho.kept hg ?_
  cases h : v.ownBlock with
  | none => exact .inl rfl
  | some g => exact .inr fun e => hne g h e.symm
theorem apart_of {w1 w2 : World} {ga : Nat} {R : List Sl} (h : RowsOwn KC w2 w1.heap.size (some ⟨ga, 0, none⟩) 6 6 FL R) : Apart w1.heap.size w2.heap.size ga R := by
  have hl : R.length = 6 := h.2.2.1
  refine ⟨(h.2.1.lt ga rfl).1, (h.2.1.lt ga rfl).2, hl, fun j hj => (h.2.2.2.1 j (by omega)).1, fun j hj g hg => ?_, fun i j hi hj hne g hg => ?_⟩
  · refine ⟨((h.2.2.2.1 j (by omega)).2.lt g hg).1, ((h.2.2.2.1 j (by omega)).2.lt g hg).2, fun e => ?_⟩
    rcases h.apart j (by omega) with h1 | h1
    · rw [hg] at h1; cases h1
    · exact h1 (by rw [hg, e]; rfl)
  · rcases h.2.2.2.2 i j (by omega) (by omega) hne with h1 | h1
    · rw [hg] at h1; cases h1
    · rw [hg] at h1; exact fun e => h1 e.symm
theorem row_neat {w : World} {lo ga : Nat} {R : List Sl} (h : RowsOwn KC w lo (some ⟨ga, 0, none⟩) 6 6 FL R) (j : Nat) (hj : j < 6) : Neat (R.getD j sl0) ∧ (R.getD j sl0).2.1 ≤ (R.getD j sl0).2.2 := by
  have ho := (h.2.2.2.1 j (by have : R.length = 6 := h.2.2.1; omega)).2
  unfold rowV at ho
  rcases hr : R.getD j sl0 with ⟨ra, rn, rc⟩
  rw [hr] at ho
  obtain ⟨A, c, hv, hn, hle⟩ := own_srcK ho
  simp only [slV] at hv
  injection hv with h1 h2 h3
  subst h1 h3
  exact ⟨hn, hle⟩
theorem FLc : ∀ i < 6, 1 ≤ (FL.getD i cd0).compat.length ∧ (FL.getD i cd0).compat.length ≤ 1000 := by decide
theorem FLs (k : Nat) : (FL.getD k cd0).compat.length ≤ 1000 := by
  by_cases h : k < 6
  · exact (FLc k h).2
  · rw [List.getD_eq_getElem?_getD, List.getElem?_eq_none (by show 6 ≤ k; omega)]
    exact Nat.zero_le _
theorem info_card : (Tryd.prog.info? 47).map (fun i => (i.zero, i.size, i.bytes)) = some (some (.agg #[.string ⟨#[]⟩, .string ⟨#[]⟩, .int .u8 0, .slice none 0 0, .int .i8 0, .string ⟨#[]⟩, .int .i16 0]), 7, 96) := by kernel_rfl
set_option maxRecDepth 100000 in
set_option maxHeartbeats 8000000 in
theorem rcards_any (w : World) (hT : Ra.Tb w) : Calls Tryd.prog 4 #[] w (fun e w' => e = .returned (.bool true) ∧ Below w.heap.size w w') := by
  have HTB := Lib.hid hT
  clear hT
  go_enter Tryd.func4, Tryd.ntmps4
  go_wp2_with fail
  refine (refFam_any w).mono ?_
  rintro e w1 ⟨rfl, hw⟩
  have B1 := made_below w
  have HW := made_rows w
  rw [← hw] at B1 HW
  clear hw
  generalize top w.heap.size FL = t0 at HW ⊢
  generalize pl w.heap.size FL = R0 at HW
  have HL0 := HW.low
  replace B1 := Lib.hid B1
  replace HW := Lib.hid HW
  replace HL0 := Lib.hid HL0
  go_wp2_with fail
  refine (fam_any w1).mono ?_
  rintro e w2 ⟨rfl, hw⟩
  have B2 := made_below w1
  have HA := made_rows w1
  rw [← hw] at B2 HA
  clear hw
  generalize top w1.heap.size FL = t1 at HA ⊢
  generalize pl w1.heap.size FL = R1 at HA
  have HAP := Lib.hid (apart_of HA)
  have HWK := Lib.hid (fun V (h : Kp w1.heap.size w2.heap.size w2 V) => (rows_kp (HW.out.below B2) h ⟨fun g hg => .inl (HL0.out.1 g hg), fun i hi g hg => .inl (HL0.out.2 i hi g hg)⟩).rows)
  have HE1 := Lib.hid (eqcards_any (some ⟨t1, 0, none⟩) (some ⟨t0, 0, none⟩) 6 6 6 FL R1 R0 w2 (by omega) HA.rows (HWK.out w2 (Kp.refl _)) FLs)
  have HT0 := Lib.hid HA
  have BW := Lib.hid (bt B1.out B2)
  have hw1 : w.heap.size ≤ w1.heap.size := B1.out.size
  have hw2 : w1.heap.size ≤ w2.heap.size := B2.size
  clear B1 B2 HW HA HL0
  go_wp2_with fail
  refine HE1.out.mono ?_
  rintro e w3 ⟨rfl, b⟩
  have K3 := Lib.hid ((Kp.refl (lo := w1.heap.size) (hi := w2.heap.size) w2).below b)
  have T3 := Lib.hid (HT0.out.below b)
  clear b HE1 HT0
  generalize w1.heap.size = lo at *
  generalize hhi : w2.heap.size = hi at *
  go_wp2_with fail
  go_loopw [3] (fun v3 wr => ∃ i, i ≤ 6 ∧ v3 = .int .i64 (i : Nat) ∧ Kp lo hi w2 wr ∧ Inn lo R1 wr ∧ ∃ xs, Top lo t1 xs wr ∧ xs.drop (i * 7) = (KC.rows FL R1).drop (i * 7)) (fun v3 _ => 6 - (RowKit.intOf v3).toNat)
  case atStart => exact ⟨0, by omega, rfl, K3.out, fun j hj => ⟨_, (T3.out.2.2.2.1 j (by rw [HAP.out.len]; exact hj)).2⟩, _, T3.out.2.1, rfl⟩
  case round =>
    obtain ⟨i, hi6, rfl, hk, hin, xs, htop, hxs⟩ := hrel
    have HK := Lib.hid hk
    have HI := Lib.hid hin
    have HTP := Lib.hid htop
    have HX := Lib.hid hxs
    clear hk hin htop hxs
    by_cases hlt : i < 6
    · have i1 : (0 : Int) ≤ (i : Int) := by omega
      have i2 : (i : Int) < 6 := by omega
      have c3 : wr.cell? ⟨t1, i * 7 + 3, none⟩ = some (slV (R1.getD i sl0)) := by
        rw [HTP.out.cellAt (i * 7 + 3) (by omega), ← List.getElem?_drop, HX.out, List.getElem?_drop]
        exact rows_at KC FL R1 (by rw [HAP.out.len]; rfl) i 3 hlt (by decide)
      obtain ⟨ys, hown⟩ := HI.out i hlt
      have hag := HAP.out.inn i hlt
      have had := fun j h1 h2 => HAP.out.diff i j hlt h1 h2
      have hrn : 1 ≤ (R1.getD i sl0).2.1 ∧ (R1.getD i sl0).2.1 ≤ 1000 := by rw [HAP.out.n i hlt]; exact FLc i hlt
      have hrv : rowV R1 i = slV (R1.getD i sl0) := rfl
      rw [hrv] at hown hag had
      generalize hgd : R1.getD i sl0 = r at c3 hown hag had hrn hrv
      obtain ⟨ra, rn, rc⟩ := r
      have HRW := Lib.hid (show rowV R1 i = .slice ra rn rc ∧ (R1.getD i sl0).2.1 = rn from ⟨hrv, by rw [hgd]⟩)
      replace hrn : 1 ≤ rn ∧ rn ≤ 1000 := hrn
      replace c3 : wr.cell? ⟨t1, i * 7 + 3, none⟩ = some (.slice ra rn rc) := c3
      replace hown : wr.ownsRow lo 9 1 (.slice ra rn rc) rn ys := hown
      obtain ⟨gi, rfl, hg1, hg2⟩ := own_shapeK hown (by omega)
      obtain ⟨u, hu⟩ : ∃ u, ys[0]? = some u := ⟨_, List.getElem?_eq_getElem (by rw [hown.1]; omega)⟩
      have c0 : wr.cell? ⟨gi, 0, none⟩ = some u := by rw [hown.cellAt 0 (by omega)]; exact hu
      have z0 := hown.frozenAt 0
      have hr1 : (0 : Int) < (rn : Int) := by omega
      have HO := Lib.hid hown
      have HAG := Lib.hid (hag gi rfl)
      have HAD := Lib.hid (fun j h1 h2 => had j h1 h2 gi rfl)
      clear hown hag had hu hrv hgd
      go_upto_region 9 with fail
      have hst := set_grown wr ⟨gi, 0, none⟩ (.string ⟨#[126]⟩)
      have ZK := Lib.hid (HK.out.setCell (p := ⟨gi, 0, none⟩) (.inl ⟨HAG.out.1, HAG.out.2.1⟩) (.string ⟨#[126]⟩))
      have ZT : Hid (Top lo t1 xs (wr.setCell ⟨gi, 0, none⟩ (.string ⟨#[126]⟩))) := Lib.hid (own_keptNe HTP.out hst (fun e => HAG.out.2.2 (by injection e with e; exact e.symm)))
      have ZI : Hid (Inn lo R1 (wr.setCell ⟨gi, 0, none⟩ (.string ⟨#[126]⟩))) := Lib.hid (fun j hj => by
        by_cases hji : j = i
        · subst hji
          rw [HRW.out.1, HRW.out.2]
          exact ⟨_, (HO.out.stored 0 _).1⟩
        · obtain ⟨zs, hz⟩ := HI.out j hj
          exact ⟨zs, own_keptNe hz hst (HAD.out j hj (fun e => hji e.symm))⟩)
      clear HK HI HTP HO c0 z0 c3 hst
      generalize wr.setCell ⟨gi, 0, none⟩ (.string ⟨#[126]⟩) = wA at ZK ZT ZI ⊢
      have HTH := Lib.hid (there_own ZT.out i hlt)
      go_wp2_with (first | refine wpList_store_mid (op := ⟨none, .store 47 (.tmp 32) (.tmp 31), _, _, _, _⟩) rfl 47 (.tmp 32) (.tmp 31) rfl t1 (i * 7) #[.string ⟨#[126]⟩, .string ⟨#[]⟩, .int .u8 0, .slice none 0 0, .int .i8 0, .string ⟨#[]⟩, .int .i16 0] rfl rfl HTH.out (by kernel_rfl) (by kernel_rfl) ?_)
      go_roundw
      case rel =>
        refine ⟨i + 1, by omega, by go_num, ZK.out.setCells (.inl ⟨HAP.out.ga1, HAP.out.ga2⟩) _ _, fun j hj => ?_, _, own_sets _ _ ZT.out, ?_⟩
        · obtain ⟨zs, hz⟩ := ZI.out j hj
          exact ⟨zs, own_setsNe _ _ hz (fun e => (HAP.out.inn j hj t1 e).2.2 rfl)⟩
        · rw [setL_drop _ _ _ _ (by simp; omega)]
          have := congrArg (List.drop 7) HX.out
          rw [List.drop_drop, List.drop_drop] at this
          rw [show (i + 1) * 7 = i * 7 + 7 by omega]
          exact this
      case measure => simp [RowKit.intOf]; omega
    · have hge : decide ((i : Int) < 6) = false := decide_eq_false (by omega)
      clear HI HX hlt hi6
      go_wp2_with fail
      clear hge
      generalize (i : Int) = iv
      go_loopw [2, 4] (fun v2 v4 wy => ∃ k zs, k ≤ 20 ∧ v4 = .int .i64 (k : Nat) ∧ Kp lo hi w2 wy ∧ (∃ sa sc, v2 = .slice sa (6 + k) sc ∧ wy.ownsRow lo 47 7 (.slice sa (6 + k) sc) (6 + k) zs ∧ ∀ g, (Value.slice sa (6 + k) sc).ownBlock = some g → g = t1 ∨ w2.heap.size ≤ g)) (fun _ v4 _ => 20 - (RowKit.intOf v4).toNat)
      case atStart => exact ⟨0, xs, by omega, rfl, HK.out, _, _, rfl, HTP.out, fun g hg => .inl (Option.some.inj hg).symm⟩
      case round =>
        clear HK HTP
        obtain ⟨k, zs, hk, rfl, hk1, sa, sc, rfl, hk4, hk5⟩ := hrel
        have Y1 := Lib.hid hk1
        have Y4 := Lib.hid hk4
        have Y5 := Lib.hid hk5
        have hsz : w2.heap.size ≤ wr.heap.size := hk1.size
        rw [hhi] at hsz
        clear hk1 hk4 hk5
        by_cases hlk : k < 20
        · have k1 : (0 : Int) ≤ (k : Int) := by omega
          have k2 : (k : Int) < 20 := by omega
          go_wp2_with (at_builtin; go_must (refine wpList_append_apartK (o := ⟨some 40, _, _, _, _, _⟩) rfl (.tmp 37) (.tmp 39) 40 rfl lo 47 (.agg #[.string ⟨#[]⟩, .string ⟨#[]⟩, .int .u8 0, .slice none 0 0, .int .i8 0, .string ⟨#[]⟩, .int .i16 0]) 7 96 (by omega) Tryd.underlying40 info_card rfl _ (6 + k) zs rfl (own_belowK Y4.out (grows' wr _)) ⟨wr.heap.size, 0, none⟩ 1 1 [.string ⟨#[94]⟩, .string ⟨#[]⟩, .int .u8 0, .slice none 0 0, .int .i8 0, .string ⟨#[]⟩, .int .i16 0] rfl (by omega) rfl (fun j u hu => by rw [Ro.add_plain, World.cell?_alloc_at _ _ _ _ rfl, Nat.zero_add]; simpa using hu) (by intro u hu; simp at hu; rcases hu with rfl | rfl | rfl | rfl | rfl | rfl | rfl <;> rfl) (by omega) (by omega) (by simp; omega) ?_); intro v' w' ho hg hf)
          go_roundw
          case rel =>
            obtain ⟨sa', sc', rfl, _, _⟩ := own_srcK ho
            have hrow : ∀ g, (Value.slice sa (6 + k) sc).ownBlock = some g → (lo ≤ g ∧ g < hi) ∨ w2.heap.size ≤ g := fun g h => by
              rcases Y5.out g h with h1 | h1
              · have a1 := HAP.out.ga1
                have a2 := HAP.out.ga2
                exact .inl (by omega)
              · exact .inr h1
            refine ⟨k + 1, _, by omega, by go_num, (Y1.out.below (grows' wr _)).grown hg hrow, sa', sc', rfl, ho, fun g h => ?_⟩
            rcases hf with h3 | h3
            · exact Y5.out g (h3.symm.trans h)
            · have := h3 g h
              exact .inr (by simp at this; omega)
          case measure => simp [RowKit.intOf]; omega
        · have hge : decide ((k : Int) < 20) = false := decide_eq_false (by omega)
          clear Y4 Y5 hlk hk
          go_wp2_with fail
          clear hge
          clear HAP T3 K3
          refine (fam_any wr).mono ?_
          rintro e w4 ⟨rfl, hw⟩
          have b := made_below wr
          have hr := made_rows wr
          rw [← hw] at b hr
          clear hw
          generalize top wr.heap.size FL = t4 at hr ⊢
          generalize pl wr.heap.size FL = R4 at hr
          have Z4 := Lib.hid (Y1.out.below b)
          have HL := Lib.hid hr
          clear b hr Y1
          go_wp2_with fail
          refine (new_any w4).mono ?_
          rintro e w5 ⟨rfl, hw⟩
          have HREG := Lib.hid (show RegAt w5 w4.heap.size [] [] [] false by rw [hw]; exact new_reg w4)
          have hb : Below w4.heap.size w4 w5 := by rw [hw]; exact grows' w4 _
          clear hw
          have hg5 := HREG.out.blk.lt
          have H4 : Below w.heap.size w w4 := Z4.out.low BW.out hw1 BW.out.size
          have HBV := Lib.hid (fun V (h : Kp w4.heap.size (w4.heap.size + 1) w5 V) => show Below w4.heap.size w4 V from h.low hb (Nat.le_refl _) (by omega))
          have HWV := Lib.hid (fun V (h : Kp w4.heap.size (w4.heap.size + 1) w5 V) => show Ro.RowsIn KC V (some ⟨t0, 0, none⟩) 6 FL R0 from (HWK.out w4 Z4.out).below (HBV.out V h))
          have HLV := Lib.hid (fun V (h : Kp w4.heap.size (w4.heap.size + 1) w5 V) => show Ro.RowsIn KC V (some ⟨t4, 0, none⟩) 6 FL R4 from HL.out.rows.below (HBV.out V h))
          have HNV := Lib.hid (fun j (hj : j < 6) => show Neat (R4.getD j sl0) ∧ (R4.getD j sl0).2.1 ≤ (R4.getD j sl0).2.2 from row_neat HL.out j hj)
          have HTV := Lib.hid (fun V (h : Kp w4.heap.size (w4.heap.size + 1) w5 V) => show Ra.Tb V from (HTB.out.below H4).below (HBV.out V h))
          have HEV := Lib.hid (fun V (h : Kp w4.heap.size (w4.heap.size + 1) w5 V) => show Below w.heap.size w V from bt H4 (HBV.out V h))
          clear Z4 HL hb HBV HWK HTB H4 BW
          generalize w4.heap.size = g at *
          go_wp2_with fail
          go_loopw [6, 7, 8, 9, 10] (fun v6 v7 _ _ _ wr => ∃ i, i ≤ 6 ∧ v7 = .int .i64 (i : Nat) ∧ ((i ≤ 5 ∧ v6 = .int .i64 0) ∨ (i = 6 ∧ v6 = .int .i64 1)) ∧ Kp g (g + 1) w5 wr ∧ ∃ C F, RegAt wr g C F [] false ∧ Ent i C F) (fun _ v7 _ _ _ _ => 6 - (RowKit.intOf v7).toNat)
          case atStart => exact ⟨0, by omega, rfl, .inl ⟨by omega, rfl⟩, Kp.refl _, [], [], HREG.out, rfl, rfl⟩
          case round =>
            clear HREG
            obtain ⟨i, hi6, rfl, h6, hk, C, F, hreg, hent⟩ := hrel
            have HK := Lib.hid hk
            have HR := Lib.hid hreg
            have HEN := Lib.hid hent
            clear hk hreg hent
            by_cases hlt : i < 6
            · have i1 : (0 : Int) ≤ (i : Int) := by omega
              have i2 : (i : Int) < 6 := by omega
              obtain rfl := (show _ = Value.int .i64 0 from h6.elim (fun h => h.2) (fun h => by omega))
              clear h6
              obtain ⟨b4, o4, hA, hbs, hc, hlen, hin⟩ := (HLV.out wr HK.out).at hlt
              injection hA with hA
              injection hA with hA1 hA2
              subst hA1 hA2
              replace hlen : (R4.getD i sl0).2.1 = (FL.getD i cd0).compat.length := hlen
              replace hin : CellsIn wr 1 (R4.getD i sl0).1 (R4.getD i sl0).2.1 (strs (FL.getD i cd0).compat) := hin
              have e0 : wr.cell? ⟨t4, 0 + i * 7, none⟩ = some (.string (str (FL.getD i cd0).name)) := hc 0 _ rfl
              have e1 : wr.cell? ⟨t4, 0 + i * 7 + 1, none⟩ = some (.string (str (FL.getD i cd0).fam)) := hc 1 _ rfl
              have e2 : wr.cell? ⟨t4, 0 + i * 7 + 2, none⟩ = some (.int .u8 (FL.getD i cd0).level) := hc 2 _ rfl
              have e3 : wr.cell? ⟨t4, 0 + i * 7 + 3, none⟩ = some (slV (R4.getD i sl0)) := hc 3 _ rfl
              have e4 : wr.cell? ⟨t4, 0 + i * 7 + 4, none⟩ = some (.int .i8 (FL.getD i cd0).score) := hc 4 _ rfl
              have e5 : wr.cell? ⟨t4, 0 + i * 7 + 5, none⟩ = some (.string (str (FL.getD i cd0).quirk)) := hc 5 _ rfl
              have e6 : wr.cell? ⟨t4, 0 + i * 7 + 6, none⟩ = some (.int .i16 (FL.getD i cd0).entry) := hc 6 _ rfl
              simp only [Nat.zero_add] at e0 e1 e2 e3 e4 e5 e6
              have HE := Lib.hid (enter_any g C F [] false (FL.getD i cd0) (R4.getD i sl0) wr HR.out (mildFL.2 i) hlen (HNV.out i hlt).1 (HNV.out i hlt).2 hin)
              unfold cardV cells7 at HE
              generalize str (FL.getD i cd0).name = a0 at e0 HE
              generalize str (FL.getD i cd0).fam = a1 at e1 HE
              generalize (FL.getD i cd0).level = a2 at e2 HE
              generalize slV (R4.getD i sl0) = a3 at e3 HE
              generalize (FL.getD i cd0).score = a4 at e4 HE
              generalize str (FL.getD i cd0).quirk = a5 at e5 HE
              generalize (FL.getD i cd0).entry = a6 at e6 HE
              clear hc hlen hin hbs HR
              go_wp2_with fail
              refine HE.out.mono ?_
              rintro e w7 ⟨C', F', er, rfl, hreg, hgb, hrel⟩
              have K7 := Lib.hid (HK.out.grown hgb (fun k hk => by injection hk with hk; exact .inl (by omega)))
              obtain ⟨he, hen⟩ := HEN.out.step hlt hrel
              have HR7 := Lib.hid hreg
              have HEN7 := Lib.hid hen
              have HER := Lib.hid he
              clear hreg hgb hrel hen he HE HK HEN e0 e1 e2 e3 e4 e5 e6
              have HWN := Lib.hid (fun j (hj : j < 6) => show w7.cell? ⟨t0, j * 7, none⟩ = some (.string (str (FL.getD j cd0).name)) from by
                obtain ⟨b, o, hA, _, hc, _, _⟩ := (HWV.out w7 K7.out).at hj
                injection hA with hA
                injection hA with hA1 hA2
                subst hA1 hA2
                have h0 : w7.cell? ⟨t0, 0 + j * 7 + 0, none⟩ = some (.string (str (FL.getD j cd0).name)) := hc 0 _ rfl
                rw [Nat.zero_add, Nat.add_zero] at h0
                exact h0)
              go_wp2_with fail
              generalize er = er' at HER ⊢
              go_loopw [9, 10] (fun v9 v10 wz => ∃ k, k ≤ i ∧ v10 = .int .i64 (k : Nat) ∧ v9 = .bool (tw i k) ∧ ∃ q, wz = w7.drewN q) (fun _ v10 _ => i - (RowKit.intOf v10).toNat)
              case atStart => exact ⟨0, by omega, rfl, rfl, 0, rfl⟩
              case round =>
                obtain ⟨k, hk, rfl, rfl, q, rfl⟩ := hrel
                by_cases hlk : k < i
                · have k1 : (0 : Int) ≤ (k : Int) := by omega
                  have k2 : (k : Int) < (i : Int) := by omega
                  have k3 : (k : Int) < 6 := by omega
                  have n0 := HWN.out k (by omega)
                  have n1 := HWN.out i hlt
                  have HTW := Lib.hid (tw_succ i k)
                  generalize str (FL.getD k cd0).name = X at n0 HTW
                  generalize str (FL.getD i cd0).name = Y at n1 HTW
                  generalize tw i k = b at HTW ⊢
                  cases b
                  · go_wp2_with fail
                    go_quiet (fail)
                    go_wp2_with fail
                    go_roundw
                    case rel => exact ⟨k + 1, by omega, by go_num, by rw [HTW.out]; rfl, _, rfl⟩
                    case measure => simp [RowKit.intOf]; omega
                  · go_wp2_with fail
                    go_quiet (fail)
                    go_wp2_with fail
                    go_roundw
                    case rel => exact ⟨k + 1, by omega, by go_num, by rw [HTW.out]; rfl, _, rfl⟩
                    case measure => simp [RowKit.intOf]; omega
                · obtain rfl : k = i := by omega
                  rw [tw_all k hlt]
                  have HER := HER.out
                  clear HWN hlk hk
                  by_cases h5 : k = 5
                  · rw [if_pos h5] at HER
                    subst HER
                    have d5 : decide (k = 5) = true := decide_eq_true h5
                    rw [d5]
                    replace h5 := Lib.hid h5
                    clear d5
                    go_wp2_with fail
                    go_roundw
                    case rel => exact ⟨k + 1, by omega, by go_num, .inr ⟨by have := h5.out; omega, rfl⟩, K7.out.below (below_dr (Below.refl _ _) _), C', F', HR7.out.below (below_dr (Below.refl _ _) _), HEN7.out⟩
                    case measure => simp [RowKit.intOf]; omega
                  · rw [if_neg h5] at HER
                    subst HER
                    have d5 : decide (k = 5) = false := decide_eq_false h5
                    rw [d5]
                    replace h5 := Lib.hid h5
                    clear d5
                    go_wp2_with fail
                    go_roundw
                    case rel => exact ⟨k + 1, by omega, by go_num, .inl ⟨by have := h5.out; omega, rfl⟩, K7.out.below (below_dr (Below.refl _ _) _), C', F', HR7.out.below (below_dr (Below.refl _ _) _), HEN7.out⟩
                    case measure => simp [RowKit.intOf]; omega
            · obtain rfl := (show _ = Value.int .i64 1 from h6.elim (fun h => by omega) (fun h => h.2))
              have hi : i = 6 := by omega
              subst hi
              clear h6 hlt hi6
              have hl := HEN.out.len (by omega)
              have hge : decide (((6 : Nat) : Int) < 6) = false := by decide
              go_wp2_with fail
              refine (fam_any wr).mono ?_
              rintro e w7 ⟨rfl, hw⟩
              have b := made_below wr
              have hr := made_rows wr
              rw [← hw] at b hr
              clear hw
              generalize top wr.heap.size FL = t7 at hr ⊢
              generalize pl wr.heap.size FL = R7 at hr
              have K7 := Lib.hid (HK.out.below b)
              have HR7 := Lib.hid (HR.out.below b)
              have HE7 := Lib.hid (eqcards_any (some ⟨t7, 0, none⟩) (some ⟨t0, 0, none⟩) 6 6 6 FL R7 R0 w7 (by omega) hr.rows (HWV.out w7 K7.out) FLs)
              clear b hr HK HR
              go_wp2_with fail
              refine HE7.out.mono ?_
              rintro e w8 ⟨rfl, b⟩
              have K8 := Lib.hid (K7.out.below b)
              have HR8 := Lib.hid (HR7.out.below b)
              clear b K7 HR7 HE7
              go_wp2_with fail
              refine (Kr.cards_any g C F [] false w8 HR8.out).mono ?_
              rintro e w9 ⟨A9, c9, n9, R9, rfl, ho, b⟩
              have hn9 : n9 = 5 := by rw [ho.1]; unfold plain; rw [List.length_map]; omega
              subst hn9
              have K9 := Lib.hid (K8.out.below b)
              have HR9 := Lib.hid (HR8.out.below b)
              clear b K8 HR8 ho
              go_wp2_with fail
              refine (refused_any g C F [] false w9 HR9.out).mono ?_
              rintro e w10 ⟨A10, c10, n10, R10, rfl, ho, b⟩
              have hn10 : n10 = 1 := by rw [ho.1]; unfold plain; rw [List.length_map]; omega
              subst hn10
              have K10 := Lib.hid (K9.out.below b)
              clear b K9 HR9 ho
              go_wp2_with fail
              refine (Ra.awake_any w10 (HTV.out w10 K10.out)).mono ?_
              rintro e w11 ⟨rfl, hw⟩
              rw [hw]
              clear hw w11
              go_wp2_with fail
              go_ret
              exact ⟨rfl, HEV.out w10 K10.out⟩
end Go.Proofs.YtinocgngjhomcaaDoor.Kr
