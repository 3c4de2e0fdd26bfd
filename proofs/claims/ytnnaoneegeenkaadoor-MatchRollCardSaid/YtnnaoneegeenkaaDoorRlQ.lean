/- What stands and what is refused: the program's parted, Cards, Refused. -/
import Derived.Test.YtnnaoneegeenkaaDoorRlN
namespace Go.Proofs.YtnnaoneegeenkaaDoor.Kc
open Go.ChangeShapes Go.WideShapes Go.ChangeAt Go.RowKit Own Ro Go.Maps Go.WideMaps

/-- Two lists of cards in memory of the call's own: those that stand, those that are refused. -/
def PartPost (w : World) (e : Ending) (w' : World) : Prop :=
  ∃ A0 c0 A1 c1 R0 R1, e = .returned (.tuple #[.slice A0 22 c0, .slice A1 5 c1]) ∧ RowsOwn KC w' w.heap.size A0 22 c0 SL R0 ∧ RowsOwn KC w' w.heap.size A1 5 c1 RL R1 ∧ Below w.heap.size w w'
theorem gb_of {W W' : World} (h : Below W.heap.size W W') (row : Option Nat) : W.grownBy W' row := ⟨h.os, h.tape, h.output, h.size, fun k hk _ => h.block k hk⟩
theorem fam_rows (w : World) (L : List Cd) (hm : ∀ i, i < L.length → (L.getD i cd0).compat.length ≤ 1000000) (hl : L.length ≤ 1000000) : RowsOwn KC (madeF L w) w.heap.size (some ⟨top w.heap.size L, 0, none⟩) L.length L.length L (pl w.heap.size L) := fam_made w L hm hl
theorem fam_src {w : World} {b : Nat} {A : Option Addr} {n c : Nat} {L : List Cd} {R : List Sl} (h : RowsOwn KC w b A n c L R) : SrcK 7 w A n c (KC.rows L R) ∧ (∀ u ∈ KC.rows L R, u.oneCell' = true) ∧ ∀ a, A = some a → a.block < w.heap.size := by
  refine ⟨?_, fun u hu => ?_, fun a ha => ?_⟩
  · have hc := own_cells h.2.1
    exact hc.src h.neatA.1
  · unfold Kd.rows at hu
    obtain ⟨d, _, hd⟩ := List.mem_flatMap.1 hu
    exact one_row KC d u hd
  · have := (h.2.1.lt a.block (by rw [ha]; rfl)).2
    exact this
/-- The five lists one behind the other. -/
def S5 (t1 t2 t3 t4 t5 : Nat) (R1 R2 R3 R4 R5 : List Sl) : List Ps := [((some ⟨t1, 0, none⟩, 5, 5), KC.rows FLc R1), ((some ⟨t2, 0, none⟩, 6, 6), KC.rows FLs R2), ((some ⟨t3, 0, none⟩, 5, 5), KC.rows FLb R3), ((some ⟨t4, 0, none⟩, 5, 5), KC.rows FLe R4), ((some ⟨t5, 0, none⟩, 6, 6), KC.rows FLr R5)]
theorem S5_len (t1 t2 t3 t4 t5 : Nat) (R1 R2 R3 R4 R5 : List Sl) : lenS (S5 t1 t2 t3 t4 t5 R1 R2 R3 R4 R5) = 27 := rfl
theorem rows_two (L L' : List Cd) (R R' : List Sl) (h : L.length = R.length) : KC.rows (L ++ L') (R ++ R') = KC.rows L R ++ KC.rows L' R' := by
  unfold Kd.rows
  rw [List.zip_append h, List.flatMap_append]
theorem S5_flat (t1 t2 t3 t4 t5 : Nat) {R1 R2 R3 R4 R5 : List Sl} (h1 : R1.length = 5) (h2 : R2.length = 6) (h3 : R3.length = 5) (h4 : R4.length = 5) : flatS (S5 t1 t2 t3 t4 t5 R1 R2 R3 R4 R5) = KC.rows AL (R1 ++ R2 ++ R3 ++ R4 ++ R5) := by
  unfold AL
  rw [rows_two _ _ _ _ (by simp [h1, h2, h3, h4]; rfl), rows_two _ _ _ _ (by simp [h1, h2, h3]; rfl), rows_two _ _ _ _ (by simp [h1, h2]; rfl), rows_two _ _ _ _ (by rw [h1]; rfl)]
  unfold flatS S5
  simp
/-- All five families' cards in memory: their rows, and where the lists that hold them lie. -/
theorem five_inn {w : World} {b1 b2 b3 b4 b5 : Nat} {R1 R2 R3 R4 R5 : List Sl} (h1 : InnOwn KC w b1 R1 FLc) (h2 : InnOwn KC w b2 R2 FLs) (h3 : InnOwn KC w b3 R3 FLb) (h4 : InnOwn KC w b4 R4 FLe) (h5 : InnOwn KC w b5 R5 FLr)
    (l1 : ∀ i, i < R1.length → ∀ g, (rowV R1 i).ownBlock = some g → g < b2) (l2 : ∀ i, i < R2.length → ∀ g, (rowV R2 i).ownBlock = some g → g < b3) (l3 : ∀ i, i < R3.length → ∀ g, (rowV R3 i).ownBlock = some g → g < b4) (l4 : ∀ i, i < R4.length → ∀ g, (rowV R4 i).ownBlock = some g → g < b5) (e1 : b1 ≤ b2) (e2 : b2 ≤ b3) (e3 : b3 ≤ b4) (e4 : b4 ≤ b5) :
    InnOwn KC w b1 (R1 ++ R2 ++ R3 ++ R4 ++ R5) AL := by
  have g : ∀ (A B : List Sl) (N : Nat), (∀ i, i < A.length → ∀ g, (rowV A i).ownBlock = some g → g < N) → (∀ i, i < B.length → ∀ g, (rowV B i).ownBlock = some g → g < N) → ∀ i, i < (A ++ B).length → ∀ g, (rowV (A ++ B) i).ownBlock = some g → g < N := fun A B N hA hB i hi g hg => by
    unfold rowV at hg
    rw [getD_app] at hg
    by_cases hil : i < A.length
    · rw [if_pos hil] at hg
      exact hA i hil g hg
    · rw [if_neg hil] at hg
      exact hB _ (by simp at hi; omega) g hg
  have m1 := fun i hi g hg => Nat.lt_of_lt_of_le (l1 i hi g hg) e2
  have m12 := g R1 R2 b3 m1 l2
  have m123 := g (R1 ++ R2) R3 b4 (fun i hi g hg => Nat.lt_of_lt_of_le (m12 i hi g hg) e3) l3
  have m1234 := g (R1 ++ R2 ++ R3) R4 b5 (fun i hi g hg => Nat.lt_of_lt_of_le (m123 i hi g hg) e4) l4
  exact inn_app (inn_app (inn_app (inn_app h1 h2 e1 l1) h3 (by omega) m12) h4 (by omega) m123) h5 (by omega) m1234
set_option maxRecDepth 100000 in
set_option maxHeartbeats 8000000 in
theorem parted_any (w : World) : Calls Tryd.prog 35 #[] w (PartPost w) := by
  have hmm := @run_makeMap Tryd.prog
  go_enter Tryd.func35, Tryd.ntmps35
  go_wp2_with fail
  refine (fam_c _).mono ?_
  rintro e w1 ⟨rfl, hw⟩
  have b1 := madeF_below FLc (w.alloc (.map #[] 0))
  have r1 : RowsOwn KC (madeF FLc (w.alloc (.map #[] 0))) (w.alloc (.map #[] 0)).heap.size (some ⟨top (w.alloc (.map #[] 0)).heap.size FLc, 0, none⟩) 5 5 FLc (pl (w.alloc (.map #[] 0)).heap.size FLc) := fam_rows (w.alloc (.map #[] 0)) FLc (by decide +kernel) (by decide)
  rw [← hw] at b1 r1
  clear hw hmm
  simp only [show FLc.length = 5 from rfl]
  generalize top (w.alloc (.map #[] 0)).heap.size FLc = t1 at r1 ⊢
  generalize pl (w.alloc (.map #[] 0)).heap.size FLc = R1 at r1
  replace b1 := Lib.hid b1
  replace r1 := Lib.hid r1
  go_wp2_with fail
  refine (fam_s _).mono ?_
  rintro e w2 ⟨rfl, hw⟩
  have b2 := madeF_below FLs w1
  have r2 : RowsOwn KC (madeF FLs w1) w1.heap.size (some ⟨top w1.heap.size FLs, 0, none⟩) 6 6 FLs (pl w1.heap.size FLs) := fam_rows w1 FLs (by decide +kernel) (by decide)
  rw [← hw] at b2 r2
  clear hw
  simp only [show FLs.length = 6 from rfl]
  generalize top w1.heap.size FLs = t2 at r2 ⊢
  generalize pl w1.heap.size FLs = R2 at r2
  replace b2 := Lib.hid b2
  replace r2 := Lib.hid r2
  go_wp2_with fail
  refine (fam_b _).mono ?_
  rintro e w3 ⟨rfl, hw⟩
  have b3 := madeF_below FLb w2
  have r3 : RowsOwn KC (madeF FLb w2) w2.heap.size (some ⟨top w2.heap.size FLb, 0, none⟩) 5 5 FLb (pl w2.heap.size FLb) := fam_rows w2 FLb (by decide +kernel) (by decide)
  rw [← hw] at b3 r3
  clear hw
  simp only [show FLb.length = 5 from rfl]
  generalize top w2.heap.size FLb = t3 at r3 ⊢
  generalize pl w2.heap.size FLb = R3 at r3
  replace b3 := Lib.hid b3
  replace r3 := Lib.hid r3
  go_wp2_with fail
  refine (fam_e _).mono ?_
  rintro e w4 ⟨rfl, hw⟩
  have b4 := madeF_below FLe w3
  have r4 : RowsOwn KC (madeF FLe w3) w3.heap.size (some ⟨top w3.heap.size FLe, 0, none⟩) 5 5 FLe (pl w3.heap.size FLe) := fam_rows w3 FLe (by decide +kernel) (by decide)
  rw [← hw] at b4 r4
  clear hw
  simp only [show FLe.length = 5 from rfl]
  generalize top w3.heap.size FLe = t4 at r4 ⊢
  generalize pl w3.heap.size FLe = R4 at r4
  replace b4 := Lib.hid b4
  replace r4 := Lib.hid r4
  go_wp2_with fail
  refine (fam_r _).mono ?_
  rintro e w5 ⟨rfl, hw⟩
  have b5 := madeF_below FLr w4
  have r5 : RowsOwn KC (madeF FLr w4) w4.heap.size (some ⟨top w4.heap.size FLr, 0, none⟩) 6 6 FLr (pl w4.heap.size FLr) := fam_rows w4 FLr (by decide +kernel) (by decide)
  rw [← hw] at b5 r5
  clear hw
  simp only [show FLr.length = 6 from rfl]
  generalize top w4.heap.size FLr = t5 at r5 ⊢
  generalize pl w4.heap.size FLr = R5 at r5
  replace b5 := Lib.hid b5
  replace r5 := Lib.hid r5
  go_wp2_with fail
  have B6 := Lib.hid (grows' w5 (.cells #[.slice (some ⟨t1, 0, none⟩) 5 5, .slice (some ⟨t2, 0, none⟩) 6 6, .slice (some ⟨t3, 0, none⟩) 5 5, .slice (some ⟨t4, 0, none⟩) 5 5, .slice (some ⟨t5, 0, none⟩) 6 6] 23))
  have HA : Hid (CellsIn (w5.alloc (.cells #[.slice (some ⟨t1, 0, none⟩) 5 5, .slice (some ⟨t2, 0, none⟩) 6 6, .slice (some ⟨t3, 0, none⟩) 5 5, .slice (some ⟨t4, 0, none⟩) 5 5, .slice (some ⟨t5, 0, none⟩) 6 6] 23)) 1 (some ⟨w5.heap.size, 0, none⟩) 5 ((S5 t1 t2 t3 t4 t5 R1 R2 R3 R4 R5).map fun s => slV s.1)) := Lib.hid ⟨rfl, .inr ⟨_, 0, rfl, by simp, fun j u hu => by
    rw [World.cell?_alloc_at _ _ _ _ rfl, Nat.zero_add]
    simpa [S5, slV] using hu⟩⟩
  have D5 := Lib.hid (B6.out)
  have D4 := Lib.hid (bt b5.out D5.out)
  have D3 := Lib.hid (bt b4.out D4.out)
  have D2 := Lib.hid (bt b3.out D3.out)
  have D1 := Lib.hid (bt b2.out D2.out)
  have D0 := Lib.hid (bt b1.out D1.out)
  generalize w5.alloc (.cells #[.slice (some ⟨t1, 0, none⟩) 5 5, .slice (some ⟨t2, 0, none⟩) 6 6, .slice (some ⟨t3, 0, none⟩) 5 5, .slice (some ⟨t4, 0, none⟩) 5 5, .slice (some ⟨t5, 0, none⟩) 6 6] 23) = w6 at HA D0 D1 D2 D3 D4 D5 ⊢
  have q1 := Lib.hid (r1.out.below D1.out)
  have q2 := Lib.hid (r2.out.below D2.out)
  have q3 := Lib.hid (r3.out.below D3.out)
  have q4 := Lib.hid (r4.out.below D4.out)
  have q5 := Lib.hid (r5.out.below D5.out)
  have HI := Lib.hid (five_inn q1.out.2.2 q2.out.2.2 q3.out.2.2 q4.out.2.2 q5.out.2.2 r1.out.2.2.lt r2.out.2.2.lt r3.out.2.2.lt r4.out.2.2.lt b1.out.size b2.out.size b3.out.size b4.out.size)
  have HF := Lib.hid (S5_flat t1 t2 t3 t4 t5 (R1 := R1) (R2 := R2) (R3 := R3) (R4 := R4) (R5 := R5) r1.out.2.2.1 r2.out.2.2.1 r3.out.2.2.1 r4.out.2.2.1)
  have HC := Lib.hid (concat_any (some ⟨w5.heap.size, 0, none⟩) 5 5 (S5 t1 t2 t3 t4 t5 R1 R2 R3 R4 R5) w6 rfl HA.out (fun i hi => by
    have h : i = 0 ∨ i = 1 ∨ i = 2 ∨ i = 3 ∨ i = 4 := by omega
    rcases h with rfl | rfl | rfl | rfl | rfl
    · exact fam_src q1.out
    · exact fam_src q2.out
    · exact fam_src q3.out
    · exact fam_src q4.out
    · exact fam_src q5.out) (by rw [S5_len]; omega) (by rw [S5_len]; omega) (by omega))
  rw [S5_len, HF.out] at HC
  have e1 : (w.alloc (.map #[] 0)).heap.size = w.heap.size + 1 := by simp
  have HM : Hid (w6.ownsMap Tryd.prog 9 (unitElem (H := Unit)) w.heap.size 0 (.map [])) := Lib.hid ((World.ownsMap_made w Tryd.prog 9 unitElem).kept (gb_of D0.out none) (by simp))
  rw [e1] at HI
  have s0 := D0.out.size
  rw [e1] at s0
  have BW := Lib.hid (bt (grows' w (.map #[] 0)) D0.out)
  clear q1 q2 q3 q4 q5 r1 r2 r3 r4 r5 b1 b2 b3 b4 b5 D0 D1 D2 D3 D4 D5 B6 HA HF
  have HRL : Hid (∀ k, k < 27 → k < (R1 ++ R2 ++ R3 ++ R4 ++ R5).length) := Lib.hid (fun k hk => by rw [HI.out.1]; exact hk)
  generalize R1 ++ R2 ++ R3 ++ R4 ++ R5 = R at HI HC HRL
  clear R1 R2 R3 R4 R5
  refine HC.out.mono ?_
  rintro e w7 ⟨A7, c7, rfl, ho7, b7⟩
  obtain ⟨g7, rfl, hg7, hg7'⟩ := own_shapeK ho7 (by omega)
  have HL := Lib.hid ho7
  have HM7 := Lib.hid (HM.out.kept (gb_of b7 none) (by simp))
  have HI7 := Lib.hid (HI.out.below b7)
  have BW7 := Lib.hid (bt BW.out b7)
  have s7 : w.heap.size + 1 ≤ w7.heap.size := Nat.le_trans s0 b7.size
  clear ho7 b7 HM HI BW HC
  go_wp2_with fail
  go_loopw [0, 1, 16] (fun v0 v1 v16 wr => ∃ (i : Nat) (D : DataW Unit) (A0 : Option Addr) (c0 : Nat) (A1 : Option Addr) (c1 : Nat), i ≤ 27 ∧ v16 = .int .i64 (i : Nat) ∧ v0 = .slice A0 (stJ i).length c0 ∧ v1 = .slice A1 (rfJ i).length c1 ∧ wr.ownsRow w7.heap.size 30 7 (.slice A0 (stJ i).length c0) (stJ i).length (KC.rows (pkL AL (stJ i)) (pkR R (stJ i))) ∧ wr.ownsRow w7.heap.size 30 7 (.slice A1 (rfJ i).length c1) (rfJ i).length (KC.rows (pkL AL (rfJ i)) (pkR R (rfJ i))) ∧ (∀ g, (Value.slice A0 (stJ i).length c0).ownBlock = some g → (Value.slice A1 (rfJ i).length c1).ownBlock ≠ some g) ∧ wr.ownsMap Tryd.prog 9 unitElem w.heap.size i D ∧ Names D i ∧ Kp w.heap.size (w.heap.size + 1) w7 wr) (fun _ _ v16 _ => 27 - (RowKit.intOf v16).toNat)
  case atStart => exact ⟨0, .map [], none, 0, none, 0, by omega, rfl, rfl, rfl, own_nilK w7 _ _ _, own_nilK w7 _ _ _, (fun g h => by cases h), HM7.out, Names.none, Kp.refl _⟩
  case round =>
    clear HM7
    obtain ⟨i, D, A0, c0, A1, c1, hi, rfl, rfl, rfl, ho0, ho1, hne, hmap, hnm, hkp⟩ := hrel
    have O0 := Lib.hid ho0
    have O1 := Lib.hid ho1
    have HNE := Lib.hid hne
    have HMP := Lib.hid hmap
    have HNM := Lib.hid hnm
    have HK := Lib.hid hkp
    have hsz := hkp.size
    clear ho0 ho1 hne hmap hnm hkp
    by_cases hlt : i < 27
    · have i1 : (0 : Int) ≤ (i : Int) := by omega
      have i2 : (i : Int) < 27 := by omega
      have hL7 := own_kp HL.out HK.out (fun g hg => by injection hg with hg; have h9 : g7 = g := hg; omega)
      have hc := fun j (hj : j < 7) => (hL7.cellAt (i * 7 + j) (by omega)).trans (rows_at KC AL R HI7.out.1.symm i j hlt hj)
      have e0 : wr.cell? ⟨g7, i * 7, none⟩ = some (.string (str (AL.getD i cd0).name)) := hc 0 (by omega)
      have e1 : wr.cell? ⟨g7, i * 7 + 1, none⟩ = some (.string (str (AL.getD i cd0).fam)) := hc 1 (by omega)
      have e2 : wr.cell? ⟨g7, i * 7 + 2, none⟩ = some (.int .u8 (AL.getD i cd0).level) := hc 2 (by omega)
      have e3 : wr.cell? ⟨g7, i * 7 + 3, none⟩ = some (slV (R.getD i sl0)) := hc 3 (by omega)
      have e4 : wr.cell? ⟨g7, i * 7 + 4, none⟩ = some (.int .i8 (AL.getD i cd0).score) := hc 4 (by omega)
      have e5 : wr.cell? ⟨g7, i * 7 + 5, none⟩ = some (.string (str (AL.getD i cd0).quirk)) := hc 5 (by omega)
      have e6 : wr.cell? ⟨g7, i * 7 + 6, none⟩ = some (.int .i16 (AL.getD i cd0).entry) := hc 6 (by omega)
      clear hc hL7
      have HKEY := Lib.hid (nameKey (AL.getD i cd0).name (by have := (AL_small i hlt).1; omega))
      have HDUP := Lib.hid HNM.out.dup
      have HPUT := Lib.hid (fun d => HNM.out.put d)
      have HSTAY := Lib.hid (fun hd => HNM.out.stay hd)
      have hl := J_len i hi
      have hj : (stJ i).length ≤ 22 ∧ (rfJ i).length ≤ 5 := hl
      have hs0 : KC.rows (pkL AL (stJ i)) (pkR R (stJ i)) ++ [.string (str (AL.getD i cd0).name), .string (str (AL.getD i cd0).fam), .int .u8 (AL.getD i cd0).level, slV (R.getD i sl0), .int .i8 (AL.getD i cd0).score, .string (str (AL.getD i cd0).quirk), .int .i16 (AL.getD i cd0).entry] = KC.rows (pkL AL (stJ i ++ [i])) (pkR R (stJ i ++ [i])) := pk_snoc AL R (stJ i) i
      have hs1 : KC.rows (pkL AL (rfJ i)) (pkR R (rfJ i)) ++ [.string (str (AL.getD i cd0).name), .string (str (AL.getD i cd0).fam), .int .u8 (AL.getD i cd0).level, slV (R.getD i sl0), .int .i8 (AL.getD i cd0).score, .string (str (AL.getD i cd0).quirk), .int .i16 (AL.getD i cd0).entry] = KC.rows (pkL AL (rfJ i ++ [i])) (pkR R (rfJ i ++ [i])) := pk_snoc AL R (rfJ i) i
      have HS0 := Lib.hid hs0
      have HS1 := Lib.hid hs1
      clear hs0 hs1 hl HNM
      generalize (AL.getD i cd0).name = nm at e0 HKEY HDUP HPUT HS0 HS1
      generalize str (AL.getD i cd0).fam = a1 at e1 HS0 HS1
      generalize (AL.getD i cd0).level = a2 at e2 HS0 HS1
      generalize R.getD i sl0 = r at e3 HS0 HS1
      obtain ⟨ra, rn, rc⟩ := r
      simp only [slV] at e3 HS0 HS1
      generalize (AL.getD i cd0).score = a4 at e4 HS0 HS1
      generalize str (AL.getD i cd0).quirk = a5 at e5 HS0 HS1
      generalize (AL.getD i cd0).entry = a6 at e6 HS0 HS1
      generalize hnms : str nm = a0 at e0 HKEY HS0 HS1
      cases hd : dupB i with
      | true =>
        have HJ := Lib.hid (stJ_yes i hd)
        have HST := Lib.hid (HSTAY.out hd)
        rw [hd] at HDUP
        clear hd HS0 HPUT hnms HSTAY
        have B3 := Lib.hid (bal (bal (grows' wr (.cells #[.string a0, .string a1, .int .u8 a2, .slice ra rn rc, .int .i8 a4, .string a5, .int .i16 a6] 30)) rfl (.cells #[] 136)) rfl (.cells #[.string a0, .string a1, .int .u8 a2, .slice ra rn rc, .int .i8 a4, .string a5, .int .i16 a6] 30))
        go_wp2_with (first
          | (at_lookup; refine wpList_lookup_own_unit _ rfl _ _ 134 rfl 9 136 nameLaw Tryd.underlying134 (zeroUnit _) w.heap.size i D rfl (HMP.out.alloc _) _ _ rfl HKEY.out ?_; rw [HDUP.out])
          | (at_builtin; go_must (refine wpList_append_apartK (o := ⟨some 31, _, _, _, _, _⟩) rfl (.tmp 28) (.tmp 30) 23 rfl w7.heap.size 30 (.agg #[.string ⟨#[]⟩, .string ⟨#[]⟩, .int .u8 0, .slice none 0 0, .int .i8 0, .string ⟨#[]⟩, .int .i16 0]) 7 96 (by omega) Tryd.underlying23 info_cd rfl _ (rfJ i).length (KC.rows (pkL AL (rfJ i)) (pkR R (rfJ i))) rfl (own_belowK O1.out B3.out) ⟨wr.heap.size + 1 + 1, 0, none⟩ 1 1 [.string a0, .string a1, .int .u8 a2, .slice ra rn rc, .int .i8 a4, .string a5, .int .i16 a6] rfl (by omega) rfl (fun j u hu => by rw [Ro.add_plain, World.cell?_alloc_at _ _ _ _ (by simp), Nat.zero_add]; simpa using hu) (by intro u hu; simp at hu; rcases hu with rfl | rfl | rfl | rfl | rfl | rfl | rfl <;> rfl) (by omega) (by omega) (by simp; omega) ?_); intro v9 w9 ho9 hg9 hf9; have HO9 := Lib.hid ho9; have HG9 := Lib.hid hg9; have HF9 := Lib.hid hf9; clear ho9 hg9 hf9))
        go_roundw
        case rel =>
          have ho9 := HO9.out
          rw [HS1.out] at ho9
          obtain ⟨A9, c9, rfl, _⟩ := own_srcK ho9
          have hk9 := (HK.out.below B3.out).grown HG9.out (fun k hk => .inr (O1.out.lt k hk).1)
          have m9 := (((HMP.out.alloc (.cells #[.string a0, .string a1, .int .u8 a2, .slice ra rn rc, .int .i8 a4, .string a5, .int .i16 a6] 30)).alloc (.cells #[] 136)).alloc (.cells #[.string a0, .string a1, .int .u8 a2, .slice ra rn rc, .int .i8 a4, .string a5, .int .i16 a6] 30)).kept HG9.out (fun e => by have := (O1.out.lt _ e.symm).1; omega)
          have o9 := (own_belowK O0.out B3.out).kept HG9.out (by
            cases hv : (Value.slice A0 (stJ i).length c0).ownBlock with
            | none => exact .inl rfl
            | some g => exact .inr fun e => HNE.out g hv e.symm)
          refine ⟨i + 1, D, A0, c0, A9, c9, by omega, by go_num, by rw [HJ.out.1], by rw [HJ.out.2]; simp, by rw [HJ.out.1]; exact o9, by rw [HJ.out.2, List.length_append, List.length_singleton]; exact ho9, fun g hg e => ?_, m9.mono (Nat.le_succ _), HST.out, hk9⟩
          rw [HJ.out.1] at hg
          rw [HJ.out.2, List.length_append, List.length_singleton] at e
          rcases HF9.out with h3 | h3
          · exact HNE.out g hg (h3.symm.trans e)
          · have h4 := h3 g e
            have h5 := (O0.out.lt g hg).2
            simp at h4
            omega
        case measure => simp [RowKit.intOf]; omega
      | false =>
        have HJ := Lib.hid (stJ_no i hd)
        rw [hd] at HDUP
        clear hd HS1 hnms HSTAY
        have B2 := Lib.hid (bal (grows' wr (.cells #[.string a0, .string a1, .int .u8 a2, .slice ra rn rc, .int .i8 a4, .string a5, .int .i16 a6] 30)) rfl (.cells #[] 136))
        have HBX : Hid (∀ j u, [Value.string a0, .string a1, .int .u8 a2, .slice ra rn rc, .int .i8 a4, .string a5, .int .i16 a6][j]? = some u → ((wr.alloc (.cells #[.string a0, .string a1, .int .u8 a2, .slice ra rn rc, .int .i8 a4, .string a5, .int .i16 a6] 30)).alloc (.cells #[] 136)).cell? ⟨wr.heap.size, j, none⟩ = some u) := Lib.hid (fun j u hu => by
          rw [(grows' (wr.alloc (.cells #[.string a0, .string a1, .int .u8 a2, .slice ra rn rc, .int .i8 a4, .string a5, .int .i16 a6] 30)) _).cell (p := ⟨wr.heap.size, j, none⟩) (by simp), World.cell?_alloc_at _ _ _ _ rfl]
          simpa using hu)
        have hbn : (w.heap.size : Nat) < wr.heap.size := by omega
        go_wp2_with (first
          | (at_lookup; refine wpList_lookup_own_unit _ rfl _ _ 134 rfl 9 136 nameLaw Tryd.underlying134 (zeroUnit _) w.heap.size i D rfl (HMP.out.alloc _) _ _ rfl HKEY.out ?_; rw [HDUP.out])
          | (at_mapUpdate; go_must (refine wpList_mapUpdate_own _ rfl _ _ _ 134 rfl 9 136 nameLaw Tryd.underlying134 (unitElem (H := Unit)) w.heap.size i D rfl ((HMP.out.alloc _).alloc _) (by unfold maxLen; omega) _ _ _ rfl rfl HKEY.out _ [] unitElem_mk ?_); intro w10 hown10 hg10; have f0 := hg10.cell (HBX.out 0 _ rfl) (by simp; omega); have f1 := hg10.cell (HBX.out 1 _ rfl) (by simp; omega); have f2 := hg10.cell (HBX.out 2 _ rfl) (by simp; omega); have f3 := hg10.cell (HBX.out 3 _ rfl) (by simp; omega); have f4 := hg10.cell (HBX.out 4 _ rfl) (by simp; omega); have f5 := hg10.cell (HBX.out 5 _ rfl) (by simp; omega); have f6 := hg10.cell (HBX.out 6 _ rfl) (by simp; omega); have HMP10 := Lib.hid hown10; have HG10 := Lib.hid hg10; have HK10 := Lib.hid ((HK.out.below B2.out).grown hg10 (fun k hk => by injection hk with hk; exact .inl (by omega))); have O10 := Lib.hid ((own_belowK O0.out B2.out).kept hg10 (by cases hv : (Value.slice A0 (stJ i).length c0).ownBlock with | none => exact .inl rfl | some g => exact .inr (fun e => by injection e with e; have := (O0.out.lt g hv).1; omega))); have P10 := Lib.hid ((own_belowK O1.out B2.out).kept hg10 (by cases hv : (Value.slice A1 (rfJ i).length c1).ownBlock with | none => exact .inl rfl | some g => exact .inr (fun e => by injection e with e; have := (O1.out.lt g hv).1; omega))); have HS10 : Hid (w7.heap.size ≤ w10.heap.size) := Lib.hid HK10.out.size; clear hown10 hg10)
          | (at_builtin; go_must (refine wpList_append_apartK (o := ⟨some 39, _, _, _, _, _⟩) rfl (.tmp 36) (.tmp 38) 23 rfl w7.heap.size 30 (.agg #[.string ⟨#[]⟩, .string ⟨#[]⟩, .int .u8 0, .slice none 0 0, .int .i8 0, .string ⟨#[]⟩, .int .i16 0]) 7 96 (by omega) Tryd.underlying23 info_cd rfl _ (stJ i).length (KC.rows (pkL AL (stJ i)) (pkR R (stJ i))) rfl (own_belowK O10.out (grows' w10 _)) ⟨w10.heap.size, 0, none⟩ 1 1 [.string a0, .string a1, .int .u8 a2, .slice ra rn rc, .int .i8 a4, .string a5, .int .i16 a6] rfl (by omega) rfl (fun j u hu => by rw [Ro.add_plain, World.cell?_alloc_at _ _ _ _ (by simp), Nat.zero_add]; simpa using hu) (by intro u hu; simp at hu; rcases hu with rfl | rfl | rfl | rfl | rfl | rfl | rfl <;> rfl) (by omega) (by omega) (by have := HS10.out; simp; omega) ?_); intro v9 w9 ho9 hg9 hf9; have HO9 := Lib.hid ho9; have HG9 := Lib.hid hg9; have HF9 := Lib.hid hf9; clear ho9 hg9 hf9))
        go_roundw
        case rel =>
          have ho9 := HO9.out
          rw [HS0.out] at ho9
          obtain ⟨A9, c9, rfl, _⟩ := own_srcK ho9
          have hk9 := (HK10.out.below (grows' w10 _)).grown HG9.out (fun k hk => .inr (O10.out.lt k hk).1)
          have m9 := (HMP10.out.alloc (.cells #[.string a0, .string a1, .int .u8 a2, .slice ra rn rc, .int .i8 a4, .string a5, .int .i16 a6] 30)).kept HG9.out (fun e => by have := (O10.out.lt _ e.symm).1; omega)
          have o9 := (own_belowK P10.out (grows' w10 _)).kept HG9.out (by
            cases hv : (Value.slice A1 (rfJ i).length c1).ownBlock with
            | none => exact .inl rfl
            | some g => exact .inr fun e => HNE.out g e.symm hv)
          refine ⟨i + 1, _, A9, c9, A1, c1, by omega, by go_num, by rw [HJ.out.1]; simp, by rw [HJ.out.2], by rw [HJ.out.1, List.length_append, List.length_singleton]; exact ho9, by rw [HJ.out.2]; exact o9, fun g hg e => ?_, m9, HPUT.out _, hk9⟩
          rw [HJ.out.2] at e
          rw [HJ.out.1, List.length_append, List.length_singleton] at hg
          rcases HF9.out with h3 | h3
          · exact HNE.out g (h3.symm.trans hg) e
          · have h4 := h3 g hg
            have h5 := (P10.out.lt g e).2
            simp at h4
            omega
        case measure => simp [RowKit.intOf]; omega
    · obtain rfl : i = 27 := by omega
      have e22 := st27
      have e5 := rf27
      rw [e22] at O0 ⊢
      rw [e5] at O1 ⊢
      have HIR : Hid (InnOwn KC wr w.heap.size R AL) := Lib.hid (InnOwn.mono (b' := w.heap.size + 1) ⟨HI7.out.1, fun i hi => ⟨(HI7.out.2.1 i hi).1, own_kp (HI7.out.2.1 i hi).2 HK.out (fun g hg => .inr ((HI7.out.2.1 i hi).2.lt g hg).1)⟩, HI7.out.2.2⟩ (Nat.le_succ _))
      have R0 : Hid (RowsOwn KC wr w.heap.size A0 22 c0 SL (pkR R (stJ 27))) := Lib.hid ⟨SL_len.symm, own_monoK O0.out (by omega), inn_pick HIR.out (stJ 27) (stJ_nd 27) (fun j hj => HRL.out j (stJ_lt 27 j hj))⟩
      have R1 : Hid (RowsOwn KC wr w.heap.size A1 5 c1 RL (pkR R (rfJ 27))) := Lib.hid ⟨RL_len.symm, own_monoK O1.out (by omega), inn_pick HIR.out (rfJ 27) (rfJ_nd 27) (fun j hj => HRL.out j (rfJ_lt 27 j hj))⟩
      have BE := Lib.hid (HK.out.low BW7.out (Nat.le_refl _) (by omega))
      clear HNE HMP HNM HIR O0 O1 HK e22 e5
      go_wp2_with fail
      go_ret2
      exact ⟨A0, c0, A1, c1, _, _, rfl, R0.out, R1.out, BE.out⟩
set_option maxRecDepth 100000 in
theorem rCards_any (w : World) : Calls Tryd.prog 9 #[] w (fun e w' => ∃ A c R, e = .returned (.slice A 22 c) ∧ RowsOwn KC w' w.heap.size A 22 c SL R ∧ Below w.heap.size w w') := by
  go_enter Tryd.func9, Tryd.ntmps9
  go_wp2_with fail
  refine (parted_any w).mono ?_
  rintro e w1 ⟨A0, c0, A1, c1, R0, R1, rfl, h0, _, hb⟩
  have H0 := Lib.hid h0
  have HB := Lib.hid hb
  clear h0 hb
  go_wp2_with fail
  go_ret
  exact ⟨A0, c0, R0, rfl, H0.out, HB.out⟩
set_option maxRecDepth 100000 in
theorem rRefused_any (w : World) : Calls Tryd.prog 10 #[] w (fun e w' => ∃ A c R, e = .returned (.slice A 5 c) ∧ RowsOwn KC w' w.heap.size A 5 c RL R ∧ Below w.heap.size w w') := by
  go_enter Tryd.func10, Tryd.ntmps10
  go_wp2_with fail
  refine (parted_any w).mono ?_
  rintro e w1 ⟨A0, c0, A1, c1, R0, R1, rfl, _, h1, hb⟩
  have H1 := Lib.hid h1
  have HB := Lib.hid hb
  clear h1 hb
  go_wp2_with fail
  go_ret
  exact ⟨A1, c1, R1, rfl, H1.out, HB.out⟩
end Go.Proofs.YtnnaoneegeenkaaDoor.Kc
