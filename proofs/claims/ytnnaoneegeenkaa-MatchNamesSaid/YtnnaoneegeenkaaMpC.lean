/- The quirks' names: the law MatchNames. -/
import Derived.Test.YtnnaoneegeenkaaMpB
import Derived.Test.YtnnaoneegeenkaaMtC
namespace Go.Proofs.Ytnnaoneegeenkaa.Mp
open Go.ChangeShapes Go.WideShapes Go.ChangeAt Go.RowKit Own Ro Kc wordsNames Go.Maps Go.WideMaps
open Mt Mq
open Rm (fnV)

theorem fun_fn (f : Nat) (W : World) : Sem.run Try.prog (Go.binOp .eql 40 (.func (.func f) #[] #[]) .nilFunc) W = .ok (.bool false) W := by kernel_rfl
def QN (j : Nat) : Tx := ([slowN, halfN, doubleN, oddN] : List Tx).getD j []
def QF (j : Nat) : Nat := (qOf (QN j)).getD 0
theorem QF_ok : ∀ j < 4, qOf (QN j) = some (QF j) ∧ (QN j).length ≤ 6 := by decide +kernel
abbrev quirksO : Obj := .cells #[.string ⟨#[115, 108, 111, 119]⟩, .string ⟨#[104, 97, 108, 102]⟩, .string ⟨#[100, 111, 117, 98, 108, 101]⟩, .string ⟨#[111, 100, 100]⟩] 9 (0, 0)
theorem lit_ok {j : Nat} (hj : j < 4) : (#[.string ⟨#[115, 108, 111, 119]⟩, .string ⟨#[104, 97, 108, 102]⟩, .string ⟨#[100, 111, 117, 98, 108, 101]⟩, .string ⟨#[111, 100, 100]⟩] : Array Value)[j]? = some (.string (str (QN j))) := by
  obtain rfl | rfl | rfl | rfl : j = 0 ∨ j = 1 ∨ j = 2 ∨ j = 3 := by omega
  · rfl
  · rfl
  · rfl
  · rfl
set_option maxRecDepth 100000 in
theorem quirks_any (w : World) : Calls Try.prog 10 #[] w (fun e w' => e = .returned (.slice (some ⟨w.heap.size, 0, none⟩) 4 4) ∧ w' = w.alloc quirksO) := by
  go_enter Try.func10, Try.ntmps10
  go_wp2_with fail
  go_ret
  exact ⟨rfl, rfl⟩
theorem lits_at (w : World) {j : Nat} (hj : j < 4) : (w.alloc quirksO).cell? ⟨w.heap.size, j, none⟩ = some (.string (str (QN j))) := by
  rw [World.cell?_alloc_at _ _ _ _ rfl]
  exact lit_ok hj
theorem lits_there (w : World) : (w.alloc quirksO).there w.heap.size 0 4 := fun j hj => by
  rw [Nat.zero_add]
  refine ⟨?_, World.frozen?_alloc_new w _ _ _⟩
  rw [lits_at w hj]
  rfl
theorem there_below {w w' : World} {g n : Nat} (h : w.there g 0 n) (hb : Below w.heap.size w w') : w'.there g 0 n := fun j hj => by
  obtain ⟨h1, h2⟩ := h j hj
  obtain ⟨u, hu⟩ := Option.isSome_iff_exists.1 h1
  have hlt := cell_lt hu
  exact ⟨by rw [hb.cell hlt]; exact h1, by rw [hb.frozen hlt]; exact h2⟩
theorem fitRel_zero : FitRel [cd0] [] 0 0 70 := .inl ⟨fun h => by
  have := (h 0 (by simp)).2.1.2.2.2.1.1
  exact absurd this (by decide), rfl, rfl, rfl⟩
theorem fitRel_nil (ls : List Tx) : FitRel [] ls 0 0 6 := .inr (.inl ⟨fun k hk => absurd hk (Nat.not_lt_zero k), .inl ⟨fun _ _ => rfl, rfl, rfl⟩, rfl, rfl, rfl⟩)
theorem mild_zeroL : MildL 1099511627776 [cd0] := ⟨by decide, fun k => by
  cases k with
  | zero => exact ⟨by decide, by decide, by decide, by decide, fun j => by show (([] : List Tx).getD j []).length ≤ _; simp⟩
  | succ k => exact ⟨Nat.zero_le _, Nat.zero_le _, Nat.zero_le _, Nat.zero_le _, fun j => by show (([] : List Tx).getD j []).length ≤ _; simp⟩⟩
theorem rows_zero (w : World) : Ro.RowsIn KC (w.alloc (.cells #[.string ⟨#[]⟩, .string ⟨#[]⟩, .int .u8 0, .slice none 0 0, .int .i8 0, .string ⟨#[]⟩, .int .i16 0] 37)) (some ⟨w.heap.size, 0, none⟩) 1 [cd0] [sl0] := by
  refine ⟨rfl, rfl, ⟨rfl, .inr ⟨_, 0, rfl, by simp, fun j u hu => ?_⟩⟩, fun i hi => ?_⟩
  · rw [Nat.zero_add, show (Obj.cells #[.string ⟨#[]⟩, .string ⟨#[]⟩, .int .u8 0, .slice none 0 0, .int .i8 0, .string ⟨#[]⟩, .int .i16 0] 37 (0, 0)) = .cells (cells7 cd0 sl0) 37 (0, 0) from rfl, box7]
    have e : (KC.rows [cd0] [sl0]) = (cells7 cd0 sl0).toList := rfl
    rw [e] at hu
    simpa using hu
  · obtain rfl : i = 0 := by omega
    exact ⟨rfl, rfl, .inl rfl⟩
theorem lit_cellsP (w : World) (xs : Array Value) (T : TypeId) (q n : Nat) (h : xs.size = n * q) : CellsIn (w.alloc (.cells xs T)) q (some ⟨w.heap.size, 0, none⟩) n xs.toList :=
  ⟨by simpa using h, .inr ⟨_, 0, rfl, by simp, fun j u hu => by
    rw [World.cell?_alloc_at _ _ _ _ rfl, Nat.zero_add]
    simpa using hu⟩⟩
set_option maxRecDepth 100000 in
set_option maxHeartbeats 16000000 in
theorem names_any (w : World) : Calls Try.prog 4 #[] w (fun e w' => e = .returned (.bool true) ∧ Below w.heap.size w w') := by
  go_enter Try.func4, Try.ntmps4
  go_wp2_with fail
  refine (quirks_any w).mono ?_
  rintro e w1 ⟨rfl, hw1⟩
  have B1 := Lib.hid (show Below w.heap.size w w1 from by rw [hw1]; exact grows' w quirksO)
  have T1 := Lib.hid (show w1.there w.heap.size 0 4 from by rw [hw1]; exact lits_there w)
  have Q1 := Lib.hid (fun j (hj : j < 4) => show w1.cell? ⟨w.heap.size, j, none⟩ = some (.string (str (QN j))) from by rw [hw1]; exact lits_at w hj)
  have S1 := Lib.hid (show w1.heap.size = w.heap.size + 1 by rw [hw1]; simp)
  clear hw1
  go_wp2_with fail
  refine (quirks_any w1).mono ?_
  rintro e w2 ⟨rfl, hw2⟩
  have B2 := Lib.hid (show Below w1.heap.size w1 w2 from by rw [hw2]; exact grows' w1 quirksO)
  have Q2 := Lib.hid (fun j (hj : j < 4) => show w2.cell? ⟨w1.heap.size, j, none⟩ = some (.string (str (QN j))) from by rw [hw2]; exact lits_at w1 hj)
  have S2 := Lib.hid (show w2.heap.size = w1.heap.size + 1 by rw [hw2]; simp)
  clear hw2
  go_upto_region 4 with (fail)
  obtain ⟨w3, hw3⟩ : ∃ w3, w2.alloc quirksO = w3 := ⟨_, rfl⟩
  have B3 := Lib.hid (show Below w2.heap.size w2 w3 from by rw [← hw3]; exact grows' w2 quirksO)
  have Q3 := Lib.hid (fun j (hj : j < 4) => show w3.cell? ⟨w2.heap.size, j, none⟩ = some (.string (str (QN j))) from by rw [← hw3]; exact lits_at w2 hj)
  rw [show w2.alloc _ = w3 from hw3]
  clear hw3
  have QA := Lib.hid (fun j (hj : j < 4) => ((bt B2.out B3.out).cell (p := ⟨w.heap.size, j, none⟩) (show w.heap.size < w1.heap.size by have := S1.out; omega)).trans (Q1.out j hj))
  have QB := Lib.hid (fun j (hj : j < 4) => (B3.out.cell (p := ⟨w1.heap.size, j, none⟩) (show w1.heap.size < w2.heap.size by have := S2.out; omega)).trans (Q2.out j hj))
  have TA := Lib.hid (there_below T1.out (bt B2.out B3.out))
  have BA := Lib.hid (bt B1.out (bt B2.out B3.out))
  have hab : w.heap.size + 1 ≤ w1.heap.size := by have := S1.out; omega
  have hac : w.heap.size + 1 ≤ w2.heap.size := by have := S1.out; have := S2.out; omega
  have hsz := (bt B2.out B3.out).size
  clear Q1 Q2 T1 B1 B2 B3 S1 S2
  generalize w1.heap.size = bb at *
  generalize w2.heap.size = bw at *
  go_wp2_with fail
  go_loopw [4, 5, 6] (fun v4 _ _ wr => ∃ i : Nat, i ≤ 4 ∧ v4 = .int .i64 (i : Nat) ∧ Kp w.heap.size (w.heap.size + 1) w3 wr ∧ (∀ j, i ≤ j → j < 4 → wr.cell? ⟨w.heap.size, j, none⟩ = some (.string (str (QN j)))) ∧ wr.there w.heap.size 0 4 ∧ Below w.heap.size w wr) (fun v4 _ _ _ => 4 - (RowKit.intOf v4).toNat)
  case atStart => exact ⟨0, by omega, rfl, Kp.refl _, fun j _ hj => QA.out j hj, TA.out, BA.out⟩
  case round =>
    clear QA TA BA
    obtain ⟨i, hi, rfl, hkp, hqa, hth, hbw⟩ := hrel
    have HK := Lib.hid hkp
    have HQ := Lib.hid hqa
    have HT := Lib.hid hth
    have BW := Lib.hid hbw
    clear hkp hqa hth hbw
    by_cases hlt : i < 4
    · have i1 : (0 : Int) ≤ (i : Int) := by omega
      have i2 : (i : Int) < 4 := by omega
      have ha := HQ.out i (Nat.le_refl i) hlt
      have HQK : Hid (Calls Try.prog 11 #[.string (str (QN i))] wr fun e w' => e = .returned (.tuple #[.func (.func (QF i)) #[] #[], .bool true]) ∧ Below wr.heap.size wr w') := Lib.hid (by
        have q := quirk_any (QN i) wr (Nat.le_trans (QF_ok i hlt).2 (by unfold maxLen; decide))
        unfold QPost at q
        rw [(QF_ok i hlt).1] at q
        exact q)
      have HAW := Lib.hid (fun W (hW : Below wr.heap.size wr W) => And.intro (cell_kp' (QB.out i hlt) (HK.out.below hW) hab) (cell_kp' (Q3.out i hlt) (HK.out.below hW) hac))
      have HAA := Lib.hid (fun W (hW : Below wr.heap.size wr W) => (hW.cell (p := ⟨w.heap.size, i, none⟩) (cell_lt ha)).trans ha)
      have hfe := fun_fn (QF i)
      generalize QF i = f at *
      have qs : ((str (QN i)).toList == (str (QN i)).toList) = true := by simp
      generalize str (QN i) = S at *
      go_wp2_with fail
      refine HQK.out.mono ?_
      rintro e w5 ⟨rfl, hb5⟩
      have B5 := Lib.hid hb5
      clear hb5 HQK ha
      have ha := HAA.out w5 B5.out
      obtain ⟨hb, hc⟩ := HAW.out w5 B5.out
      go_wp2_with fail
      go_quiet (fail)
      go_upto_region 12 with (fail)
      clear ha hb hc
      generalize hwq : w5.drewN nq = wq
      have B6 := Lib.hid (show Below wr.heap.size wr wq from hwq ▸ below_dr B5.out nq)
      clear hwq
      have T6 := Lib.hid (there_below HT.out B6.out)
      have t6 := T6.out i hlt
      rw [Nat.zero_add] at t6
      obtain ⟨t6a, t6b⟩ := t6
      obtain ⟨u6, hu6⟩ := Option.isSome_iff_exists.1 t6a
      clear t6a
      have K6 := Lib.hid (HK.out.below B6.out)
      have Q6 := Lib.hid (fun j (hj : i + 1 ≤ j) (hj4 : j < 4) => (B6.out.cell (p := ⟨w.heap.size, j, none⟩) (cell_lt (HQ.out j (by omega) hj4))).trans (HQ.out j (by omega) hj4))
      have BA6 := Lib.hid (bt BW.out B6.out)
      go_upto_region 13 with (fail)
      clear hu6 t6b
      have K7 := Lib.hid (K6.out.setCell (p := ⟨w.heap.size, i, none⟩) (.inl ⟨Nat.le_refl _, Nat.lt_succ_self _⟩) (.string ⟨#[115, 112, 111, 105, 108, 116]⟩))
      have T7 := Lib.hid (World.there_setCells T6.out w.heap.size i [.string ⟨#[115, 112, 111, 105, 108, 116]⟩])
      have B7 := Lib.hid (BA6.out.setCell (p := ⟨w.heap.size, i, none⟩) (Nat.le_refl _) (.string ⟨#[115, 112, 111, 105, 108, 116]⟩))
      have Q7 : Hid (∀ j, i + 1 ≤ j → j < 4 → (wq.setCell ⟨w.heap.size, i, none⟩ (.string ⟨#[115, 112, 111, 105, 108, 116]⟩)).cell? ⟨w.heap.size, j, none⟩ = some (.string (str (QN j)))) := Lib.hid (fun j hj hj4 => by
        have hne : (⟨w.heap.size, i, none⟩ : Addr) ≠ ⟨w.heap.size, j, none⟩ := by
          intro e
          injection e with _ e
          omega
        exact (World.cell?_setCell_other wq _ _ _ hne).trans (Q6.out j hj hj4))
      have T7' : Hid ((wq.setCell ⟨w.heap.size, i, none⟩ (.string ⟨#[115, 112, 111, 105, 108, 116]⟩)).there w.heap.size 0 4) := Lib.hid T7.out
      clear T7 T6 K6 Q6 BA6
      generalize wq.setCell ⟨w.heap.size, i, none⟩ (.string ⟨#[115, 112, 111, 105, 108, 116]⟩) = ws at *
      have hb := cell_kp' (QB.out i hlt) K7.out hab
      have hc := cell_kp' (Q3.out i hlt) K7.out hac
      go_quiet (fail)
      go_wp2_with fail
      go_roundw
      case rel => exact ⟨i + 1, by omega, by go_num, K7.out.below (below_dr (Below.refl _ _) _), fun j hj hj4 => Q7.out j hj hj4, there_below T7'.out (below_dr (Below.refl _ _) _), below_dr B7.out _⟩
      case measure => simp [RowKit.intOf]; omega
    · obtain rfl : i = 4 := by omega
      have G1 := Lib.hid (grows' wr (.cells #[.string ⟨#[]⟩, .string ⟨#[]⟩, .int .u8 0, .slice none 0 0, .int .i8 0, .string ⟨#[]⟩, .int .i16 0] 37))
      have HF1 := Lib.hid (fit_any (some ⟨wr.heap.size, 0, none⟩) none 1 1 0 0 [cd0] [sl0] [] 0 0 70 (wr.alloc (.cells #[.string ⟨#[]⟩, .string ⟨#[]⟩, .int .u8 0, .slice none 0 0, .int .i8 0, .string ⟨#[]⟩, .int .i16 0] 37)) fitRel_zero mild_zeroL
        (fun k => by rcases k with _ | k <;> simp [sl0])
        (rows_zero wr)
        rfl (by decide) (fun j => by show (([] : List Tx).getD j []).length ≤ maxLen; simp) ⟨rfl, .inl rfl⟩)
      go_wp2_with fail
      refine HF1.out.mono ?_
      rintro e w5 ⟨rfl, hb5⟩
      have B5 := Lib.hid (bt BW.out (bt G1.out hb5))
      clear hb5 HF1 G1
      go_upto_region 16 with (fail)
      have G6 := Lib.hid (grows' w5 (.cells #[.int .i64 0, .int .i64 0] 30))
      generalize w5.alloc (.cells #[.int .i64 0, .int .i64 0] 30) = w6 at *
      have B6 := Lib.hid (bt B5.out G6.out)
      generalize w5.heap.size = b7 at *
      clear G6 B5
      have G7 := Lib.hid (grows' w6 (.cells #[.string ⟨#[97]⟩] 9))
      have HF2 := Lib.hid (fit_any none (some ⟨w6.heap.size, 0, none⟩) 0 0 1 1 [] [] [[97]] 0 0 6 (w6.alloc (.cells #[.string ⟨#[97]⟩] 9)) (fitRel_nil _) ⟨by decide, fun k => by exact mild_zeroL.2 (k + 1)⟩
        (fun k => by simp [sl0]) ⟨rfl, rfl, ⟨rfl, .inl rfl⟩, fun i hi => absurd hi (Nat.not_lt_zero i)⟩ rfl (by decide)
        (fun j => by
          rcases j with _ | j
          · decide
          · show (([] : List Tx).getD j []).length ≤ maxLen
            simp)
        (lit_cellsP w6 #[.string ⟨#[97]⟩] 9 1 1 rfl))
      go_wp2_with fail
      refine HF2.out.mono ?_
      rintro e w8 ⟨rfl, hb8⟩
      have B8 := Lib.hid (bt B6.out (bt G7.out hb8))
      clear hb8 HF2 G7
      go_wp2_with fail
      go_ret
      exact ⟨rfl, bt B8.out (grows' w8 _)⟩
end Go.Proofs.Ytnnaoneegeenkaa.Mp
