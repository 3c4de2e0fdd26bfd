/- The roll's cards put to use: awake. -/
import Derived.Test.YtnnaoneegeenkaaDoorMuA
import Derived.Test.YtnnaoneegeenkaaDoorRvE
namespace Go.Proofs.YtnnaoneegeenkaaDoor.Mu
open Go.ChangeShapes Go.WideShapes Go.ChangeAt Go.RowKit Own Ro Kc wordsNames Go.Maps Go.WideMaps
open Mt Mq
open Rm (T5)
open Kq (lookT tabsI lit_cells)

/-- The roll's cards in memory. -/
theorem row_at {W : World} {A : Option Addr} {R : List Sl} (h : Ro.RowsIn KC W A 22 SL R) (i : Nat) (hi : i < 22) : ∃ b o, A = some ⟨b, o, none⟩ ∧ b < W.heap.size ∧ (∀ j u, (row7 (SL.getD i cd0) (R.getD i sl0))[j]? = some u → W.cell? ⟨b, o + i * 7 + j, none⟩ = some u) ∧ (R.getD i sl0).2.1 = (SL.getD i cd0).compat.length ∧ CellsIn W 1 (R.getD i sl0).1 (R.getD i sl0).2.1 (strs (SL.getD i cd0).compat) := by
  obtain ⟨b, o, h1, h2, h3, h4, h5⟩ := h.at hi
  exact ⟨b, o, h1, h2, h3, h4, h5⟩
theorem fitRel_S {x : Tx} {k : Nat} (h : best SL 22 x = some k) : FitRel SL [x] k 0 0 := by
  refine .inr (.inr ⟨allOk_SL, .inr ⟨0, k, by simp, fun i hi => absurd hi (Nat.not_lt_zero i), ?_, rfl, rfl⟩, by omega, rfl⟩)
  rw [SL_len]
  exact h
theorem fitRel_W : FitRel SL [nobodyT, watchT] wk 1 0 := by
  refine .inr (.inr ⟨allOk_SL, .inr ⟨1, wk, by simp, fun i hi => ?_, ?_, rfl, rfl⟩, by omega, rfl⟩)
  · obtain rfl : i = 0 := by omega
    rw [SL_len]
    exact wk_ok.2.2.1
  · rw [SL_len]
    exact wk_ok.1
set_option maxRecDepth 100000 in
set_option maxHeartbeats 16000000 in
theorem awake_any (w : World) (ht5 : T5 w) : Calls Tryd.prog 23 #[] w (fun e w' => e = .returned (.bool true) ∧ Below w.heap.size w w') := by
  have HT := Lib.hid (fun W (hW : Below w.heap.size w W) => ht5.below hW)
  clear ht5
  go_enter Tryd.func23, Tryd.ntmps23
  go_wp2_with fail
  refine (rCards_any w).mono ?_
  rintro e w1 ⟨A, c, R, rfl, ho, hb1⟩
  have B1 := Lib.hid hb1
  have HR := Lib.hid (fun W (hW : Below w1.heap.size w1 W) => (ho.below hW).rows)
  have HNE := Lib.hid (fun k => (ho.neat k).2)
  have G2 := Lib.hid (grows' w1 (.cells #[.string ⟨#[110, 111, 98, 111, 100, 121]⟩, .string ⟨#[97, 99, 109, 101, 44, 119, 97, 116, 99, 104]⟩] 9))
  have HC2 : Hid (CellsIn (w1.alloc (.cells #[.string ⟨#[110, 111, 98, 111, 100, 121]⟩, .string ⟨#[97, 99, 109, 101, 44, 119, 97, 116, 99, 104]⟩] 9)) 1 (some ⟨w1.heap.size, 0, none⟩) 2 (strs [nobodyT, watchT])) := Lib.hid (lit_cells w1 #[.string ⟨#[110, 111, 98, 111, 100, 121]⟩, .string ⟨#[97, 99, 109, 101, 44, 119, 97, 116, 99, 104]⟩] 9 1 2 rfl)
  have HFIT := Lib.hid (fun d => fit_any A (some ⟨w1.heap.size, 0, none⟩) c 22 d 2 SL R [nobodyT, watchT] wk 1 0 _ fitRel_W mildL_S HNE.out (HR.out _ G2.out) rfl (by decide) (fun j => by
    rcases j with _ | _ | j
    · decide
    · decide
    · show (([] : List Tx).getD j []).length ≤ maxLen
      simp) HC2.out)
  obtain ⟨b, o, rfl, hlt, hrow, hln, hin⟩ := row_at (HR.out w1 (Below.refl _ _)) wk wk_ok.2.1
  have HSET := Lib.hid (fun W (hW : Below w1.heap.size w1 W) => setting_any (SL.getD wk cd0) (R.getD wk sl0) (stS wk) 0 W (setRel_SL wk wk_ok.2.1) (mildL_S.2 wk) hln (HNE.out wk) (hin.below hW) (HT.out W (bt B1.out hW)))
  have HST : Hid (stS wk = 8192) := Lib.hid (by unfold stS; rw [if_neg (by rw [watch_8192.1]; decide)]; exact watch_8192.2)
  have HROW := Lib.hid (fun W (hW : Below w1.heap.size w1 W) j u hu => (hW.cell (p := ⟨b, o + wk * 7 + j, none⟩) hlt).trans (hrow j u hu))
  have hk1 : (0 : Int) ≤ (wk : Int) := by omega
  have hk2 : (wk : Int) < 22 := by have := wk_ok.2.1; omega
  have HNM : Hid ((SL.getD wk cd0).name = [119, 97, 116, 99, 104, 45, 99, 108, 111, 99, 107]) := Lib.hid wk_ok.2.2.2
  rw [HST.out] at HSET
  clear ho hb1 HT HNE HC2 hrow hin hlt hln
  generalize SL.getD wk cd0 = d at HSET HROW HNM
  generalize R.getD wk sl0 = r at HSET HROW
  generalize wk = k at *
  go_wp2_with fail
  refine (HFIT.out 2).mono ?_
  rintro e w3 ⟨rfl, hb3⟩
  have B3 := Lib.hid (bt G2.out hb3)
  clear hb3 HFIT G2
  have C5 := Lib.hid (cells2_new w3 (.int .i64 (k : Nat)) (.int .i64 1) 64)
  have G5 := Lib.hid (grows' w3 (.cells #[.int .i64 (k : Nat), .int .i64 1] 64))
  go_upto_region 3 with (fail)
  generalize w3.alloc (.cells #[.int .i64 (k : Nat), .int .i64 1] 64) = w4 at *
  have B4 := Lib.hid (bt B3.out G5.out)
  clear G5 B3
  generalize w3.heap.size = bx at *
  have c0 := C5.out.1
  have c1 := C5.out.2
  have hr := HROW.out w4 B4.out
  obtain ⟨ra, rn, rc⟩ := r
  have e0 : w4.cell? ⟨b, o + k * 7, none⟩ = some (.string (str d.name)) := hr 0 _ rfl
  have e1 : w4.cell? ⟨b, o + k * 7 + 1, none⟩ = some (.string (str d.fam)) := hr 1 _ rfl
  have e2 : w4.cell? ⟨b, o + k * 7 + 2, none⟩ = some (.int .u8 d.level) := hr 2 _ rfl
  have e3 : w4.cell? ⟨b, o + k * 7 + 3, none⟩ = some (.slice ra rn rc) := hr 3 _ rfl
  have e4 : w4.cell? ⟨b, o + k * 7 + 4, none⟩ = some (.int .i8 d.score) := hr 4 _ rfl
  have e5 : w4.cell? ⟨b, o + k * 7 + 5, none⟩ = some (.string (str d.quirk)) := hr 5 _ rfl
  have e6 : w4.cell? ⟨b, o + k * 7 + 6, none⟩ = some (.int .i16 d.entry) := hr 6 _ rfl
  have z1 : ¬ (22 : Int) ≤ (k : Int) := by omega
  have HSX := Lib.hid (HSET.out w4 B4.out)
  unfold cardV cells7 at HSX
  simp only [slV] at HSX
  clear hr HSET
  go_wp2_with fail
  refine HSX.out.mono ?_
  rintro e w5 ⟨rfl, hb5⟩
  have B5 := Lib.hid (bt B4.out hb5)
  have f0 : w5.cell? ⟨b, o + k * 7, none⟩ = some (.string (str d.name)) := HROW.out w5 B5.out 0 _ rfl
  have g0 : w5.cell? ⟨bx, 0, none⟩ = some (.int .i64 (k : Nat)) := (cells2_below C5.out hb5).1
  have q0 : ((str d.name).toList == ([119, 97, 116, 99, 104, 45, 99, 108, 111, 99, 107] : List UInt8)) = true := by rw [Lib.toList_data, str_list, HNM.out]; rfl
  clear hb5 c0 c1 e0 e1 e2 e3 e4 e5 e6
  go_wp2_with fail
  go_ret
  exact ⟨rfl, bt B1.out B5.out⟩
end Go.Proofs.YtnnaoneegeenkaaDoor.Mu
