/- The document's families in memory: All. -/
import Derived.Test.YtnnaoneegeenkaaDoorRvD
import Derived.Test.YtnnaoneegeenkaaDoorRvC
import Derived.Test.YtnnaoneegeenkaaDoorRlQ
namespace Go.Proofs.YtnnaoneegeenkaaDoor.Kq
open Go.ChangeShapes Go.WideShapes Go.ChangeAt Go.RowKit Own Ro wordsNames Kc
open Rm (crystalN supplyN busN sensorN radioN)
open Ka (i64s i64s_len i64s_at entV Rt)

theorem fam_kpQ {W V : World} {lo hi b n c : Nat} {A : Option Addr} {L : List Cd} {R : List Sl} (h : RowsOwn KC W b A n c L R) (hk : Kp lo hi W V) (hb : hi ≤ b) : RowsOwn KC V b A n c L R :=
  rows_kp h hk ⟨fun g hg => .inr (Nat.le_trans hb (h.2.1.lt g hg).1), fun i hi' g hg => .inr (Nat.le_trans hb ((h.2.2.2.1 i hi').2.lt g hg).1)⟩
/-- What All leaves: five families, which stay while one older block is written. -/
def AllPost (w : World) (e : Ending) (w' : World) : Prop :=
  ∃ ga, e = .returned (.slice (some ⟨ga, 0, none⟩) 5 5) ∧ (∀ k, k < 5 → ∀ lo W, lo < w.heap.size → Kp lo (lo + 1) w' W → ∃ r A R, FamAt W ga k (FM k) r A R ∧ ∀ a, A.1 = some a → lo < a.block) ∧ w.heap.size ≤ ga ∧ ga < w'.heap.size ∧ Below w.heap.size w w'
theorem cell_kpQ {W V : World} {lo : Nat} {b o : Nat} {u : Value} (h : W.cell? ⟨b, o, none⟩ = some u) (hk : Kp lo (lo + 1) W V) (hb : lo < b) : V.cell? ⟨b, o, none⟩ = some u := by
  rw [← h]
  exact World.cell?_of_block (hk.block b (World.block_lt_of_cell? W _ h) (.inr (by show lo + 1 ≤ b; omega)))
theorem cells_kpQ {W V : World} {lo n q : Nat} {b o : Nat} {xs : List Value} (h : CellsIn W q (some ⟨b, o, none⟩) n xs) (hk : Kp lo (lo + 1) W V) (hb : lo < b) : CellsIn V q (some ⟨b, o, none⟩) n xs := by
  refine ⟨h.1, ?_⟩
  rcases h.2 with h0 | ⟨b', o', e, hlt, hc⟩
  · exact .inl h0
  · injection e with e
    injection e with e1 e2
    subst e1 e2
    exact .inr ⟨b, o, rfl, Nat.lt_of_lt_of_le hlt hk.size, fun j u hu => cell_kpQ (hc j u hu) hk hb⟩
theorem lit_cells (w : World) (xs : Array Value) (T : TypeId) (q n : Nat) (h : xs.size = n * q) : CellsIn (w.alloc (.cells xs T)) q (some ⟨w.heap.size, 0, none⟩) n xs.toList :=
  ⟨by simpa using h, .inr ⟨_, 0, rfl, by simp, fun j u hu => by
    rw [World.cell?_alloc_at _ _ _ _ rfl, Nat.zero_add]
    simpa using hu⟩⟩
set_option maxRecDepth 100000 in
set_option maxHeartbeats 8000000 in
theorem refAll_any (w : World) : Calls Tryd.prog 26 #[] w (AllPost w) := by
  go_enter Tryd.func26, Tryd.ntmps26
  go_wp2_with fail
  refine (refFam_c _).mono ?_
  rintro e w1 ⟨rfl, hw⟩
  have b1 := madeF_below FLc w
  have r1 : RowsOwn KC (madeF FLc w) w.heap.size (some ⟨top w.heap.size FLc, 0, none⟩) 5 5 FLc (pl w.heap.size FLc) := fam_rows w FLc (by decide +kernel) (by decide)
  rw [← hw] at b1 r1
  clear hw
  simp only [show FLc.length = 5 from rfl]
  generalize top w.heap.size FLc = t1 at r1 ⊢
  generalize pl w.heap.size FLc = R1 at r1
  replace b1 := Lib.hid b1
  replace r1 := Lib.hid r1
  go_wp2_with fail
  have q2 := lit_cells w1 #[.string ⟨#[99, 114, 121, 115, 116, 97, 108]⟩, .int .i64 1] 125 2 1 rfl
  have c2 := grows' w1 (.cells #[.string ⟨#[99, 114, 121, 115, 116, 97, 108]⟩, .int .i64 1] 125)
  generalize w1.alloc (.cells #[.string ⟨#[99, 114, 121, 115, 116, 97, 108]⟩, .int .i64 1] 125) = v2 at q2 c2 ⊢
  replace q2 := Lib.hid q2
  replace c2 := Lib.hid c2
  refine (refFam_s _).mono ?_
  rintro e w2 ⟨rfl, hw⟩
  have b2 := madeF_below FLs v2
  have r2 : RowsOwn KC (madeF FLs v2) v2.heap.size (some ⟨top v2.heap.size FLs, 0, none⟩) 6 6 FLs (pl v2.heap.size FLs) := fam_rows v2 FLs (by decide +kernel) (by decide)
  rw [← hw] at b2 r2
  clear hw
  simp only [show FLs.length = 6 from rfl]
  generalize top v2.heap.size FLs = t2 at r2 ⊢
  generalize pl v2.heap.size FLs = R2 at r2
  replace b2 := Lib.hid b2
  replace r2 := Lib.hid r2
  go_wp2_with fail
  have q3 := lit_cells w2 #[.string ⟨#[99, 114, 121, 115, 116, 97, 108]⟩, .int .i64 1, .string ⟨#[115, 117, 112, 112, 108, 121]⟩, .int .i64 4] 125 2 2 rfl
  have c3 := grows' w2 (.cells #[.string ⟨#[99, 114, 121, 115, 116, 97, 108]⟩, .int .i64 1, .string ⟨#[115, 117, 112, 112, 108, 121]⟩, .int .i64 4] 125)
  generalize w2.alloc (.cells #[.string ⟨#[99, 114, 121, 115, 116, 97, 108]⟩, .int .i64 1, .string ⟨#[115, 117, 112, 112, 108, 121]⟩, .int .i64 4] 125) = v3 at q3 c3 ⊢
  replace q3 := Lib.hid q3
  replace c3 := Lib.hid c3
  refine (refFam_b _).mono ?_
  rintro e w3 ⟨rfl, hw⟩
  have b3 := madeF_below FLb v3
  have r3 : RowsOwn KC (madeF FLb v3) v3.heap.size (some ⟨top v3.heap.size FLb, 0, none⟩) 5 5 FLb (pl v3.heap.size FLb) := fam_rows v3 FLb (by decide +kernel) (by decide)
  rw [← hw] at b3 r3
  clear hw
  simp only [show FLb.length = 5 from rfl]
  generalize top v3.heap.size FLb = t3 at r3 ⊢
  generalize pl v3.heap.size FLb = R3 at r3
  replace b3 := Lib.hid b3
  replace r3 := Lib.hid r3
  go_wp2_with fail
  have q4 := lit_cells w3 #[.string ⟨#[115, 117, 112, 112, 108, 121]⟩, .int .i64 1] 125 2 1 rfl
  have c4 := grows' w3 (.cells #[.string ⟨#[115, 117, 112, 112, 108, 121]⟩, .int .i64 1] 125)
  generalize w3.alloc (.cells #[.string ⟨#[115, 117, 112, 112, 108, 121]⟩, .int .i64 1] 125) = v4 at q4 c4 ⊢
  replace q4 := Lib.hid q4
  replace c4 := Lib.hid c4
  refine (refFam_e _).mono ?_
  rintro e w4 ⟨rfl, hw⟩
  have b4 := madeF_below FLe v4
  have r4 : RowsOwn KC (madeF FLe v4) v4.heap.size (some ⟨top v4.heap.size FLe, 0, none⟩) 5 5 FLe (pl v4.heap.size FLe) := fam_rows v4 FLe (by decide +kernel) (by decide)
  rw [← hw] at b4 r4
  clear hw
  simp only [show FLe.length = 5 from rfl]
  generalize top v4.heap.size FLe = t4 at r4 ⊢
  generalize pl v4.heap.size FLe = R4 at r4
  replace b4 := Lib.hid b4
  replace r4 := Lib.hid r4
  go_wp2_with fail
  have q5 := lit_cells w4 #[.string ⟨#[98, 117, 115]⟩, .int .i64 1, .string ⟨#[115, 101, 110, 115, 111, 114]⟩, .int .i64 2] 125 2 2 rfl
  have c5 := grows' w4 (.cells #[.string ⟨#[98, 117, 115]⟩, .int .i64 1, .string ⟨#[115, 101, 110, 115, 111, 114]⟩, .int .i64 2] 125)
  generalize w4.alloc (.cells #[.string ⟨#[98, 117, 115]⟩, .int .i64 1, .string ⟨#[115, 101, 110, 115, 111, 114]⟩, .int .i64 2] 125) = v5 at q5 c5 ⊢
  replace q5 := Lib.hid q5
  replace c5 := Lib.hid c5
  refine (refFam_r _).mono ?_
  rintro e w5 ⟨rfl, hw⟩
  have b5 := madeF_below FLr v5
  have r5 : RowsOwn KC (madeF FLr v5) v5.heap.size (some ⟨top v5.heap.size FLr, 0, none⟩) 6 6 FLr (pl v5.heap.size FLr) := fam_rows v5 FLr (by decide +kernel) (by decide)
  rw [← hw] at b5 r5
  clear hw
  simp only [show FLr.length = 6 from rfl]
  generalize top v5.heap.size FLr = t5 at r5 ⊢
  generalize pl v5.heap.size FLr = R5 at r5
  replace b5 := Lib.hid b5
  replace r5 := Lib.hid r5
  go_wp2_with fail
  go_ret
  have s1 := b1.out.size
  have s2a := c2.out.size
  have s2 := b2.out.size
  have s3a := c3.out.size
  have s3 := b3.out.size
  have s4a := c4.out.size
  have s4 := b4.out.size
  have s5a := c5.out.size
  have s5 := b5.out.size
  have d5 := b5.out
  have e5 := bt c5.out d5
  have d4 := bt b4.out e5
  have e4 := bt c4.out d4
  have d3 := bt b3.out e4
  have e3 := bt c3.out d3
  have d2 := bt b2.out e3
  have e2 := bt c2.out d2
  have d1 := bt b1.out e2
  have hrow : ∀ k, k < 5 → ∀ j u, (([(FM 0, ((none, 0, 0) : Sl), ((some ⟨t1, 0, none⟩, 5, 5) : Sl)), (FM 1, ((some ⟨w1.heap.size, 0, none⟩, 1, 1) : Sl), ((some ⟨t2, 0, none⟩, 6, 6) : Sl)), (FM 2, ((some ⟨w2.heap.size, 0, none⟩, 2, 2) : Sl), ((some ⟨t3, 0, none⟩, 5, 5) : Sl)), (FM 3, ((some ⟨w3.heap.size, 0, none⟩, 1, 1) : Sl), ((some ⟨t4, 0, none⟩, 5, 5) : Sl)), (FM 4, ((some ⟨w4.heap.size, 0, none⟩, 2, 2) : Sl), ((some ⟨t5, 0, none⟩, 6, 6) : Sl))] : List (Fm × Sl × Sl))[k]?.map fun x => famRow x.1 x.2.1 x.2.2).bind (·[j]?) = some u → (w5.alloc (.cells (([(FM 0, ((none, 0, 0) : Sl), ((some ⟨t1, 0, none⟩, 5, 5) : Sl)), (FM 1, ((some ⟨w1.heap.size, 0, none⟩, 1, 1) : Sl), ((some ⟨t2, 0, none⟩, 6, 6) : Sl)), (FM 2, ((some ⟨w2.heap.size, 0, none⟩, 2, 2) : Sl), ((some ⟨t3, 0, none⟩, 5, 5) : Sl)), (FM 3, ((some ⟨w3.heap.size, 0, none⟩, 1, 1) : Sl), ((some ⟨t4, 0, none⟩, 5, 5) : Sl)), (FM 4, ((some ⟨w4.heap.size, 0, none⟩, 2, 2) : Sl), ((some ⟨t5, 0, none⟩, 6, 6) : Sl))] : List (Fm × Sl × Sl)).flatMap fun x => famRow x.1 x.2.1 x.2.2).toArray 76)).cell? ⟨w5.heap.size, k * 12 + j, none⟩ = some u := fun k hk j u hu => by
    have hl : ∀ x : Fm × Sl × Sl, (famRow x.1 x.2.1 x.2.2).length = 12 := fun _ => rfl
    have hj : j < 12 := by
      rw [List.getElem?_eq_getElem (by exact hk)] at hu
      have h1 := (List.getElem?_eq_some_iff.1 hu).1
      rwa [hl] at h1
    rw [World.cell?_alloc_at _ _ _ _ rfl]
    rw [List.getElem?_toArray, flat_at (fun x : Fm × Sl × Sl => famRow x.1 x.2.1 x.2.2) 12 hl _ k j hj]
    rw [List.getElem?_eq_getElem (by exact hk)] at hu ⊢
    exact hu
  have ha : Below w5.heap.size w5 (w5.alloc (.cells (([(FM 0, ((none, 0, 0) : Sl), ((some ⟨t1, 0, none⟩, 5, 5) : Sl)), (FM 1, ((some ⟨w1.heap.size, 0, none⟩, 1, 1) : Sl), ((some ⟨t2, 0, none⟩, 6, 6) : Sl)), (FM 2, ((some ⟨w2.heap.size, 0, none⟩, 2, 2) : Sl), ((some ⟨t3, 0, none⟩, 5, 5) : Sl)), (FM 3, ((some ⟨w3.heap.size, 0, none⟩, 1, 1) : Sl), ((some ⟨t4, 0, none⟩, 5, 5) : Sl)), (FM 4, ((some ⟨w4.heap.size, 0, none⟩, 2, 2) : Sl), ((some ⟨t5, 0, none⟩, 6, 6) : Sl))] : List (Fm × Sl × Sl)).flatMap fun x => famRow x.1 x.2.1 x.2.2).toArray 76)) := grows' w5 _
  refine ⟨w5.heap.size, rfl, fun k hk lo W hlo hW => ?_, by omega, by simp, bt d1 ha⟩
  have hW' : Kp lo (lo + 1) (w5.alloc (.cells (([(FM 0, ((none, 0, 0) : Sl), ((some ⟨t1, 0, none⟩, 5, 5) : Sl)), (FM 1, ((some ⟨w1.heap.size, 0, none⟩, 1, 1) : Sl), ((some ⟨t2, 0, none⟩, 6, 6) : Sl)), (FM 2, ((some ⟨w2.heap.size, 0, none⟩, 2, 2) : Sl), ((some ⟨t3, 0, none⟩, 5, 5) : Sl)), (FM 3, ((some ⟨w3.heap.size, 0, none⟩, 1, 1) : Sl), ((some ⟨t4, 0, none⟩, 5, 5) : Sl)), (FM 4, ((some ⟨w4.heap.size, 0, none⟩, 2, 2) : Sl), ((some ⟨t5, 0, none⟩, 6, 6) : Sl))] : List (Fm × Sl × Sl)).flatMap fun x => famRow x.1 x.2.1 x.2.2).toArray 76)) W := hW
  clear hW
  generalize w5.alloc (.cells (([(FM 0, ((none, 0, 0) : Sl), ((some ⟨t1, 0, none⟩, 5, 5) : Sl)), (FM 1, ((some ⟨w1.heap.size, 0, none⟩, 1, 1) : Sl), ((some ⟨t2, 0, none⟩, 6, 6) : Sl)), (FM 2, ((some ⟨w2.heap.size, 0, none⟩, 2, 2) : Sl), ((some ⟨t3, 0, none⟩, 5, 5) : Sl)), (FM 3, ((some ⟨w3.heap.size, 0, none⟩, 1, 1) : Sl), ((some ⟨t4, 0, none⟩, 5, 5) : Sl)), (FM 4, ((some ⟨w4.heap.size, 0, none⟩, 2, 2) : Sl), ((some ⟨t5, 0, none⟩, 6, 6) : Sl))] : List (Fm × Sl × Sl)).flatMap fun x => famRow x.1 x.2.1 x.2.2).toArray 76) = w6 at hrow ha hW'
  obtain rfl | rfl | rfl | rfl | rfl : k = 0 ∨ k = 1 ∨ k = 2 ∨ k = 3 ∨ k = 4 := by omega
  · have h := fam_kpQ ((r1.out.below e2).below ha) hW' (show lo + 1 ≤ _ by omega)
    exact ⟨(none, 0, 0), (some ⟨t1, 0, none⟩, 5, 5), R1, ⟨fun j u hu => cell_kpQ (hrow 0 (by omega) j u hu) hW' (by omega), rfl, ⟨rfl, .inl rfl⟩, rfl, h.rows, h.neat⟩, fun a ha => by injection ha with ha; rw [← ha]; have h9 := (r1.out.2.1.lt t1 rfl).1; show lo < t1; omega⟩
  · have h := fam_kpQ ((r2.out.below e3).below ha) hW' (show lo + 1 ≤ _ by omega)
    exact ⟨(some ⟨w1.heap.size, 0, none⟩, 1, 1), (some ⟨t2, 0, none⟩, 6, 6), R2, ⟨fun j u hu => cell_kpQ (hrow 1 (by omega) j u hu) hW' (by omega), rfl, cells_kpQ ((q2.out.below d2).below ha) hW' (by omega), rfl, h.rows, h.neat⟩, fun a ha => by injection ha with ha; rw [← ha]; have h9 := (r2.out.2.1.lt t2 rfl).1; show lo < t2; omega⟩
  · have h := fam_kpQ ((r3.out.below e4).below ha) hW' (show lo + 1 ≤ _ by omega)
    exact ⟨(some ⟨w2.heap.size, 0, none⟩, 2, 2), (some ⟨t3, 0, none⟩, 5, 5), R3, ⟨fun j u hu => cell_kpQ (hrow 2 (by omega) j u hu) hW' (by omega), rfl, cells_kpQ ((q3.out.below d3).below ha) hW' (by omega), rfl, h.rows, h.neat⟩, fun a ha => by injection ha with ha; rw [← ha]; have h9 := (r3.out.2.1.lt t3 rfl).1; show lo < t3; omega⟩
  · have h := fam_kpQ ((r4.out.below e5).below ha) hW' (show lo + 1 ≤ _ by omega)
    exact ⟨(some ⟨w3.heap.size, 0, none⟩, 1, 1), (some ⟨t4, 0, none⟩, 5, 5), R4, ⟨fun j u hu => cell_kpQ (hrow 3 (by omega) j u hu) hW' (by omega), rfl, cells_kpQ ((q4.out.below d4).below ha) hW' (by omega), rfl, h.rows, h.neat⟩, fun a ha => by injection ha with ha; rw [← ha]; have h9 := (r4.out.2.1.lt t4 rfl).1; show lo < t4; omega⟩
  · have h := fam_kpQ (r5.out.below ha) hW' (show lo + 1 ≤ _ by omega)
    exact ⟨(some ⟨w4.heap.size, 0, none⟩, 2, 2), (some ⟨t5, 0, none⟩, 6, 6), R5, ⟨fun j u hu => cell_kpQ (hrow 4 (by omega) j u hu) hW' (by omega), rfl, cells_kpQ ((q5.out.below d5).below ha) hW' (by omega), rfl, h.rows, h.neat⟩, fun a ha => by injection ha with ha; rw [← ha]; have h9 := (r5.out.2.1.lt t5 rfl).1; show lo < t5; omega⟩
end Go.Proofs.YtnnaoneegeenkaaDoor.Kq
