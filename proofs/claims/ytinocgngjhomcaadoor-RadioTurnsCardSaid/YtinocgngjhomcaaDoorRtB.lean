/- The law RadioTurns (P12.6). -/
import Derived.Test.YtinocgngjhomcaaDoorRtA
import Derived.Deep.CutBlock
import Derived.Deep.DeepCutAuto
namespace Go.Proofs.YtinocgngjhomcaaDoor.Rt
open Go.ChangeShapes Go.WideShapes Go.ChangeAt Go.RowKit Own Ro

structure Four (re im a b : Int) (g : Nat) (w : World) : Prop where
  c0 : w.cell? ⟨g, 0, none⟩ = some (.int .i32 re)
  c1 : w.cell? ⟨g, 1, none⟩ = some (.int .i32 im)
  c2 : w.cell? ⟨g, 2, none⟩ = some (.int .i64 a)
  c3 : w.cell? ⟨g, 3, none⟩ = some (.int .i64 b)
theorem Four.new (re im a b : Int) (w : World) (t : TypeId) : Four re im a b w.heap.size (w.alloc (.cells #[.int .i32 re, .int .i32 im, .int .i64 a, .int .i64 b] t)) := by
  constructor <;> (rw [World.cell?_alloc_at _ _ _ _ rfl]; rfl)
/-- Quarters, one behind the other. -/
def qn (q : Int) : Nat := (q % 4).toNat
theorem qn_lt (q : Int) : qn q < 4 := by unfold qn; omega
theorem qn_add {p : Nat × Nat} (h : Pp p) (a b : Int) : rotN (qn b) (rotN (qn a) p) = rotN (qn (a + b)) p := by
  rw [← rotN_add, rot_mod h (qn b + qn a)]
  congr 1
  unfold qn
  omega
theorem pw_ex {p : Nat × Nat} (h : Pp p) : ∃ t, Ieee.double.order t t = some .eq ∧ ∀ n, ∃ m1 m2, Ieee.double.mul (rotN n p).1 (rotN n p).1 = some m1 ∧ Ieee.double.mul (rotN n p).2 (rotN n p).2 = some m2 ∧ Ieee.double.add m1 m2 = some t := by
  obtain ⟨y1, a1, b1, s1⟩ := h.1.sq
  obtain ⟨y2, a2, b2, s2⟩ := h.2.sq
  obtain ⟨t, ht, st⟩ := s1.add s2
  have hc : Ieee.double.add y2 y1 = some t := by
    unfold Ieee.Format.add at ht ⊢
    rw [sum_comm]
    exact ht
  refine ⟨t, st.order, fun n => ?_⟩
  have key : ∀ m, m < 4 → ∃ m1 m2, Ieee.double.mul (rotN m p).1 (rotN m p).1 = some m1 ∧ Ieee.double.mul (rotN m p).2 (rotN m p).2 = some m2 ∧ Ieee.double.add m1 m2 = some t := by
    intro m hm
    match m, hm with
    | 0, _ => exact ⟨y1, y2, a1, a2, ht⟩
    | 1, _ => exact ⟨y2, y1, b2, a1, hc⟩
    | 2, _ => exact ⟨y1, y2, b1, b2, ht⟩
    | 3, _ =>
      refine ⟨y2, y1, ?_, b1, hc⟩
      show Ieee.double.mul (negF (negF p.2)) (negF (negF p.2)) = some y2
      rw [h.2.negneg]
      exact a2
  rw [rot_mod h n]
  exact key _ (by omega)
theorem unit_lit : unit = (4607182418800017408, 0) := by rfl
theorem unit_unit : ∀ n, n < 4 → ∃ m1 m2 m3 m4, Is unit.1 unit.2 (rotN n unit).1 (rotN n unit).2 (rotN n unit).1 (rotN n unit).2 m1 m2 m3 m4 := by
  intro n hn
  match n, hn with
  | 0, _ =>
    rw [u0]
    exact ⟨one false, zero false, zero false, zero false, by decide +kernel, by decide +kernel, by decide +kernel, by decide +kernel, by decide +kernel, by decide +kernel⟩
  | 1, _ =>
    rw [u1]
    exact ⟨zero true, zero false, one false, zero true, by decide +kernel, by decide +kernel, by decide +kernel, by decide +kernel, by decide +kernel, by decide +kernel⟩
  | 2, _ =>
    rw [u2]
    exact ⟨one true, zero true, zero true, zero true, by decide +kernel, by decide +kernel, by decide +kernel, by decide +kernel, by decide +kernel, by decide +kernel⟩
  | 3, _ =>
    rw [u3]
    exact ⟨zero false, zero true, one true, zero false, by decide +kernel, by decide +kernel, by decide +kernel, by decide +kernel, by decide +kernel, by decide +kernel⟩
def z3 (p : Nat × Nat) (m n : Nat) : Nat → Nat × Nat
  | 0 => p
  | 1 => rotN m unit
  | _ => rotN n unit
def a3 (p : Nat × Nat) (m n : Nat) : Nat → Nat × Nat
  | 0 => unit
  | 1 => p
  | 2 => rotN m p
  | _ => rotN n (rotN m p)
theorem is3 {p : Nat × Nat} (h : Nz p) (m n : Nat) (hm : m < 4) (hn : n < 4) : ∀ k, k < 3 → ∃ m1 m2 m3 m4, Is (a3 p m n k).1 (a3 p m n k).2 (z3 p m n k).1 (z3 p m n k).2 (a3 p m n (k + 1)).1 (a3 p m n (k + 1)).2 m1 m2 m3 m4 := by
  intro k hk
  match k, hk with
  | 0, _ => exact unit_times h 0 (by omega)
  | 1, _ => exact times_unit h m hm
  | 2, _ => exact times_unit (h.rotN m) n hn
def z2 (p : Nat × Nat) (m : Nat) : Nat → Nat × Nat
  | 0 => rotN m unit
  | _ => p
def a2 (p : Nat × Nat) (m : Nat) : Nat → Nat × Nat
  | 0 => unit
  | 1 => rotN m unit
  | _ => rotN m p
theorem is2 {p : Nat × Nat} (h : Nz p) (m : Nat) (hm : m < 4) : ∀ k, k < 2 → ∃ m1 m2 m3 m4, Is (a2 p m k).1 (a2 p m k).2 (z2 p m k).1 (z2 p m k).2 (a2 p m (k + 1)).1 (a2 p m (k + 1)).2 m1 m2 m3 m4 := by
  intro k hk
  match k, hk with
  | 0, _ => exact unit_unit m hm
  | 1, _ => exact unit_times h m hm
set_option maxRecDepth 100000 in
set_option maxHeartbeats 16000000 in
theorem turns_any (re im a b : Int) (hre : -2147483648 ≤ re ∧ re ≤ 2147483647) (him : -2147483648 ≤ im ∧ im ≤ 2147483647) (w : World) (hE : Ra.Tb w) :
    Calls Tryd.prog 7 #[.agg #[.int .i32 re, .int .i32 im, .int .i64 a, .int .i64 b]] w (fun e w' => e = .returned (.bool true) ∧ Below w.heap.size w w') := by
  obtain ⟨f1, pt1, nz1⟩ := part_some re (by omega)
  obtain ⟨f2, pt2, nz2⟩ := part_some im (by omega)
  have r1 := fun t V => fl_run .quo (r := partN re) f1 t V
  have r2 := fun t V => fl_run .quo (r := partN im) f2 t V
  have HP := Lib.hid (show Pp (partN re, partN im) from ⟨pt1, pt2⟩)
  have HNZ := Lib.hid (show ¬ re = 0 → ¬ im = 0 → Nz (partN re, partN im) from fun h1 h2 => ⟨nz1 h1, nz2 h2⟩)
  clear f1 f2 pt1 pt2 nz1 nz2 hre him
  obtain ⟨A, hA⟩ : ∃ A, a.tmod 1073741824 = A := ⟨_, rfl⟩
  obtain ⟨B, hB⟩ : ∃ B, b.tmod 1073741824 = B := ⟨_, rfl⟩
  have HAB := Lib.hid (show -1073741824 < A ∧ A < 1073741824 ∧ -1073741824 < B ∧ B < 1073741824 from by
    have := Int.lt_tmod_of_pos a (show (0 : Int) < 1073741824 by omega)
    have := Int.tmod_lt_of_pos a (show (0 : Int) < 1073741824 by omega)
    have := Int.lt_tmod_of_pos b (show (0 : Int) < 1073741824 by omega)
    have := Int.tmod_lt_of_pos b (show (0 : Int) < 1073741824 by omega)
    omega)
  generalize partN re = x1 at r1 HP HNZ
  generalize partN im = x2 at r2 HP HNZ
  have C1 := Lib.hid (fun V => turned_any (x1, x2) A V)
  have C2 := Lib.hid (fun V => turned_any (rotN (qn A) (x1, x2)) B V)
  have C3 := Lib.hid (fun V => turned_any (x1, x2) (A + B) V)
  have C4 := Lib.hid (fun V => turned_any (x1, x2) (4 * A.tmod 9) V)
  have C7 := Lib.hid (fun V => turned_any unit A V)
  have C8 := Lib.hid (fun V => turned_any unit B V)
  obtain ⟨t, ot, ht⟩ := pw_ex HP.out
  have C5 := Lib.hid (fun V => (fun ⟨m1, m2, h1, h2, h3⟩ => power_any h1 h2 h3 V : (∃ m1 m2, Ieee.double.mul (rotN (qn (A + B)) (x1, x2)).1 (rotN (qn (A + B)) (x1, x2)).1 = some m1 ∧ Ieee.double.mul (rotN (qn (A + B)) (x1, x2)).2 (rotN (qn (A + B)) (x1, x2)).2 = some m2 ∧ Ieee.double.add m1 m2 = some t) → _) (ht (qn (A + B))))
  have C6 := Lib.hid (fun V => (fun ⟨m1, m2, h1, h2, h3⟩ => power_any h1 h2 h3 V : (∃ m1 m2, Ieee.double.mul (rotN 0 (x1, x2)).1 (rotN 0 (x1, x2)).1 = some m1 ∧ Ieee.double.mul (rotN 0 (x1, x2)).2 (rotN 0 (x1, x2)).2 = some m2 ∧ Ieee.double.add m1 m2 = some t) → _) (ht 0))
  have HM3 := Lib.hid (fun (h1 : ¬ re = 0) (h2 : ¬ im = 0) (g : Nat) (V : World) (hc : ∀ k, k < 3 → V.cell? ⟨g, k, none⟩ = some (.complex .f64 (z3 (x1, x2) (qn A) (qn B) k).1 (z3 (x1, x2) (qn A) (qn B) k).2)) => mix_any (z3 (x1, x2) (qn A) (qn B)) (a3 (x1, x2) (qn A) (qn B)) g 3 V (by omega) hc unit_lit (is3 (HNZ.out h1 h2) (qn A) (qn B) (qn_lt _) (qn_lt _)))
  have HM2 := Lib.hid (fun (h1 : ¬ re = 0) (h2 : ¬ im = 0) (g : Nat) (V : World) (hc : ∀ k, k < 2 → V.cell? ⟨g, k, none⟩ = some (.complex .f64 (z2 (x1, x2) (qn A) k).1 (z2 (x1, x2) (qn A) k).2)) => mix_any (z2 (x1, x2) (qn A)) (a2 (x1, x2) (qn A)) g 2 V (by omega) hc unit_lit (is2 (HNZ.out h1 h2) (qn A) (qn_lt _)))
  have OX1 : FloatKind.f64.format.order (rotN (qn (A + B)) (x1, x2)).1 (rotN (qn (A + B)) (x1, x2)).1 = some .eq := (HP.out.rotN _).1.order
  have OX2 : FloatKind.f64.format.order (rotN (qn (A + B)) (x1, x2)).2 (rotN (qn (A + B)) (x1, x2)).2 = some .eq := (HP.out.rotN _).2.order
  have OY1 : FloatKind.f64.format.order (rotN (qn A) (x1, x2)).1 (rotN (qn A) (x1, x2)).1 = some .eq := (HP.out.rotN _).1.order
  have OY2 : FloatKind.f64.format.order (rotN (qn A) (x1, x2)).2 (rotN (qn A) (x1, x2)).2 = some .eq := (HP.out.rotN _).2.order
  have OZ1 : FloatKind.f64.format.order x1 x1 = some .eq := HP.out.1.order
  have OZ2 : FloatKind.f64.format.order x2 x2 = some .eq := HP.out.2.order
  have OT : FloatKind.f64.format.order t t = some .eq := ot
  have EQ := qn_add HP.out A B
  have q4 : (4 * A.tmod 9 % 4).toNat = 0 := by omega
  change Hid (∀ V, Calls Tryd.prog 30 #[.complex .f64 x1 x2, .int .i64 A] V (fun e w' => e = .returned (.complex .f64 (rotN (qn A) (x1, x2)).1 (rotN (qn A) (x1, x2)).2) ∧ w' = V)) at C1
  change Hid (∀ V, Calls Tryd.prog 30 #[.complex .f64 (rotN (qn A) (x1, x2)).1 (rotN (qn A) (x1, x2)).2, .int .i64 B] V (fun e w' => e = .returned (.complex .f64 (rotN (qn B) (rotN (qn A) (x1, x2))).1 (rotN (qn B) (rotN (qn A) (x1, x2))).2) ∧ w' = V)) at C2
  change Hid (∀ V, Calls Tryd.prog 30 #[.complex .f64 x1 x2, .int .i64 (A + B)] V (fun e w' => e = .returned (.complex .f64 (rotN (qn (A + B)) (x1, x2)).1 (rotN (qn (A + B)) (x1, x2)).2) ∧ w' = V)) at C3
  change Hid (∀ V, Calls Tryd.prog 30 #[.complex .f64 x1 x2, .int .i64 (4 * A.tmod 9)] V (fun e w' => e = .returned (.complex .f64 (rotN (4 * A.tmod 9 % 4).toNat (x1, x2)).1 (rotN (4 * A.tmod 9 % 4).toNat (x1, x2)).2) ∧ w' = V)) at C4
  rw [q4] at C4
  change Hid (∀ V, Calls Tryd.prog 30 #[.complex .f64 x1 x2, .int .i64 (4 * A.tmod 9)] V (fun e w' => e = .returned (.complex .f64 x1 x2) ∧ w' = V)) at C4
  change Hid (∀ V, Calls Tryd.prog 31 #[.complex .f64 x1 x2] V (fun e w' => e = .returned (.float .f64 t) ∧ w' = V)) at C6
  change Hid (∀ V, Calls Tryd.prog 30 #[.complex .f64 4607182418800017408 0, .int .i64 A] V (fun e w' => e = .returned (.complex .f64 (rotN (qn A) unit).1 (rotN (qn A) unit).2) ∧ w' = V)) at C7
  change Hid (∀ V, Calls Tryd.prog 30 #[.complex .f64 4607182418800017408 0, .int .i64 B] V (fun e w' => e = .returned (.complex .f64 (rotN (qn B) unit).1 (rotN (qn B) unit).2) ∧ w' = V)) at C8
  change Hid (∀ V, Calls Tryd.prog 31 #[.complex .f64 (rotN (qn (A + B)) (x1, x2)).1 (rotN (qn (A + B)) (x1, x2)).2] V (fun e w' => e = .returned (.float .f64 t) ∧ w' = V)) at C5
  rw [EQ] at C2
  have w1 : IntKind.i64.wrap (A + B) = A + B := by have := HAB.out; exact IntWalk.i64_in _ (by omega)
  have w2 : IntKind.i64.wrap (4 * A.tmod 9) = 4 * A.tmod 9 := by
    have := Int.lt_tmod_of_pos A (show (0 : Int) < 9 by omega)
    have := Int.tmod_lt_of_pos A (show (0 : Int) < 9 by omega)
    exact IntWalk.i64_in _ (by omega)
  have HMX := Lib.hid (show (a3 (x1, x2) (qn A) (qn B) 3) = rotN (qn (A + B)) (x1, x2) from EQ)
  clear EQ q4 ot ht
  have HE := Lib.hid hE
  clear hE
  go_enter Tryd.func7, Tryd.ntmps7
  have F0 := Lib.hid (Four.new re im a b w 57)
  have B0 := Lib.hid (grows' w (.cells #[.int .i32 re, .int .i32 im, .int .i64 a, .int .i64 b] 57))
  have T0 := Lib.hid (HE.out.alloc (.cells #[.int .i32 re, .int .i32 im, .int .i64 a, .int .i64 b] 57))
  obtain ⟨W0, hW0⟩ : ∃ W0, w.alloc (.cells #[.int .i32 re, .int .i32 im, .int .i64 a, .int .i64 b] 57) = W0 := ⟨_, rfl⟩
  rw [hW0] at F0 B0 T0
  obtain ⟨g, hg⟩ : ∃ g, w.heap.size = g := ⟨_, rfl⟩
  rw [hg] at F0
  go_upto_region 1 with fail
  clear hW0 hg HE
  obtain ⟨c0, c1, c2, c3⟩ := F0.out
  go_wp2_with (first | simp only [r1] | simp only [r2])
  clear r1 r2
  refine (C1.out W0).mono ?_
  rintro e w9 ⟨rfl, hw⟩
  rw [hw]
  clear hw w9
  go_wp2_with fail
  refine (C2.out W0).mono ?_
  rintro e w9 ⟨rfl, hw⟩
  rw [hw]
  clear hw w9
  go_wp2_with fail
  refine (C3.out W0).mono ?_
  rintro e w9 ⟨rfl, hw⟩
  rw [hw]
  clear hw w9
  go_wp2_with fail
  refine (C4.out W0).mono ?_
  rintro e w9 ⟨rfl, hw⟩
  rw [hw]
  clear hw w9
  go_wp2_with fail
  refine (C5.out W0).mono ?_
  rintro e w9 ⟨rfl, hw⟩
  rw [hw]
  clear hw w9
  go_wp2_with fail
  refine (C6.out W0).mono ?_
  rintro e w9 ⟨rfl, hw⟩
  rw [hw]
  clear hw w9
  by_cases hre : re = 0
  · have q0 : (re == 0) = true := by rw [hre]; rfl
    clear hre
    go_wp2_with fail
    refine (Ra.awake_any W0 T0.out).mono ?_
    rintro e w9 ⟨rfl, hw⟩
    rw [hw]
    clear hw w9
    go_wp2_with fail
    go_ret
    exact ⟨rfl, B0.out⟩
  · by_cases him : im = 0
    · have q0 : (re == 0) = false := by simpa using hre
      have q1 : (im == 0) = true := by rw [him]; rfl
      clear hre him
      go_wp2_with fail
      refine (Ra.awake_any W0 T0.out).mono ?_
      rintro e w9 ⟨rfl, hw⟩
      rw [hw]
      clear hw w9
      go_wp2_with fail
      go_ret
      exact ⟨rfl, B0.out⟩
    · have q0 : (re == 0) = false := by simpa using hre
      have q1 : (im == 0) = false := by simpa using him
      have M3 := Lib.hid (HM3.out hre him)
      have M2 := Lib.hid (HM2.out hre him)
      clear hre him
      go_wp2_with fail
      refine (C7.out W0).mono ?_
      rintro e w9 ⟨rfl, hw⟩
      rw [hw]
      clear hw w9
      go_wp2_with fail
      refine (C8.out W0).mono ?_
      rintro e w9 ⟨rfl, hw⟩
      rw [hw]
      clear hw w9
      go_wp2_with fail
      have D3 := Lib.hid (M3.out W0.heap.size (W0.alloc (.cells #[.complex .f64 x1 x2, .complex .f64 (rotN (qn A) unit).1 (rotN (qn A) unit).2, .complex .f64 (rotN (qn B) unit).1 (rotN (qn B) unit).2] 58)) (fun k hk => by
        rw [World.cell?_alloc_at _ _ _ _ rfl]
        match k, hk with
        | 0, _ => rfl
        | 1, _ => rfl
        | 2, _ => rfl))
      rw [HMX.out] at D3
      have B1 := Lib.hid (bt B0.out (grows' W0 (.cells #[.complex .f64 x1 x2, .complex .f64 (rotN (qn A) unit).1 (rotN (qn A) unit).2, .complex .f64 (rotN (qn B) unit).1 (rotN (qn B) unit).2] 58)))
      have T1 := Lib.hid (T0.out.alloc (.cells #[.complex .f64 x1 x2, .complex .f64 (rotN (qn A) unit).1 (rotN (qn A) unit).2, .complex .f64 (rotN (qn B) unit).1 (rotN (qn B) unit).2] 58))
      generalize W0.alloc (.cells #[.complex .f64 x1 x2, .complex .f64 (rotN (qn A) unit).1 (rotN (qn A) unit).2, .complex .f64 (rotN (qn B) unit).1 (rotN (qn B) unit).2] 58) = W1 at D3 B1 T1 ⊢
      generalize W0.heap.size = g3 at D3 ⊢
      clear c0 c1 c2 c3 B0 T0 M3 F0
      refine D3.out.mono ?_
      rintro e w9 ⟨rfl, hw⟩
      rw [hw]
      clear hw w9 D3
      go_wp2_with fail
      refine (C7.out W1).mono ?_
      rintro e w9 ⟨rfl, hw⟩
      rw [hw]
      clear hw w9
      go_wp2_with fail
      have D2 := Lib.hid (M2.out W1.heap.size (W1.alloc (.cells #[.complex .f64 (rotN (qn A) unit).1 (rotN (qn A) unit).2, .complex .f64 x1 x2] 58)) (fun k hk => by
        rw [World.cell?_alloc_at _ _ _ _ rfl]
        match k, hk with
        | 0, _ => rfl
        | 1, _ => rfl))
      have B2 := Lib.hid (bt B1.out (grows' W1 (.cells #[.complex .f64 (rotN (qn A) unit).1 (rotN (qn A) unit).2, .complex .f64 x1 x2] 58)))
      have T2 := Lib.hid (T1.out.alloc (.cells #[.complex .f64 (rotN (qn A) unit).1 (rotN (qn A) unit).2, .complex .f64 x1 x2] 58))
      generalize W1.alloc (.cells #[.complex .f64 (rotN (qn A) unit).1 (rotN (qn A) unit).2, .complex .f64 x1 x2] 58) = W2 at D2 B2 T2 ⊢
      generalize W1.heap.size = g2 at D2 ⊢
      clear B1 T1 M2
      have D2' := Lib.hid (show Calls Tryd.prog 32 #[.slice (some ⟨g2, 0, none⟩) 2 2] W2 (fun e w' => e = .returned (.complex .f64 (rotN (qn A) (x1, x2)).1 (rotN (qn A) (x1, x2)).2) ∧ w' = W2) from D2.out)
      clear D2
      refine D2'.out.mono ?_
      rintro e w9 ⟨rfl, hw⟩
      rw [hw]
      clear hw w9 D2'
      go_wp2_with fail
      refine (C1.out W2).mono ?_
      rintro e w9 ⟨rfl, hw⟩
      rw [hw]
      clear hw w9
      go_wp2_with fail
      refine (Ra.awake_any W2 T2.out).mono ?_
      rintro e w9 ⟨rfl, hw⟩
      rw [hw]
      clear hw w9
      go_wp2_with fail
      go_ret
      exact ⟨rfl, B2.out⟩
end Go.Proofs.YtinocgngjhomcaaDoor.Rt
