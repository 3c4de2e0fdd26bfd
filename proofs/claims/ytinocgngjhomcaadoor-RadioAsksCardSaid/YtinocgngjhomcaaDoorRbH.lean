/- Hertz, Near, Shift: the document's (P12.1); the law's bits. -/
import Derived.Test.YtinocgngjhomcaaDoorRbN
namespace Go.Proofs.YtinocgngjhomcaaDoor.Ra
open Go.ChangeShapes Go.WideShapes Go.ChangeAt Go.RowKit Own Ro

set_option maxRecDepth 100000 in
set_option maxHeartbeats 8000000 in
theorem refHertz_any (i : Int) (w : World) : Calls Tryd.prog 10 #[.int .i64 i] w (fun e w' => e = .returned (.tuple #[.int .i64 (herV i).1, .int .i64 (herV i).2]) ∧ Below w.heap.size w w') := by
  have HM := Lib.hid (nums12_any w)
  by_cases h0 : i < 0
  · have HV : herV i = (0, 1) := by unfold herV; rw [if_neg (by omega)]
    rw [HV]
    go_enter Tryd.func10, Tryd.ntmps10
    go_wp2_with fail
    go_ret2
    exact ⟨rfl, Below.refl _ _⟩
  · by_cases h1 : 20 ≤ i
    · have HV : herV i = (0, 1) := by unfold herV; rw [if_neg (by omega)]
      rw [HV]
      go_enter Tryd.func10, Tryd.ntmps10
      go_wp2_with fail
      go_ret2
      exact ⟨rfl, Below.refl _ _⟩
    · have HV := Lib.hid (show herV i = (ent i, 0) by unfold herV; rw [if_pos (by omega)])
      have i1 : 0 ≤ i := by omega
      have i2 : i < 20 := by omega
      have HTA := Lib.hid (show tabV[i.toNat]? = some (.int .i64 (ent i)) from by have := tab_at i.toNat (by omega); rwa [show ((i.toNat : Nat) : Int) = i by omega] at this)
      go_enter Tryd.func10, Tryd.ntmps10
      go_wp2_with fail
      refine HM.out.mono ?_
      rintro e w2 ⟨g, c, rfl, hg, h3, h4⟩
      have B := Lib.hid h4
      have c0 : w2.cell? ⟨g, i.toNat, none⟩ = some (.int .i64 (ent i)) := by rw [h3.cellAt i.toNat (by omega)]; exact HTA.out
      clear h3 h4 HM
      go_wp2_with fail
      go_ret2
      exact ⟨by rw [HV.out]; rfl, B.out⟩
set_option maxRecDepth 100000 in
set_option maxHeartbeats 8000000 in
theorem refAway_any (a x : Int) (w : World) (h0 : 0 ≤ a) (h1 : a ≤ 9223372036854775807) (h2 : 0 ≤ x) (h3 : x ≤ 9223372036854775807) : Calls Tryd.prog 36 #[.int .i64 a, .int .i64 x] w (fun e w' => e = .returned (.int .i64 (max (x - a) (a - x))) ∧ w' = w) := by
  go_enter Tryd.func36, Tryd.ntmps36
  go_wp2_with fail
  · go_ret
    exact ⟨by rw [show max (x - a) (a - x) = x - a by omega]; rfl, rfl⟩
  · go_ret
    exact ⟨by rw [show max (x - a) (a - x) = a - x by omega]; rfl, rfl⟩
set_option maxRecDepth 100000 in
set_option maxHeartbeats 8000000 in
theorem refNear_bad (x : Int) (w : World) (h : x < 0) : Calls Tryd.prog 12 #[.int .i64 x] w (fun e w' => e = .returned (.tuple #[.int .i64 0, .int .i64 1]) ∧ w' = w) := by
  go_enter Tryd.func12, Tryd.ntmps12
  go_wp2_with fail
  go_ret2
  exact ⟨rfl, rfl⟩
set_option maxRecDepth 100000 in
set_option maxHeartbeats 8000000 in
theorem refNear_ok (x : Int) (w : World) (h0 : 0 ≤ x) (h1 : x ≤ 9223372036854775807) : Calls Tryd.prog 12 #[.int .i64 x] w (fun e w' => e = .returned (.tuple #[.int .i64 (nr x 20 : Nat), .int .i64 0]) ∧ Below w.heap.size w w') := by
  have HM := Lib.hid (nums12_any w)
  have HX := Lib.hid (And.intro h0 h1)
  have hx : ¬ x < 0 := by omega
  clear h0 h1
  go_enter Tryd.func12, Tryd.ntmps12
  go_wp2_with fail
  refine HM.out.mono ?_
  rintro e w2 ⟨g, c, rfl, hg, h3, h4⟩
  have B := Lib.hid h4
  have HC := Lib.hid (fun (k : Nat) (hk : k < 20) => show w2.cell? ⟨g, k, none⟩ = some (.int .i64 (ent k)) from by rw [h3.cellAt k (by omega)]; exact tab_at k hk)
  clear h3 h4 HM hx hg
  go_wp2_with fail
  go_loopw [5, 6] (fun v5 v6 wr => ∃ k : Nat, 1 ≤ k ∧ k ≤ 20 ∧ v6 = .int .i64 (k : Int) ∧ v5 = .int .i64 (nr x k : Nat) ∧ Below w2.heap.size w2 wr) (fun _ v6 _ => 20 - (RowKit.intOf v6).toNat)
  case atStart => exact ⟨1, by omega, by omega, rfl, by rw [nr_one]; rfl, Below.refl _ _⟩
  case round =>
    obtain ⟨k, hk1, hk, rfl, rfl, hbr⟩ := hrel
    have HBR := Lib.hid hbr
    clear hbr
    by_cases hlt : k < 20
    · have l1 : (0 : Int) ≤ (k : Int) := by omega
      have l2 : (k : Int) < 20 := by omega
      have m1 : nr x k < 20 := by have := nr_lt x k; omega
      have HS := Lib.hid (show nr x (k + 1) = if dst x k < dst x (nr x k : Nat) then k else nr x k from rfl)
      generalize nr x k = m at HS m1
      have ck : wr.cell? ⟨g, k, none⟩ = some (.int .i64 (ent k)) := by have := HC.out k hlt; rw [HBR.out.cell (cell_lt this)]; exact this
      have cm : wr.cell? ⟨g, m, none⟩ = some (.int .i64 (ent m)) := by have := HC.out m m1; rw [HBR.out.cell (cell_lt this)]; exact this
      have m2 : (0 : Int) ≤ (m : Int) := by omega
      have m3 : (m : Int) < 20 := by omega
      have eb1 := ent_bd k l1 l2
      have eb2 := ent_bd m m2 m3
      obtain ⟨D, hD⟩ : ∃ D : Int → Int, ∀ i : Int, D (ent i) = dst x i := ⟨fun a => max (x - a) (a - x), fun i => rfl⟩
      have HA := Lib.hid (show ∀ (a : Int) (W : World), a = ent k ∨ a = ent m → Calls Tryd.prog 36 #[.int .i64 a, .int .i64 x] W (fun e w' => e = .returned (.int .i64 (D a)) ∧ w' = W) from by
        rintro a W (rfl | rfl)
        · rw [hD]
          exact refAway_any _ x W (by omega) (by omega) HX.out.1 HX.out.2
        · rw [hD]
          exact refAway_any _ x W (by omega) (by omega) HX.out.1 HX.out.2)
      rw [← hD k, ← hD m] at HS
      clear eb1 eb2 hD
      generalize ent (k : Nat) = ek at ck HA HS
      generalize ent (m : Nat) = em at cm HA HS
      have HRB := Lib.hid (And.intro hk1 hlt)
      clear hk1 hk hlt
      by_cases hd : D ek < D em
      · have hdd : decide (D ek < D em) = true := decide_eq_true hd
        have HSV := Lib.hid (show nr x (k + 1) = k from by rw [HS.out, if_pos hd])
        go_wp2_with fail
        go_quiet (first | (go_at_call 36; refine Calls.quiet_of_same (HA.out _ _ (by first | exact .inl rfl | exact .inr rfl))))
        go_wp2_with fail
        go_roundw
        case rel => exact ⟨k + 1, by omega, by have := HRB.out; omega, by go_num, by rw [HSV.out], below_dr HBR.out _⟩
        case measure => simp [RowKit.intOf]; have := HRB.out; omega
      · have hdd : decide (D ek < D em) = false := decide_eq_false hd
        have HSV := Lib.hid (show nr x (k + 1) = m from by rw [HS.out, if_neg hd])
        go_wp2_with fail
        go_quiet (first | (go_at_call 36; refine Calls.quiet_of_same (HA.out _ _ (by first | exact .inl rfl | exact .inr rfl))))
        go_wp2_with fail
        go_roundw
        case rel => exact ⟨k + 1, by omega, by have := HRB.out; omega, by go_num, by rw [HSV.out], below_dr HBR.out _⟩
        case measure => simp [RowKit.intOf]; have := HRB.out; omega
    · obtain rfl : k = 20 := by omega
      go_wp2_with fail
      go_ret2
      exact ⟨rfl, bt B.out HBR.out⟩
theorem refNear_any (x : Int) (w : World) (h1 : x ≤ 9223372036854775807) : Calls Tryd.prog 12 #[.int .i64 x] w (fun e w' => e = .returned (.tuple #[.int .i64 (neaV x).1, .int .i64 (neaV x).2]) ∧ Below w.heap.size w w') := by
  by_cases hx : x < 0
  · refine (refNear_bad x w hx).mono ?_
    rintro e w' ⟨rfl, hb⟩
    exact ⟨by unfold neaV; rw [if_pos hx], by rw [hb]; exact Below.refl _ _⟩
  · refine (refNear_ok x w (by omega) h1).mono ?_
    rintro e w' ⟨rfl, hb⟩
    exact ⟨by unfold neaV; rw [if_neg hx], hb⟩
set_option maxRecDepth 100000 in
set_option maxHeartbeats 8000000 in
theorem refShift_ok (i : Int) (s : Nat) (w : World) (h0 : 0 ≤ i) (h1 : i < 20) (g1 : wi1 s = true) (g2 : wi2 s = true) : Calls Tryd.prog 14 #[.int .i64 i, .float .f64 s] w (fun e w' => e = .returned (.tuple #[.float .f64 (mulN i s), .int .i64 0]) ∧ Below w.heap.size w w') := by
  have HM := Lib.hid (fun V => nums12_any V)
  have HTA := Lib.hid (show tabV[i.toNat]? = some (.int .i64 (ent i)) from by have := tab_at i.toNat (by omega); rwa [show ((i.toNat : Nat) : Int) = i by omega] at this)
  have q1 : FloatKind.f64.format.order s 13957181328416833536 = some .gt := by unfold wi1 at g1; simpa using g1
  have q2 : FloatKind.f64.format.order s 4733809291562057728 = some .lt := by unfold wi2 at g2; simpa using g2
  have r1 := fun V => quo_run s g1 g2 22 V
  have r2 := fun V => mul_run i s h0 h1 g1 g2 22 V
  generalize mulN i s = mm at r2 ⊢
  generalize quoN s = qq at r1 r2
  have i1 : ¬ i < 0 := by omega
  have i2 : ¬ 20 ≤ i := by omega
  clear g1 g2
  go_enter Tryd.func14, Tryd.ntmps14
  go_wp2_with fail
  refine (HM.out w).mono ?_
  rintro e w2 ⟨g, c, rfl, hg, h3, h4⟩
  have B := Lib.hid h4
  have c0 : w2.cell? ⟨g, i.toNat, none⟩ = some (.int .i64 (ent i)) := by rw [h3.cellAt i.toNat (by omega)]; exact HTA.out
  clear h3 h4
  go_wp2_with fail
  go_ret2
  exact ⟨rfl, B.out⟩
set_option maxRecDepth 100000 in
set_option maxHeartbeats 8000000 in
theorem refShift_bad (i : Int) (s : Nat) (w : World) (hb : ¬ ((0 ≤ i ∧ i < 20) ∧ wi1 s = true ∧ wi2 s = true)) : Calls Tryd.prog 14 #[.int .i64 i, .float .f64 s] w (fun e w' => e = .returned (.tuple #[.float .f64 0, .int .i64 1]) ∧ w' = w) := by
  by_cases hi : i < 0
  · clear hb
    go_enter Tryd.func14, Tryd.ntmps14
    go_wp2_with fail
    go_ret2
    exact ⟨rfl, rfl⟩
  · by_cases hi2 : 20 ≤ i
    · clear hb
      go_enter Tryd.func14, Tryd.ntmps14
      go_wp2_with fail
      go_ret2
      exact ⟨rfl, rfl⟩
    · by_cases g1 : wi1 s = true
      · have g2 : ¬ wi2 s = true := fun h => hb ⟨⟨by omega, by omega⟩, g1, h⟩
        have q1 : FloatKind.f64.format.order s 13957181328416833536 = some .gt := by unfold wi1 at g1; simpa using g1
        have q2 : ¬ FloatKind.f64.format.order s 4733809291562057728 = some .lt := by unfold wi2 at g2; simpa using g2
        have q3 : (FloatKind.f64.format.order s 4733809291562057728 == some .lt) = false := by simpa using q2
        clear g1 g2 hb
        go_enter Tryd.func14, Tryd.ntmps14
        go_wp2_with fail
        go_ret2
        exact ⟨rfl, rfl⟩
      · have q1 : ¬ FloatKind.f64.format.order s 13957181328416833536 = some .gt := by unfold wi1 at g1; simpa using g1
        have q3 : (FloatKind.f64.format.order s 13957181328416833536 == some .gt) = false := by simpa using q1
        clear g1 hb
        go_enter Tryd.func14, Tryd.ntmps14
        go_wp2_with fail
        go_ret2
        exact ⟨rfl, rfl⟩
theorem refShift_any (i : Int) (s : Nat) (w : World) : Calls Tryd.prog 14 #[.int .i64 i, .float .f64 s] w (fun e w' => e = .returned (.tuple #[.float .f64 (shiV i s).1, .int .i64 (shiV i s).2]) ∧ Below w.heap.size w w') := by
  by_cases hb : (0 ≤ i ∧ i < 20) ∧ wi1 s = true ∧ wi2 s = true
  · refine (refShift_ok i s w hb.1.1 hb.1.2 hb.2.1 hb.2.2).mono ?_
    rintro e w' ⟨rfl, hw⟩
    exact ⟨by unfold shiV; rw [if_pos hb], hw⟩
  · refine (refShift_bad i s w hb).mono ?_
    rintro e w' ⟨rfl, hw⟩
    exact ⟨by unfold shiV; rw [if_neg hb], by rw [hw]; exact Below.refl _ _⟩
theorem run_bits (n : Nat) (w : World) : (callFunc 38 #[.float .f64 n]).run Tryd.prog w = .ok (.value (.int .u64 n)) w :=
  run_callFunc_extern (e := Extern.MathFloatBits.float64bits) Tryd.func38 (by kernel_rfl) (by kernel_rfl) (by kernel_rfl) (by kernel_rfl) _ w
set_option maxRecDepth 100000 in
set_option maxHeartbeats 8000000 in
theorem bits_any (n : Nat) (w : World) : Calls Tryd.prog 17 #[.float .f64 n, .float .f64 n] w (fun e w' => e = .returned (.bool true) ∧ w' = w) := by
  have hb := run_bits n
  go_enter Tryd.func17, Tryd.ntmps17
  go_wp2_with (simp only [hb])
  go_ret
  exact ⟨rfl, rfl⟩
end Go.Proofs.YtinocgngjhomcaaDoor.Ra
