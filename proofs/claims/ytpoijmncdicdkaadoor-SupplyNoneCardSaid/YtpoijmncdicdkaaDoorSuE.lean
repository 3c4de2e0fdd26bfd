/- Ramp (P9.3): the program's and the document's. -/
import Derived.Test.YtpoijmncdicdkaaDoorSuD
namespace Go.Proofs.YtpoijmncdicdkaaDoor.Su
open Go.ChangeShapes Go.WideShapes Go.ChangeAt Go.RowKit Own Ro

def dif (i k : Int) : Int := max (ent k - ent i) (ent i - ent k)
def okP (i : Int) : Bool := decide (0 ≤ i ∧ i < 24)
def rampN (i k : Int) (s : Nat) : Nat := (FloatKind.f64.format.div (floatOfInt FloatKind.f64 (dif i k)) s).getD 0
def rampV (i k : Int) (s : Nat) : Nat × Int := if okP i && okP k && slewB s then (rampN i k s, 0) else (0, 1)
theorem read_near (neg : Bool) (m : Nat) (e : Int) : ∀ a b, Ieee.double.read (Ieee.double.nearest neg m e) ≠ .nan a b := by
  have key : ∀ r, r ≤ Ieee.double.infRung → ∀ a b, Ieee.double.read (Ieee.double.word neg r) ≠ .nan a b := by
    intro r hr a b
    have hlt : r < Ieee.double.signWeight := Nat.lt_of_le_of_lt hr (Ieee.Format.infRung_lt _)
    have hm : Ieee.double.word neg r % Ieee.double.signWeight = r := by
      unfold Ieee.Format.word
      cases neg
      · exact Nat.mod_eq_of_lt hlt
      · show (_ + _) % _ = _
        rw [Nat.add_mod_left]
        exact Nat.mod_eq_of_lt hlt
    unfold Ieee.Format.read
    rw [hm]
    dsimp only
    split
    · intro h; cases h
    · split
      · intro h; cases h
      · split
        · intro h; cases h
        · exfalso; omega
  unfold Ieee.Format.nearest
  split
  · exact key 0 (Nat.zero_le _)
  · exact key _ (Nat.min_le_right _ _)
/-- What may be a slew is a number above nought. -/
theorem slew_num {s : Nat} (h : slewB s = true) : ∃ t n j, Ieee.double.read s = .number t n j ∧ n ≠ 0 := by
  unfold slewB at h
  simp only [Bool.and_eq_true, Bool.or_eq_true, beq_iff_eq] at h
  obtain ⟨h1, h2⟩ := h
  replace h1 : (Ieee.double.read s).order (Ieee.double.read 0) = some .gt := h1
  replace h2 : (Ieee.double.read s).order (Ieee.double.read 9218868437227405311) = some .lt ∨ (Ieee.double.read s).order (Ieee.double.read 9218868437227405311) = some .eq := h2
  generalize Ieee.double.read s = d at h1 h2
  obtain ⟨x, y, z, hm⟩ : ∃ x y z, Ieee.double.read 9218868437227405311 = .number x y z := ⟨_, _, _, by rfl⟩
  rw [hm] at h2
  cases d with
  | nan a b => simp [Ieee.Datum.order] at h1
  | infinity a =>
    cases a
    · simp [Ieee.Datum.order] at h2
    · rw [show Ieee.double.read 0 = .number false 0 (-1074) by rfl] at h1
      simp [Ieee.Datum.order] at h1
  | number t n j =>
    refine ⟨t, n, j, rfl, fun h0 => ?_⟩
    subst h0
    rw [show Ieee.double.read 0 = .number false 0 (-1074) by rfl] at h1
    cases t <;> simp [Ieee.Datum.order, Ieee.signed] at h1
theorem div_some {s : Nat} (h : slewB s = true) (n : Int) : ∃ r, FloatKind.f64.format.div (floatOfInt FloatKind.f64 n) s = some r := by
  obtain ⟨t, m, j, hs, hm⟩ := slew_num h
  have hn := read_near (n < 0) n.natAbs 0
  unfold Ieee.Format.div
  show ∃ r, (((Ieee.double.read (Ieee.double.nearest (n < 0) n.natAbs 0)).quotient (Ieee.double.fractionBits + 2) (Ieee.double.read s)).map Ieee.double.write) = some r
  rw [hs]
  generalize Ieee.double.read (Ieee.double.nearest (n < 0) n.natAbs 0) = d at hn
  cases d with
  | nan a b => exact absurd rfl (hn a b)
  | infinity a => exact ⟨_, rfl⟩
  | number a b c => exact ⟨_, by simp only [Ieee.Datum.quotient, if_neg hm]; rfl⟩
theorem ramp_run {s : Nat} (h : slewB s = true) (i k : Int) (t : TypeId) (w : World) : (binOp .quo t (.float .f64 (floatOfInt FloatKind.f64 (dif i k))) (.float .f64 s)).run Tryd.prog w = .ok (.float .f64 (rampN i k s)) w :=
  run_float_arith _ _ _ _ _ _ _ (by
    obtain ⟨r, hr⟩ := div_some h (dif i k)
    unfold rampN
    rw [hr]
    exact hr)
theorem okP_t {i : Int} (h : okP i = true) : 0 ≤ i ∧ i < 24 := of_decide_eq_true h
set_option maxRecDepth 100000 in
set_option maxHeartbeats 8000000 in
theorem ramp_bad (i k : Int) (s : Nat) (w : World) (h : (okP i && okP k && slewB s) = false) : Calls Tryd.prog 17 #[.int .i64 i, .int .i64 k, .float .f64 s] w (fun e w' => e = .returned (.tuple #[.float .f64 0, .int .i64 1]) ∧ w' = w) := by
  have P1 := Lib.hid (isPlace_any i w)
  have P2 := Lib.hid (isPlace_any k w)
  have P3 := Lib.hid (isSlew_any s w)
  change Hid (Calls _ _ _ _ (fun e w' => e = .returned (.bool (okP i)) ∧ w' = w)) at P1
  change Hid (Calls _ _ _ _ (fun e w' => e = .returned (.bool (okP k)) ∧ w' = w)) at P2
  generalize okP i = p1 at *
  generalize okP k = p2 at *
  generalize slewB s = p3 at *
  go_enter Tryd.func17, Tryd.ntmps17
  go_wp2_with fail
  refine P1.out.mono ?_
  rintro e w1 ⟨rfl, rfl⟩
  cases p1 with
  | false =>
    go_wp2_with fail
    go_ret2
    exact ⟨rfl, rfl⟩
  | true =>
    go_wp2_with fail
    refine P2.out.mono ?_
    rintro e w1 ⟨rfl, rfl⟩
    cases p2 with
    | false =>
      go_wp2_with fail
      go_ret2
      exact ⟨rfl, rfl⟩
    | true =>
      go_wp2_with fail
      refine P3.out.mono ?_
      rintro e w1 ⟨rfl, rfl⟩
      simp only [Bool.true_and] at h
      subst h
      go_wp2_with fail
      go_ret2
      exact ⟨rfl, rfl⟩
set_option maxRecDepth 100000 in
set_option maxHeartbeats 8000000 in
theorem ramp_ok (i k : Int) (s : Nat) (w : World) (hT : Tb w) (h1 : okP i = true) (h2 : okP k = true) (h3 : slewB s = true) : Calls Tryd.prog 17 #[.int .i64 i, .int .i64 k, .float .f64 s] w (fun e w' => e = .returned (.tuple #[.float .f64 (rampN i k s), .int .i64 0]) ∧ ∃ q, w' = w.drewN q) := by
  have P1 := Lib.hid (isPlace_any i w)
  have P2 := Lib.hid (isPlace_any k w)
  have P3 := Lib.hid (isSlew_any s w)
  change Hid (Calls _ _ _ _ (fun e w' => e = .returned (.bool (okP i)) ∧ w' = w)) at P1
  change Hid (Calls _ _ _ _ (fun e w' => e = .returned (.bool (okP k)) ∧ w' = w)) at P2
  rw [h1] at P1
  rw [h2] at P2
  rw [h3] at P3
  obtain ⟨i1, i2⟩ := okP_t h1
  obtain ⟨k1, k2⟩ := okP_t h2
  have HC1 := hT.at i1 i2
  have HC2 := hT.at k1 k2
  have HP := Lib.hid (fun V => ramp_run h3 i k 22 V)
  have HD := Lib.hid (show dif i k = max (ent k - ent i) (ent i - ent k) from rfl)
  obtain ⟨e1, e2⟩ := ent_bd i i1 i2
  obtain ⟨e3, e4⟩ := ent_bd k k1 k2
  generalize rampN i k s = rn at HP ⊢
  generalize dif i k = d at HP HD
  generalize ent i = a at *
  generalize ent k = b at *
  clear hT h1 h2 h3
  go_enter Tryd.func17, Tryd.ntmps17
  go_wp2_with fail
  refine P1.out.mono ?_
  rintro e w1 ⟨rfl, rfl⟩
  go_wp2_with fail
  refine P2.out.mono ?_
  rintro e w1 ⟨rfl, rfl⟩
  go_wp2_with fail
  refine P3.out.mono ?_
  rintro e w1 ⟨rfl, rfl⟩
  go_wp2_with fail
  go_region
  rw [show (if b - a < a - b then a - b else b - a) = d by rw [HD.out]; split <;> omega]
  have HPQ := HP.out w1.drew
  go_wp2_with fail
  go_ret2
  exact ⟨rfl, 1, rfl⟩
set_option maxRecDepth 100000 in
set_option maxHeartbeats 8000000 in
theorem refRamp_bad (i k : Int) (s : Nat) (w : World) (h : (okP i && okP k && slewB s) = false) : Calls Tryd.prog 18 #[.int .i64 i, .int .i64 k, .float .f64 s] w (fun e w' => e = .returned (.tuple #[.float .f64 0, .int .i64 1]) ∧ w' = w) := by
  have P1 := Lib.hid (there_any i w)
  have P2 := Lib.hid (there_any k w)
  have P3 := Lib.hid (isInf_any s w)
  change Hid (Calls _ _ _ _ (fun e w' => e = .returned (.bool (okP i)) ∧ w' = w)) at P1
  change Hid (Calls _ _ _ _ (fun e w' => e = .returned (.bool (okP k)) ∧ w' = w)) at P2
  rw [slew_eq] at h
  generalize okP i = p1 at *
  generalize okP k = p2 at *
  generalize infB s = p3 at *
  go_enter Tryd.func18, Tryd.ntmps18
  go_wp2_with fail
  refine P1.out.mono ?_
  rintro e w1 ⟨rfl, rfl⟩
  cases p1 with
  | false =>
    go_wp2_with fail
    go_ret2
    exact ⟨rfl, rfl⟩
  | true =>
    go_wp2_with fail
    refine P2.out.mono ?_
    rintro e w1 ⟨rfl, rfl⟩
    cases p2 with
    | false =>
      go_wp2_with fail
      go_ret2
      exact ⟨rfl, rfl⟩
    | true =>
      simp only [Bool.true_and] at h
      by_cases hg : FloatKind.f64.format.order s 0 = some .gt
      · have hb : (FloatKind.f64.format.order s 0 == some .gt) = true := by rw [hg]; rfl
        rw [hb] at h
        have h3 : p3 = true := by simpa using h
        subst h3
        clear h hb
        go_wp2_with fail
        refine P3.out.mono ?_
        rintro e w1 ⟨rfl, rfl⟩
        go_wp2_with fail
        go_ret2
        exact ⟨rfl, rfl⟩
      · have hb : (FloatKind.f64.format.order s 0 == some .gt) = false := by simpa using hg
        clear h hg
        go_wp2_with fail
        go_ret2
        exact ⟨rfl, rfl⟩
set_option maxRecDepth 100000 in
set_option maxHeartbeats 8000000 in
theorem refRamp_ok (i k : Int) (s : Nat) (w : World) (h1 : okP i = true) (h2 : okP k = true) (h3 : slewB s = true) : Calls Tryd.prog 18 #[.int .i64 i, .int .i64 k, .float .f64 s] w (fun e w' => e = .returned (.tuple #[.float .f64 (rampN i k s), .int .i64 0]) ∧ ∃ q, w' = w.drewN q) := by
  have P1 := Lib.hid (there_any i w)
  have P2 := Lib.hid (there_any k w)
  have P3 := Lib.hid (isInf_any s w)
  change Hid (Calls _ _ _ _ (fun e w' => e = .returned (.bool (okP i)) ∧ w' = w)) at P1
  change Hid (Calls _ _ _ _ (fun e w' => e = .returned (.bool (okP k)) ∧ w' = w)) at P2
  rw [h1] at P1
  rw [h2] at P2
  obtain ⟨i1, i2⟩ := okP_t h1
  obtain ⟨k1, k2⟩ := okP_t h2
  have R1 := Lib.hid (fun V => refEntry_any i V i1 i2)
  have R2 := Lib.hid (fun V => refEntry_any k V k1 k2)
  have HP := Lib.hid (fun V => ramp_run h3 i k 22 V)
  have HD := Lib.hid (show dif i k = max (ent k - ent i) (ent i - ent k) from rfl)
  obtain ⟨e1, e2⟩ := ent_bd i i1 i2
  obtain ⟨e3, e4⟩ := ent_bd k k1 k2
  rw [slew_eq] at h3
  have hb : (FloatKind.f64.format.order s 0 == some .gt) = true := by
    cases hq : (FloatKind.f64.format.order s 0 == some .gt)
    · rw [hq] at h3; cases h3
    · rfl
  have hf : infB s = false := by rw [hb] at h3; simpa using h3
  have hg : FloatKind.f64.format.order s 0 = some .gt := by simpa using hb
  rw [hf] at P3
  generalize rampN i k s = rn at HP ⊢
  generalize dif i k = d at HP HD
  generalize ent i = a at *
  generalize ent k = b at *
  clear h1 h2 h3 hb hf
  go_enter Tryd.func18, Tryd.ntmps18
  go_wp2_with fail
  refine P1.out.mono ?_
  rintro e w1 ⟨rfl, rfl⟩
  go_wp2_with fail
  refine P2.out.mono ?_
  rintro e w1 ⟨rfl, rfl⟩
  go_wp2_with fail
  refine P3.out.mono ?_
  rintro e w1 ⟨rfl, rfl⟩
  go_wp2_with fail
  refine (R2.out _).mono ?_
  rintro e w1 ⟨rfl, rfl⟩
  go_wp2_with fail
  refine (R1.out _).mono ?_
  rintro e w1 ⟨rfl, rfl⟩
  have HPQ := HP.out w1
  by_cases hba : b - a < 0
  · obtain rfl : d = -(b - a) := by rw [HD.out]; omega
    have d0 : decide (b - a < 0) = true := decide_eq_true hba
    go_wp2_with fail
    trace_state
    go_ret2
    exact ⟨rfl, 0, rfl⟩
  · obtain rfl : d = b - a := by rw [HD.out]; omega
    have d0 : decide (b - a < 0) = false := decide_eq_false hba
    go_wp2_with fail
    go_ret2
    exact ⟨rfl, 0, rfl⟩
theorem ramp_any (i k : Int) (s : Nat) (w : World) (h : Tb w) : Calls Tryd.prog 17 #[.int .i64 i, .int .i64 k, .float .f64 s] w (fun e w' => e = .returned (.tuple #[.float .f64 (rampV i k s).1, .int .i64 (rampV i k s).2]) ∧ ∃ q, w' = w.drewN q) := by
  cases hb : okP i && okP k && slewB s with
  | true =>
    have h1 := hb
    simp only [Bool.and_eq_true] at h1
    refine (ramp_ok i k s w h h1.1.1 h1.1.2 h1.2).mono ?_
    rintro e w' ⟨rfl, hw⟩
    exact ⟨by unfold rampV; rw [hb]; rfl, hw⟩
  | false =>
    refine (ramp_bad i k s w hb).mono ?_
    rintro e w' ⟨rfl, rfl⟩
    exact ⟨by unfold rampV; rw [hb]; rfl, 0, rfl⟩
theorem refRamp_any (i k : Int) (s : Nat) (w : World) : Calls Tryd.prog 18 #[.int .i64 i, .int .i64 k, .float .f64 s] w (fun e w' => e = .returned (.tuple #[.float .f64 (rampV i k s).1, .int .i64 (rampV i k s).2]) ∧ ∃ q, w' = w.drewN q) := by
  cases hb : okP i && okP k && slewB s with
  | true =>
    have h1 := hb
    simp only [Bool.and_eq_true] at h1
    refine (refRamp_ok i k s w h1.1.1 h1.1.2 h1.2).mono ?_
    rintro e w' ⟨rfl, hw⟩
    exact ⟨by unfold rampV; rw [hb]; rfl, hw⟩
  | false =>
    refine (refRamp_bad i k s w hb).mono ?_
    rintro e w' ⟨rfl, rfl⟩
    exact ⟨by unfold rampV; rw [hb]; rfl, 0, rfl⟩
end Go.Proofs.YtpoijmncdicdkaaDoor.Su
