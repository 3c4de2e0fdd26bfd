/- Turned, Power, Mix: the program's (P12.3). -/
import Derived.Test.YtinocgngjhomcaaDoorRtO
import Derived.Test.YtinocgngjhomcaaDoorRaA
import Derived.Laws.ComplexArith
namespace Go.Proofs.YtinocgngjhomcaaDoor.Rt
open Go.ChangeShapes Go.WideShapes Go.ChangeAt Go.RowKit Own Ro

theorem and3 (q : Int) : bits .and .i64 q 3 = q % 4 := by
  show IntKind.i64.wrap (((BitVec.ofInt 64 q &&& BitVec.ofInt 64 3).toNat : Nat) : Int) = q % 4
  rw [BitVec.toNat_and, show (BitVec.ofInt 64 3).toNat = 2 ^ 2 - 1 from rfl, Nat.and_two_pow_sub_one_eq_mod, BitVec.toNat_ofInt]
  have h : (((q % ((2 ^ 64 : Nat) : Int)).toNat % 2 ^ 2 : Nat) : Int) = q % 4 := by
    have e : ((2 ^ 64 : Nat) : Int) = 18446744073709551616 := by decide
    rw [e]
    omega
  rw [h]
  exact IntWalk.i64_in _ (by omega)
set_option maxRecDepth 100000 in
set_option maxHeartbeats 8000000 in
theorem turned_any (p : Nat × Nat) (q : Int) (w : World) : Calls Tryd.prog 30 #[.complex .f64 p.1 p.2, .int .i64 q] w (fun e w' => e = .returned (.complex .f64 (rotN (q % 4).toNat p).1 (rotN (q % 4).toNat p).2) ∧ w' = w) := by
  obtain ⟨m, hm⟩ : ∃ m : Nat, (q % 4).toNat = m := ⟨_, rfl⟩
  have hq : bits .and .i64 q 3 = (m : Int) := by rw [and3]; omega
  have hm4 : (m : Int) < 4 := by omega
  have hng : ∀ b : Nat, Op.unary .neg (.float .f64 b) = pure (.float .f64 (negF b)) := fun b => rfl
  rw [hm]
  clear hm
  go_enter Tryd.func30, Tryd.ntmps30
  go_wp2_with fail
  go_loopw [0, 7] (fun v0 v7 wr => ∃ k : Nat, k ≤ m ∧ v0 = .complex .f64 (rotN k p).1 (rotN k p).2 ∧ v7 = .int .i64 (k : Int) ∧ wr = w) (fun _ v7 _ => m - (RowKit.intOf v7).toNat)
  case atStart => exact ⟨0, by omega, rfl, rfl, rfl⟩
  case round =>
    obtain ⟨k, hk, rfl, rfl, hw⟩ := hrel
    rw [hw]
    clear hw wr
    by_cases hlt : k < m
    · have l1 : (0 : Int) ≤ (k : Int) := by omega
      have l2 : (k : Int) < (m : Int) := by omega
      have HS := Lib.hid (show rotN (k + 1) p = (negF (rotN k p).2, (rotN k p).1) from rfl)
      generalize (rotN k p).1 = x at HS ⊢
      generalize (rotN k p).2 = y at HS ⊢
      go_wp2_with (simp only [hng])
      go_roundw
      case rel => exact ⟨k + 1, by omega, by rw [HS.out], by first | rfl | go_num, by first | rfl | trivial⟩
      case measure => simp [RowKit.intOf]; omega
    · have HKM := Lib.hid (show k = m from by omega)
      have hge : decide ((k : Int) < (m : Int)) = false := decide_eq_false (by omega)
      have hge2 : ¬ (k : Int) < (m : Int) := by omega
      clear hlt hk
      go_wp2_with fail
      go_ret
      exact ⟨by rw [HKM.out]; rfl, rfl⟩
theorem fl_run (op : BinOp) {x y r : Nat} (h : floatBits op .f64 x y = some r) (t : TypeId) (w : World) : (binOp op t (.float .f64 x) (.float .f64 y)).run Tryd.prog w = .ok (.float .f64 r) w := run_float_arith _ op t .f64 x y r h
set_option maxRecDepth 100000 in
set_option maxHeartbeats 8000000 in
theorem times_any {a b c d x y m1 m2 m3 m4 : Nat} (h : Is a b c d x y m1 m2 m3 m4) (w : World) : Calls Tryd.prog 44 #[.complex .f64 a b, .complex .f64 c d] w (fun e w' => e = .returned (.complex .f64 x y) ∧ w' = w) := by
  have r1 := fl_run .mul (r := m1) h.h1
  have r2 := fl_run .mul (r := m2) h.h2
  have r3 := fl_run .sub (r := x) h.h3
  have r4 := fl_run .mul (r := m3) h.h4
  have r5 := fl_run .mul (r := m4) h.h5
  have r6 := fl_run .add (r := y) h.h6
  clear h
  go_enter Tryd.func44, Tryd.ntmps44
  go_wp2_with (first | simp only [r1] | simp only [r2] | simp only [r3] | simp only [r4] | simp only [r5] | simp only [r6])
  go_ret
  exact ⟨rfl, rfl⟩
set_option maxRecDepth 100000 in
set_option maxHeartbeats 8000000 in
theorem power_any {a b m1 m2 t : Nat} (h1 : Ieee.double.mul a a = some m1) (h2 : Ieee.double.mul b b = some m2) (h3 : Ieee.double.add m1 m2 = some t) (w : World) : Calls Tryd.prog 31 #[.complex .f64 a b] w (fun e w' => e = .returned (.float .f64 t) ∧ w' = w) := by
  have r1 := fl_run .mul (r := m1) h1
  have r2 := fl_run .mul (r := m2) h2
  have r3 := fl_run .add (r := t) h3
  clear h1 h2 h3
  go_enter Tryd.func31, Tryd.ntmps31
  go_wp2_with (first | simp only [r1] | simp only [r2] | simp only [r3])
  go_ret
  exact ⟨rfl, rfl⟩
set_option maxRecDepth 100000 in
set_option maxHeartbeats 8000000 in
theorem mix_any (z acc : Nat → Nat × Nat) (g n : Nat) (w : World) (hn : n ≤ 1000000) (hc : ∀ k, k < n → w.cell? ⟨g, k, none⟩ = some (.complex .f64 (z k).1 (z k).2)) (h0 : acc 0 = (4607182418800017408, 0))
    (hs : ∀ k, k < n → ∃ m1 m2 m3 m4, Is (acc k).1 (acc k).2 (z k).1 (z k).2 (acc (k + 1)).1 (acc (k + 1)).2 m1 m2 m3 m4) :
    Calls Tryd.prog 32 #[.slice (some ⟨g, 0, none⟩) n n] w (fun e w' => e = .returned (.complex .f64 (acc n).1 (acc n).2) ∧ w' = w) := by
  have HC := Lib.hid hc
  have HS := Lib.hid hs
  have H0 := Lib.hid h0
  clear hc hs h0
  go_enter Tryd.func32, Tryd.ntmps32
  go_wp2_with fail
  go_loopw [3, 8] (fun v3 v8 wr => ∃ k : Nat, k ≤ n ∧ v3 = .complex .f64 (acc k).1 (acc k).2 ∧ v8 = .int .i64 (k : Int) ∧ wr = w) (fun _ v8 _ => n - (RowKit.intOf v8).toNat)
  case atStart => exact ⟨0, by omega, by rw [H0.out], rfl, rfl⟩
  case round =>
    obtain ⟨k, hk, rfl, rfl, hw⟩ := hrel
    rw [hw]
    clear hw wr
    by_cases hlt : k < n
    · have l1 : (0 : Int) ≤ (k : Int) := by omega
      have l2 : (k : Int) < (n : Int) := by omega
      have c0 := HC.out k hlt
      obtain ⟨m1, m2, m3, m4, hi⟩ := HS.out k hlt
      have HT := Lib.hid (times_any hi w)
      clear hi
      generalize (z k).1 = zx at c0 HT
      generalize (z k).2 = zy at c0 HT
      generalize (acc k).1 = ax at HT ⊢
      generalize (acc k).2 = ay at HT ⊢
      go_wp2_with fail
      refine HT.out.mono ?_
      rintro e w9 ⟨rfl, hw⟩
      rw [hw]
      clear hw w9
      go_wp2_with fail
      go_roundw
      case rel => exact ⟨k + 1, by omega, rfl, by first | rfl | go_num, by first | rfl | trivial⟩
      case measure => simp [RowKit.intOf]; omega
    · have HKM := Lib.hid (show k = n from by omega)
      have hge : decide ((k : Int) < (n : Int)) = false := decide_eq_false (by omega)
      have hge2 : ¬ (k : Int) < (n : Int) := by omega
      clear hlt hk
      go_wp2_with fail
      go_ret
      exact ⟨by rw [HKM.out]; rfl, rfl⟩
end Go.Proofs.YtinocgngjhomcaaDoor.Rt
