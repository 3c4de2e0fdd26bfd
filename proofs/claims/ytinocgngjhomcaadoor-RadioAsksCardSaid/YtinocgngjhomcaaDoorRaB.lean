/- Near and Shift: the program's (P12.1). -/
import Derived.Test.YtinocgngjhomcaaDoorRaA
namespace Go.Proofs.YtinocgngjhomcaaDoor.Ra
open Go.ChangeShapes Go.WideShapes Go.ChangeAt Go.RowKit Own Ro

/-- How far a band is from what is wanted. -/
def dst (x i : Int) : Int := max (x - ent i) (ent i - x)
/-- The nearest of the first k bands. -/
def nr (x : Int) : Nat → Nat
  | 0 => 0
  | k + 1 => if dst x k < dst x (nr x k) then k else nr x k
theorem nr_lt (x : Int) (k : Nat) : nr x k < max 1 k := by
  induction k with
  | zero => show (0 : Nat) < _; omega
  | succ k ih =>
    unfold nr
    split <;> omega
theorem nr_one (x : Int) : nr x 1 = 0 := by unfold nr; simp [nr]
/-- What is the least distance among the first k; 0 where there is none. -/
def lea (x : Int) (k : Nat) : Int := if k = 0 then 0 else dst x (nr x k)
theorem lea_one (x : Int) : lea x 1 = dst x 0 := by unfold lea; rw [if_neg (by omega), nr_one]; rfl
theorem ix_all (k : Nat) (h : k < 20) (w : World) : (Instr.index 51 (.agg tabV.toArray) (.int .i64 (k : Int))).run Tryd.prog w = .ok (.int .i64 (ent k)) w := by
  rcases k with _ | k
  · kernel_rfl
  · iterate 19 (rcases k with _ | k; · kernel_rfl)
    omega
set_option maxRecDepth 100000 in
set_option maxHeartbeats 8000000 in
theorem near_bad (x : Int) (w : World) (h : x < 0) : Calls Tryd.prog 11 #[.int .i64 x] w (fun e w' => e = .returned (.tuple #[.int .i64 0, .int .i64 1]) ∧ w' = w) := by
  go_enter Tryd.func11, Tryd.ntmps11
  go_wp2_with fail
  go_ret2
  exact ⟨rfl, rfl⟩
set_option maxRecDepth 100000 in
set_option maxHeartbeats 8000000 in
theorem near_ok (x : Int) (w : World) (h : Tb w) (h0 : 0 ≤ x) (h1 : x ≤ 9223372036854775807) : Calls Tryd.prog 11 #[.int .i64 x] w (fun e w' => e = .returned (.tuple #[.int .i64 (nr x 20 : Nat), .int .i64 0]) ∧ w' = w) := by
  have HI := Lib.hid ix_all
  obtain ⟨tv, htv⟩ : ∃ tv, tv = tabV := ⟨_, rfl⟩
  have HR := Lib.hid (show w.rangeAt 0 0 tv from by rw [htv]; exact h)
  have HL := Lib.hid (show (Tryd.prog.info? 51).map (·.size) = some tv.length from by rw [htv]; kernel_rfl)
  rw [← htv] at HI
  have H0 := Lib.hid (And.intro h0 h1)
  have hx : ¬ x < 0 := by omega
  clear h htv h1 h0
  go_enter Tryd.func11, Tryd.ntmps11
  go_wp2_with (first | refine wpList_load_row' rfl _ _ rfl 0 rfl tv (.array 20 2) HR.out (by kernel_rfl) rfl HL.out ?_)
  clear hx
  go_loopw [4, 5, 12] (fun v4 v5 v12 wr => ∃ k : Nat, k ≤ 20 ∧ v12 = .int .i64 (k : Int) ∧ v4 = .int .i64 (nr x k : Nat) ∧ v5 = .int .i64 (lea x k) ∧ wr = w) (fun _ _ v12 _ => 20 - (RowKit.intOf v12).toNat)
  case atStart => exact ⟨0, by omega, rfl, rfl, rfl, rfl⟩
  case round =>
    obtain ⟨k, hk, rfl, rfl, rfl, rfl⟩ := hrel
    by_cases hlt : k < 20
    · have l1 : (0 : Int) ≤ (k : Int) := by omega
      have l2 : (k : Int) < 20 := by omega
      have hix := HI.out k hlt
      have hbd := ent_bd k l1 l2
      obtain ⟨a, ha⟩ : ∃ a, x - ent (k : Nat) = a := ⟨_, rfl⟩
      obtain ⟨b, hb⟩ : ∃ b, ent (k : Nat) - x = b := ⟨_, rfl⟩
      have wa : IntKind.i64.wrap (x - ent (k : Nat)) = a := by have := H0.out; rw [IntWalk.i64_in _ (by omega)]; exact ha
      have wb : IntKind.i64.wrap (ent (k : Nat) - x) = b := by have := H0.out; rw [IntWalk.i64_in _ (by omega)]; exact hb
      have HD := Lib.hid (show dst x k = max a b by unfold dst; rw [ha, hb])
      have HS := Lib.hid (show nr x (k + 1) = if dst x k < dst x (nr x k) then k else nr x k from rfl)
      have HN := Lib.hid (show lea x (k + 1) = dst x (nr x (k + 1) : Nat) from if_neg (by omega))
      have HO := Lib.hid (fun (h : k ≠ 0) => show lea x k = dst x (nr x k : Nat) from if_neg h)
      have HZ := Lib.hid (fun (h : k = 0) => show nr x (k + 1) = 0 from by rw [h]; exact nr_one x)
      clear ha hb hbd
      generalize ent (k : Nat) = en at hix wa wb
      generalize lea x k = le at HO ⊢
      generalize nr x k = nk at HS HO ⊢
      by_cases hk0 : k = 0
      · have HKZ := Lib.hid hk0
        have q0 : ((k : Int) == 0) = true := by rw [hk0]; rfl
        have HV := Lib.hid (show nr x (k + 1) = k ∧ lea x (k + 1) = max a b from ⟨by rw [HZ.out hk0, hk0], by rw [HN.out, HZ.out hk0, ← HD.out, hk0]⟩)
        clear hk0
        by_cases hab : a < b
        · have HM := Lib.hid (show max a b = b by omega)
          go_wp2_with fail
          go_roundw
          case rel => exact ⟨k + 1, by omega, by go_num, by rw [HV.out.1], by rw [HV.out.2, HM.out], by first | rfl | trivial⟩
          case measure => simp [RowKit.intOf]; omega
        · have HM := Lib.hid (show max a b = a by omega)
          go_wp2_with fail
          go_roundw
          case rel => exact ⟨k + 1, by omega, by go_num, by rw [HV.out.1], by rw [HV.out.2, HM.out], by first | rfl | trivial⟩
          case measure => simp [RowKit.intOf]; omega
      · have q0 : ((k : Int) == 0) = false := by simp; omega
        have HL2 := Lib.hid (HO.out hk0)
        replace hk0 := Lib.hid hk0
        by_cases hab : a < b
        · have HM := Lib.hid (show max a b = b by omega)
          by_cases hc : b < le
          · have HV := Lib.hid (show nr x (k + 1) = k from by rw [HS.out, if_pos (by rw [HD.out, HM.out, ← HL2.out]; exact hc)])
            go_wp2_with fail
            go_roundw
            case rel => exact ⟨k + 1, by omega, by go_num, by rw [HV.out], by rw [HN.out, HV.out, HD.out, HM.out], by first | rfl | trivial⟩
            case measure => simp [RowKit.intOf]; omega
          · have HV := Lib.hid (show nr x (k + 1) = nk from by rw [HS.out, if_neg (by rw [HD.out, HM.out, ← HL2.out]; exact hc)])
            go_wp2_with fail
            go_roundw
            case rel => exact ⟨k + 1, by omega, by go_num, by rw [HV.out], by rw [HN.out, HV.out, HL2.out], by first | rfl | trivial⟩
            case measure => simp [RowKit.intOf]; omega
        · have HM := Lib.hid (show max a b = a by omega)
          by_cases hc : a < le
          · have HV := Lib.hid (show nr x (k + 1) = k from by rw [HS.out, if_pos (by rw [HD.out, HM.out, ← HL2.out]; exact hc)])
            go_wp2_with fail
            go_roundw
            case rel => exact ⟨k + 1, by omega, by go_num, by rw [HV.out], by rw [HN.out, HV.out, HD.out, HM.out], by first | rfl | trivial⟩
            case measure => simp [RowKit.intOf]; omega
          · have HV := Lib.hid (show nr x (k + 1) = nk from by rw [HS.out, if_neg (by rw [HD.out, HM.out, ← HL2.out]; exact hc)])
            go_wp2_with fail
            go_roundw
            case rel => exact ⟨k + 1, by omega, by go_num, by rw [HV.out], by rw [HN.out, HV.out, HL2.out], by first | rfl | trivial⟩
            case measure => simp [RowKit.intOf]; omega
    · obtain rfl : k = 20 := by omega
      go_wp2_with fail
      go_ret2
      exact ⟨rfl, rfl⟩
/-- What Near answers. -/
def neaV (x : Int) : Int × Int := if x < 0 then (0, 1) else ((nr x 20 : Nat), 0)
theorem near_any (x : Int) (w : World) (h : Tb w) (h1 : x ≤ 9223372036854775807) : Calls Tryd.prog 11 #[.int .i64 x] w (fun e w' => e = .returned (.tuple #[.int .i64 (neaV x).1, .int .i64 (neaV x).2]) ∧ w' = w) := by
  by_cases hx : x < 0
  · refine (near_bad x w hx).mono ?_
    rintro e w' ⟨rfl, hb⟩
    exact ⟨by unfold neaV; rw [if_pos hx], hb⟩
  · refine (near_ok x w h (by omega) h1).mono ?_
    rintro e w' ⟨rfl, hb⟩
    exact ⟨by unfold neaV; rw [if_neg hx], hb⟩
theorem near_top : nr 9223372036854775807 20 = 19 := by decide +kernel
end Go.Proofs.YtinocgngjhomcaaDoor.Ra
