/- Which and Slot (P10.1): the program's and the document's. -/
import Derived.Test.YtjffemeeomogaaaDoorBuC
import Derived.Test.YtjffemeeomogaaaDoorShelf
namespace Go.Proofs.YtjffemeeomogaaaDoor.Bu
open Go.ChangeShapes Go.WideShapes Go.ChangeAt Go.RowKit Own Ro

/-! ### Which -/
/-- The last one of the first k that is not above at; -1: none. -/
def fd (at' : Int) : Nat → Int
  | 0 => -1
  | k + 1 => if ent k ≤ at' then k else fd at' k
theorem fd_bd (at' : Int) (k : Nat) : -1 ≤ fd at' k ∧ fd at' k < k := by
  induction k with
  | zero => exact ⟨Int.le_refl _, by show (-1 : Int) < 0; omega⟩
  | succ k ih => unfold fd; split <;> omega
theorem fd_yes {at' : Int} {k : Nat} (h : ent k ≤ at') : fd at' (k + 1) = k := by show (if _ then _ else _) = _; rw [if_pos h]
theorem fd_no {at' : Int} {k : Nat} (h : ¬ ent k ≤ at') : fd at' (k + 1) = fd at' k := by show (if _ then _ else _) = _; rw [if_neg h]
def whV (at' : Int) : Int × Int := if fd at' 20 < 0 then (0, 6) else (fd at' 20, 0)
theorem ix_all (k : Nat) (h : k < 20) (w : World) : (Instr.index 61 (.agg tabV.toArray) (.int .i64 (k : Int))).run Tryd.prog w = .ok (.int .i64 (ent k)) w := by
  rcases k with _ | k
  · kernel_rfl
  · iterate 19 (rcases k with _ | k; · kernel_rfl)
    omega
set_option maxRecDepth 100000 in
set_option maxHeartbeats 8000000 in
theorem which_any (at' : Int) (w : World) (h : Tb w) : Calls Tryd.prog 35 #[.int .i64 at'] w (fun e w' => e = .returned (.tuple #[.int .i64 (whV at').1, .int .i64 (whV at').2]) ∧ w' = w) := by
  have HT := Lib.hid h
  have HI := Lib.hid ix_all
  obtain ⟨tv, htv⟩ : ∃ tv, tv = tabV := ⟨_, rfl⟩
  have HR := Lib.hid (show w.rangeAt 2 0 tv from by rw [htv]; exact h)
  have HL := Lib.hid (show (Tryd.prog.info? 61).map (·.size) = some tv.length from by rw [htv]; kernel_rfl)
  rw [← htv] at HI
  clear h htv
  go_enter Tryd.func35, Tryd.ntmps35
  go_wp2_with (first | refine Su.wpList_load_row' rfl _ _ rfl 2 rfl tv (.array 20 2) HR.out (by kernel_rfl) rfl HL.out ?_)
  go_loop [4, 8] (fun v4 v8 => ∃ k : Nat, k ≤ 20 ∧ v8 = .int .i64 (k : Int) ∧ v4 = .int .i64 (fd at' k)) (fun _ v8 => 20 - (RowKit.intOf v8).toNat)
  case atStart => exact ⟨0, by omega, rfl, rfl⟩
  case round =>
    obtain ⟨k, hk, rfl, rfl⟩ := hrel
    have hbd := fd_bd at' k
    by_cases hlt : k < 20
    · have l1 : (0 : Int) ≤ (k : Int) := by omega
      have l2 : (k : Int) < 20 := by omega
      have hix := HI.out k hlt
      by_cases hle : ent k ≤ at'
      · have HF := Lib.hid (fd_yes hle)
        by_cases hf : fd at' k < 0
        · generalize fd at' k = f at hbd hf
          generalize ent (k : Nat) = en at hix hle
          go_wp2_with fail
          go_round
          case rel => exact ⟨k + 1, by omega, by go_num, by rw [HF.out]⟩
          case measure => simp [RowKit.intOf]; omega
        · have hgt := ent_lt (fd at' k) k (by omega) (by omega) (by omega)
          have hc := HT.out.at (i := fd at' k) (by omega) (by omega)
          have hf0 : 0 ≤ fd at' k := by omega
          have hf2 : fd at' k < 20 := by omega
          generalize fd at' k = f at hbd hf hgt hc hf0 hf2
          generalize ent (k : Nat) = en at hix hle hgt
          generalize ent f = ef at hc hgt
          go_wp2_with fail
          go_round
          case rel => exact ⟨k + 1, by omega, by go_num, by rw [HF.out]⟩
          case measure => simp [RowKit.intOf]; omega
      · have HF := Lib.hid (fd_no hle)
        generalize fd at' k = f at hbd HF ⊢
        generalize ent (k : Nat) = en at hix hle
        go_wp2_with fail
        go_round
        case rel => exact ⟨k + 1, by omega, by go_num, by rw [HF.out]⟩
        case measure => simp [RowKit.intOf]; omega
    · obtain rfl : k = 20 := by omega
      have HW := Lib.hid (show whV at' = if fd at' 20 < 0 then (0, 6) else (fd at' 20, 0) from rfl)
      generalize fd at' 20 = f at hbd HW ⊢
      by_cases hf : f < 0
      · have HW2 := Lib.hid (show whV at' = (0, 6) by rw [HW.out, if_pos hf])
        go_wp2_with fail
        go_ret2
        exact ⟨by rw [HW2.out]; rfl, rfl⟩
      · have HW2 := Lib.hid (show whV at' = (f, 0) by rw [HW.out, if_neg hf])
        go_wp2_with fail
        go_ret2
        exact ⟨by rw [HW2.out]; rfl, rfl⟩
set_option maxRecDepth 100000 in
set_option maxHeartbeats 8000000 in
theorem refWhich_any (at' : Int) (w : World) : Calls Tryd.prog 36 #[.int .i64 at'] w (fun e w' => e = .returned (.tuple #[.int .i64 (whV at').1, .int .i64 (whV at').2]) ∧ Below w.heap.size w w') := by
  have HM := Lib.hid (nums_any w)
  go_enter Tryd.func36, Tryd.ntmps36
  go_wp2_with fail
  refine HM.out.mono ?_
  rintro e w2 ⟨g, c, rfl, hg, h3, h4⟩
  have B := Lib.hid h4
  have HC := Lib.hid (fun (k : Nat) (hk : k < 20) => show w2.cell? ⟨g, k, none⟩ = some (.int .i64 (ent k)) from by rw [h3.cellAt k (by omega)]; exact tab_at k hk)
  clear h3 h4 HM
  go_wp2_with fail
  go_loopw [5, 6] (fun v4 v8 wr => ∃ k : Nat, k ≤ 20 ∧ v8 = .int .i64 (k : Int) ∧ v4 = .int .i64 (fd at' k) ∧ ∃ n, wr = w2.drewN n) (fun _ v8 _ => 20 - (RowKit.intOf v8).toNat)
  case atStart => exact ⟨0, by omega, rfl, rfl, 0, rfl⟩
  case round =>
    obtain ⟨k, hk, rfl, rfl, n, rfl⟩ := hrel
    have hbd := fd_bd at' k
    by_cases hlt : k < 20
    · have l1 : (0 : Int) ≤ (k : Int) := by omega
      have l2 : (k : Int) < 20 := by omega
      have hk0 := HC.out k hlt
      by_cases hle : ent k ≤ at'
      · have HF := Lib.hid (fd_yes hle)
        have d1 : decide (ent k ≤ at') = true := decide_eq_true hle
        by_cases hf : fd at' k < 0
        · have d2 : decide (fd at' k < 0) = true := decide_eq_true hf
          generalize fd at' k = f at hbd hf d2
          generalize ent (k : Nat) = en at hk0 hle d1
          go_wp2_with fail
          go_quiet (fail)
          go_wp2_with fail
          go_roundw
          case rel => exact ⟨k + 1, by omega, by go_num, by rw [HF.out], _, rfl⟩
          case measure => simp [RowKit.intOf]; omega
        · have hgt := ent_lt (fd at' k) k (by omega) (by omega) (by omega)
          have d2 : decide (fd at' k < 0) = false := decide_eq_false hf
          obtain ⟨f, hfk⟩ : ∃ f : Nat, fd at' k = f := ⟨(fd at' k).toNat, by omega⟩
          rw [hfk] at hbd hf hgt d2 ⊢
          have hc := HC.out f (by omega)
          have hf0 : (0 : Int) ≤ (f : Int) := by omega
          have hf2 : (f : Int) < 20 := by omega
          clear hfk
          have d3 : decide (ent k > ent (f : Nat)) = true := decide_eq_true hgt
          generalize ent (k : Nat) = en at hk0 hle hgt d1 d3
          generalize ent (f : Nat) = ef at hc hgt d3
          go_wp2_with fail
          go_quiet (fail)
          go_wp2_with fail
          go_roundw
          case rel => exact ⟨k + 1, by omega, by go_num, by rw [HF.out], _, rfl⟩
          case measure => simp [RowKit.intOf]; omega
      · have HF := Lib.hid (fd_no hle)
        have d1 : decide (ent k ≤ at') = false := decide_eq_false hle
        generalize fd at' k = f at hbd HF ⊢
        generalize ent (k : Nat) = en at hk0 hle d1
        go_wp2_with fail
        go_quiet (fail)
        go_wp2_with fail
        go_roundw
        case rel => exact ⟨k + 1, by omega, by go_num, by rw [HF.out], _, rfl⟩
        case measure => simp [RowKit.intOf]; omega
    · obtain rfl : k = 20 := by omega
      have HW := Lib.hid (show whV at' = if fd at' 20 < 0 then (0, 6) else (fd at' 20, 0) from rfl)
      generalize fd at' 20 = f at hbd HW ⊢
      by_cases hf : f < 0
      · have HW2 := Lib.hid (show whV at' = (0, 6) by rw [HW.out, if_pos hf])
        go_wp2_with fail
        go_ret2
        exact ⟨by rw [HW2.out]; rfl, below_dr B.out n⟩
      · have HW2 := Lib.hid (show whV at' = (f, 0) by rw [HW.out, if_neg hf])
        go_wp2_with fail
        go_ret2
        exact ⟨by rw [HW2.out]; rfl, below_dr B.out n⟩
end Go.Proofs.YtjffemeeomogaaaDoor.Bu
