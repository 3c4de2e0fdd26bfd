/- Slot (P10.1): the program's and the document's. -/
import Derived.Test.YtjffemeeomogaaaDoorBuD
namespace Go.Proofs.YtjffemeeomogaaaDoor.Bu
open Go.ChangeShapes Go.WideShapes Go.ChangeAt Go.RowKit Own Ro

def sloV (i n s : Int) : Int × Int := if 0 ≤ i ∧ i < 20 ∧ 0 ≤ n ∧ 0 ≤ s ∧ ent i + n * s ≤ 9223372036854775807 then (ent i + n * s, 0) else (0, 1)
theorem sloV_bad {i n s : Int} (h : ¬ (0 ≤ i ∧ i < 20) ∨ n < 0 ∨ s < 0) : sloV i n s = (0, 1) := by unfold sloV; rw [if_neg (by omega)]
theorem sloV_wide {i : Int} {n s : Nat} (_hi : 0 ≤ i ∧ i < 20) (h : 9223372036854775807 < ent i + ((n * s : Nat) : Int)) : sloV i n s = (0, 1) := by
  unfold sloV
  rw [if_neg]
  rw [Int.natCast_mul] at h
  omega
theorem sloV_ok {i : Int} {n s : Nat} (hi : 0 ≤ i ∧ i < 20) (h : ent i + ((n * s : Nat) : Int) ≤ 9223372036854775807) : sloV i n s = (ent i + ((n * s : Nat) : Int), 0) := by
  unfold sloV
  rw [Int.natCast_mul] at h ⊢
  rw [if_pos ⟨hi.1, hi.2, by omega, by omega, h⟩]
set_option maxRecDepth 100000 in
set_option maxHeartbeats 8000000 in
theorem slot_bad (i n s : Int) (w : World) (h : ¬ (0 ≤ i ∧ i < 20) ∨ n < 0 ∨ s < 0) : Calls Tryd.prog 37 #[.int .i64 i, .int .i64 n, .int .i64 s] w (fun e w' => e = .returned (.tuple #[.int .i64 0, .int .i64 1]) ∧ w' = w) := by
  have HP := Lib.hid (isPlace_any i w)
  by_cases hp : 0 ≤ i ∧ i < 20
  · rw [decide_eq_true hp] at HP
    by_cases hn : n < 0
    · go_enter Tryd.func37, Tryd.ntmps37
      go_wp2_with fail
      refine HP.out.mono ?_
      rintro e w1 ⟨rfl, rfl⟩
      go_wp2_with fail
      go_ret2
      exact ⟨rfl, rfl⟩
    · have hs : s < 0 := by omega
      go_enter Tryd.func37, Tryd.ntmps37
      go_wp2_with fail
      refine HP.out.mono ?_
      rintro e w1 ⟨rfl, rfl⟩
      go_wp2_with fail
      go_ret2
      exact ⟨rfl, rfl⟩
  · rw [decide_eq_false hp] at HP
    go_enter Tryd.func37, Tryd.ntmps37
    go_wp2_with fail
    refine HP.out.mono ?_
    rintro e w1 ⟨rfl, rfl⟩
    go_wp2_with fail
    go_ret2
    exact ⟨rfl, rfl⟩
set_option maxRecDepth 100000 in
set_option maxHeartbeats 8000000 in
theorem slot_hi (i : Int) (n s H L : Nat) (w : World) (h : 0 ≤ i ∧ i < 20) (HMU : Hid (Calls Tryd.prog 63 #[.int .u64 (n : Int), .int .u64 (s : Int)] w fun e w' => e = .returned (.tuple #[.int .u64 (H : Int), .int .u64 (L : Int)]) ∧ w' = w)) (hH : 0 < H) (hn : n ≤ 9223372036854775807) (hs : s ≤ 9223372036854775807) :
    Calls Tryd.prog 37 #[.int .i64 i, .int .i64 (n : Int), .int .i64 (s : Int)] w (fun e w' => e = .returned (.tuple #[.int .i64 0, .int .i64 1]) ∧ w' = w) := by
  have HP := Lib.hid (isPlace_any i w)
  rw [decide_eq_true h] at HP
  have n1 : ¬ (n : Int) < 0 := by omega
  have s1 : ¬ (s : Int) < 0 := by omega
  have d1 : (0 : Int) < (H : Int) := by omega
  have c1 : IntKind.u64.wrap (n : Int) = (n : Int) := by rw [IntKind.wrap_u64]; omega
  have c2 : IntKind.u64.wrap (s : Int) = (s : Int) := by rw [IntKind.wrap_u64]; omega
  go_enter Tryd.func37, Tryd.ntmps37
  go_wp2_with fail
  refine HP.out.mono ?_
  rintro e w1 ⟨rfl, rfl⟩
  go_wp2_with fail
  refine HMU.out.mono ?_
  rintro e w1 ⟨rfl, rfl⟩
  go_wp2_with fail
  go_ret2
  exact ⟨rfl, rfl⟩
set_option maxRecDepth 100000 in
set_option maxHeartbeats 8000000 in
theorem slot_wide (i : Int) (n s L : Nat) (w : World) (hT : Tb w) (h : 0 ≤ i ∧ i < 20) (HMU : Hid (Calls Tryd.prog 63 #[.int .u64 (n : Int), .int .u64 (s : Int)] w fun e w' => e = .returned (.tuple #[.int .u64 0, .int .u64 (L : Int)]) ∧ w' = w)) (hL : 9223372036854775807 - ent i < (L : Int)) (hn : n ≤ 9223372036854775807) (hs : s ≤ 9223372036854775807) :
    Calls Tryd.prog 37 #[.int .i64 i, .int .i64 (n : Int), .int .i64 (s : Int)] w (fun e w' => e = .returned (.tuple #[.int .i64 0, .int .i64 1]) ∧ w' = w) := by
  have HP := Lib.hid (isPlace_any i w)
  rw [decide_eq_true h] at HP
  have hc := hT.at h.1 h.2
  have hb := ent_bd i h.1 h.2
  obtain ⟨i1, i2⟩ := h
  generalize ent i = en at hc hb hL ⊢
  obtain ⟨M, hM⟩ : ∃ M, M = 9223372036854775807 - en := ⟨_, rfl⟩
  have m0 : 9223372036854775807 - en = M := hM.symm
  have m1 : 0 ≤ M := by omega
  have m2 : IntKind.u64.wrap M = M := by rw [IntKind.wrap_u64]; omega
  have m3 : IntKind.i64.wrap M = M := by rw [IntKind.wrap_i64]; omega
  have n1 : ¬ (n : Int) < 0 := by omega
  have s1 : ¬ (s : Int) < 0 := by omega
  have c1 : IntKind.u64.wrap (n : Int) = (n : Int) := by rw [IntKind.wrap_u64]; omega
  have c2 : IntKind.u64.wrap (s : Int) = (s : Int) := by rw [IntKind.wrap_u64]; omega
  have d1 : M < (L : Int) := by omega
  clear hM hn hs hL hT
  go_enter Tryd.func37, Tryd.ntmps37
  go_wp2_with fail
  refine HP.out.mono ?_
  rintro e w1 ⟨rfl, rfl⟩
  go_wp2_with fail
  refine HMU.out.mono ?_
  rintro e w1 ⟨rfl, rfl⟩
  go_wp2_with fail
  go_ret2
  exact ⟨rfl, rfl⟩
set_option maxRecDepth 100000 in
set_option maxHeartbeats 8000000 in
theorem slot_ok (i : Int) (n s L : Nat) (w : World) (hT : Tb w) (h : 0 ≤ i ∧ i < 20) (HMU : Hid (Calls Tryd.prog 63 #[.int .u64 (n : Int), .int .u64 (s : Int)] w fun e w' => e = .returned (.tuple #[.int .u64 0, .int .u64 (L : Int)]) ∧ w' = w)) (hL : ent i + (L : Int) ≤ 9223372036854775807) (hn : n ≤ 9223372036854775807) (hs : s ≤ 9223372036854775807) :
    Calls Tryd.prog 37 #[.int .i64 i, .int .i64 (n : Int), .int .i64 (s : Int)] w (fun e w' => e = .returned (.tuple #[.int .i64 (ent i + (L : Int)), .int .i64 0]) ∧ w' = w) := by
  have HP := Lib.hid (isPlace_any i w)
  rw [decide_eq_true h] at HP
  have hc := hT.at h.1 h.2
  have hb := ent_bd i h.1 h.2
  obtain ⟨i1, i2⟩ := h
  generalize ent i = en at hc hb hL ⊢
  obtain ⟨M, hM⟩ : ∃ M, M = 9223372036854775807 - en := ⟨_, rfl⟩
  have m0 : 9223372036854775807 - en = M := hM.symm
  have m1 : 0 ≤ M := by omega
  have m2 : IntKind.u64.wrap M = M := by rw [IntKind.wrap_u64]; omega
  have m3 : IntKind.i64.wrap M = M := by rw [IntKind.wrap_i64]; omega
  have n1 : ¬ (n : Int) < 0 := by omega
  have s1 : ¬ (s : Int) < 0 := by omega
  have c1 : IntKind.u64.wrap (n : Int) = (n : Int) := by rw [IntKind.wrap_u64]; omega
  have c2 : IntKind.u64.wrap (s : Int) = (s : Int) := by rw [IntKind.wrap_u64]; omega
  have d1 : ¬ M < (L : Int) := by omega
  have d2 : IntKind.i64.wrap (L : Int) = (L : Int) := by rw [IntKind.wrap_i64]; omega
  have d3 : IntKind.i64.wrap (en + (L : Int)) = en + (L : Int) := by rw [IntKind.wrap_i64]; omega
  clear hM hn hs hL hT
  go_enter Tryd.func37, Tryd.ntmps37
  go_wp2_with fail
  refine HP.out.mono ?_
  rintro e w1 ⟨rfl, rfl⟩
  go_wp2_with fail
  refine HMU.out.mono ?_
  rintro e w1 ⟨rfl, rfl⟩
  go_wp2_with fail
  go_ret2
  exact ⟨rfl, rfl⟩
end Go.Proofs.YtjffemeeomogaaaDoor.Bu
