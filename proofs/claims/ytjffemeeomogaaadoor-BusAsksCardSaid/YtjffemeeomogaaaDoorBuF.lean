/- Slot, of the document; both, of any place, number and stride (P10.1). -/
import Derived.Test.YtjffemeeomogaaaDoorBuE
namespace Go.Proofs.YtjffemeeomogaaaDoor.Bu
open Go.ChangeShapes Go.WideShapes Go.ChangeAt Go.RowKit Own Ro

set_option maxRecDepth 100000 in
set_option maxHeartbeats 8000000 in
theorem refSlot_bad (i n s : Int) (w : World) (h : ¬ (0 ≤ i ∧ i < 20) ∨ n < 0 ∨ s < 0) : Calls Tryd.prog 38 #[.int .i64 i, .int .i64 n, .int .i64 s] w (fun e w' => e = .returned (.tuple #[.int .i64 0, .int .i64 1]) ∧ w' = w) := by
  by_cases h1 : i < 0
  · clear h
    go_enter Tryd.func38, Tryd.ntmps38
    go_wp2_with fail
    go_ret2
    exact ⟨rfl, rfl⟩
  by_cases h2 : 20 ≤ i
  · clear h
    go_enter Tryd.func38, Tryd.ntmps38
    go_wp2_with fail
    go_ret2
    exact ⟨rfl, rfl⟩
  by_cases h3 : n < 0
  · clear h
    go_enter Tryd.func38, Tryd.ntmps38
    go_wp2_with fail
    go_ret2
    exact ⟨rfl, rfl⟩
  have h4 : s < 0 := by omega
  clear h
  go_enter Tryd.func38, Tryd.ntmps38
  go_wp2_with fail
  go_ret2
  exact ⟨rfl, rfl⟩
set_option maxRecDepth 100000 in
set_option maxHeartbeats 8000000 in
theorem refSlot_hi (i : Int) (n s H L : Nat) (w : World) (h : 0 ≤ i ∧ i < 20) (HMU : Hid (∀ W : World, Calls Tryd.prog 63 #[.int .u64 (n : Int), .int .u64 (s : Int)] W fun e w' => e = .returned (.tuple #[.int .u64 (H : Int), .int .u64 (L : Int)]) ∧ w' = W)) (hH : 0 < H) (hn : n ≤ 9223372036854775807) (hs : s ≤ 9223372036854775807) :
    Calls Tryd.prog 38 #[.int .i64 i, .int .i64 (n : Int), .int .i64 (s : Int)] w (fun e w' => e = .returned (.tuple #[.int .i64 0, .int .i64 1]) ∧ Below w.heap.size w w') := by
  have HM := Lib.hid (nums_any w)
  have hb := ent_bd i h.1 h.2
  obtain ⟨i1, i2⟩ := h
  have i3 : ¬ i < 0 := by omega
  have i4 : ¬ 20 ≤ i := by omega
  have HTA := Lib.hid (show tabV[i.toNat]? = some (.int .i64 (ent i)) from by have := tab_at i.toNat (by omega); rwa [show ((i.toNat : Nat) : Int) = i by omega] at this)
  generalize ent i = en at hb HTA ⊢
  have e1 : 0 < en := by omega
  have n1 : ¬ (n : Int) < 0 := by omega
  have s1 : ¬ (s : Int) < 0 := by omega
  have c1 : IntKind.u64.wrap (n : Int) = (n : Int) := by rw [IntKind.wrap_u64]; omega
  have c2 : IntKind.u64.wrap (s : Int) = (s : Int) := by rw [IntKind.wrap_u64]; omega
  have d1 : ((H : Int) != 0) = true := by simp; omega
  have d2 : ¬ (H : Int) = 0 := by omega
  clear hn hs
  go_enter Tryd.func38, Tryd.ntmps38
  go_wp2_with fail
  refine HM.out.mono ?_
  rintro e w2 ⟨g, c, rfl, hg, h3, h4⟩
  have B := Lib.hid h4
  have c0 : w2.cell? ⟨g, i.toNat, none⟩ = some (.int .i64 en) := by rw [h3.cellAt i.toNat (by omega)]; exact HTA.out
  clear h3 h4 HM
  go_wp2_with fail
  refine (HMU.out _).mono ?_
  rintro e w1 ⟨rfl, rfl⟩
  go_wp2_with fail
  go_ret2
  exact ⟨rfl, B.out⟩
set_option maxRecDepth 100000 in
set_option maxHeartbeats 8000000 in
theorem refSlot_huge (i : Int) (n s H L : Nat) (w : World) (h : 0 ≤ i ∧ i < 20) (HMU : Hid (∀ W : World, Calls Tryd.prog 63 #[.int .u64 (n : Int), .int .u64 (s : Int)] W fun e w' => e = .returned (.tuple #[.int .u64 (H : Int), .int .u64 (L : Int)]) ∧ w' = W)) (hH : H = 0) (hL : 9223372036854775807 < L) (hn : n ≤ 9223372036854775807) (hs : s ≤ 9223372036854775807) :
    Calls Tryd.prog 38 #[.int .i64 i, .int .i64 (n : Int), .int .i64 (s : Int)] w (fun e w' => e = .returned (.tuple #[.int .i64 0, .int .i64 1]) ∧ Below w.heap.size w w') := by
  have HM := Lib.hid (nums_any w)
  have hb := ent_bd i h.1 h.2
  obtain ⟨i1, i2⟩ := h
  have i3 : ¬ i < 0 := by omega
  have i4 : ¬ 20 ≤ i := by omega
  have HTA := Lib.hid (show tabV[i.toNat]? = some (.int .i64 (ent i)) from by have := tab_at i.toNat (by omega); rwa [show ((i.toNat : Nat) : Int) = i by omega] at this)
  generalize ent i = en at hb hL HTA ⊢
  have e1 : 0 < en := by omega
  have n1 : ¬ (n : Int) < 0 := by omega
  have s1 : ¬ (s : Int) < 0 := by omega
  have c1 : IntKind.u64.wrap (n : Int) = (n : Int) := by rw [IntKind.wrap_u64]; omega
  have c2 : IntKind.u64.wrap (s : Int) = (s : Int) := by rw [IntKind.wrap_u64]; omega
  have d1 : ((H : Int) != 0) = false := by simp; omega
  have d2 : (H : Int) = 0 := by omega
  have d3 : decide ((9223372036854775807 : Int) < (L : Int)) = true := by simp; omega
  have d4 : ¬ (L : Int) ≤ 9223372036854775807 := by omega
  clear hn hs hL
  go_enter Tryd.func38, Tryd.ntmps38
  go_wp2_with fail
  refine HM.out.mono ?_
  rintro e w2 ⟨g, c, rfl, hg, h3, h4⟩
  have B := Lib.hid h4
  have c0 : w2.cell? ⟨g, i.toNat, none⟩ = some (.int .i64 en) := by rw [h3.cellAt i.toNat (by omega)]; exact HTA.out
  clear h3 h4 HM
  go_wp2_with fail
  refine (HMU.out _).mono ?_
  rintro e w1 ⟨rfl, rfl⟩
  go_wp2_with fail
  go_ret2
  exact ⟨rfl, B.out⟩
set_option maxRecDepth 100000 in
set_option maxHeartbeats 8000000 in
theorem refSlot_wide (i : Int) (n s H L : Nat) (w : World) (h : 0 ≤ i ∧ i < 20) (HMU : Hid (∀ W : World, Calls Tryd.prog 63 #[.int .u64 (n : Int), .int .u64 (s : Int)] W fun e w' => e = .returned (.tuple #[.int .u64 (H : Int), .int .u64 (L : Int)]) ∧ w' = W)) (hH : H = 0) (hL : L ≤ 9223372036854775807 ∧ 9223372036854775807 - ent i < (L : Int)) (hn : n ≤ 9223372036854775807) (hs : s ≤ 9223372036854775807) :
    Calls Tryd.prog 38 #[.int .i64 i, .int .i64 (n : Int), .int .i64 (s : Int)] w (fun e w' => e = .returned (.tuple #[.int .i64 0, .int .i64 1]) ∧ Below w.heap.size w w') := by
  have HM := Lib.hid (nums_any w)
  have hb := ent_bd i h.1 h.2
  obtain ⟨i1, i2⟩ := h
  have i3 : ¬ i < 0 := by omega
  have i4 : ¬ 20 ≤ i := by omega
  have HTA := Lib.hid (show tabV[i.toNat]? = some (.int .i64 (ent i)) from by have := tab_at i.toNat (by omega); rwa [show ((i.toNat : Nat) : Int) = i by omega] at this)
  generalize ent i = en at hb hL HTA ⊢
  have e1 : 0 < en := by omega
  have n1 : ¬ (n : Int) < 0 := by omega
  have s1 : ¬ (s : Int) < 0 := by omega
  have c1 : IntKind.u64.wrap (n : Int) = (n : Int) := by rw [IntKind.wrap_u64]; omega
  have c2 : IntKind.u64.wrap (s : Int) = (s : Int) := by rw [IntKind.wrap_u64]; omega
  obtain ⟨M, hM⟩ : ∃ M, M = 9223372036854775807 - en := ⟨_, rfl⟩
  have m0 : 9223372036854775807 - en = M := hM.symm
  have m1 : 0 ≤ M := by omega
  have m3 : IntKind.i64.wrap M = M := by rw [IntKind.wrap_i64]; omega
  obtain ⟨x1, x2⟩ := hL
  have d1 : ((H : Int) != 0) = false := by simp; omega
  have d2 : (H : Int) = 0 := by omega
  have d3 : ¬ (9223372036854775807 : Int) < (L : Int) := by omega
  have d5 : IntKind.i64.wrap (L : Int) = (L : Int) := by rw [IntKind.wrap_i64]; omega
  have d4 : M < (L : Int) := by omega
  clear hM x1 x2
  clear hn hs
  go_enter Tryd.func38, Tryd.ntmps38
  go_wp2_with fail
  refine HM.out.mono ?_
  rintro e w2 ⟨g, c, rfl, hg, h3, h4⟩
  have B := Lib.hid h4
  have c0 : w2.cell? ⟨g, i.toNat, none⟩ = some (.int .i64 en) := by rw [h3.cellAt i.toNat (by omega)]; exact HTA.out
  clear h3 h4 HM
  go_wp2_with fail
  refine (HMU.out _).mono ?_
  rintro e w1 ⟨rfl, rfl⟩
  go_wp2_with fail
  go_ret2
  exact ⟨rfl, B.out⟩
set_option maxRecDepth 100000 in
set_option maxHeartbeats 8000000 in
theorem refSlot_ok (i : Int) (n s H L : Nat) (w : World) (h : 0 ≤ i ∧ i < 20) (HMU : Hid (∀ W : World, Calls Tryd.prog 63 #[.int .u64 (n : Int), .int .u64 (s : Int)] W fun e w' => e = .returned (.tuple #[.int .u64 (H : Int), .int .u64 (L : Int)]) ∧ w' = W)) (hH : H = 0) (hL : ent i + (L : Int) ≤ 9223372036854775807) (hn : n ≤ 9223372036854775807) (hs : s ≤ 9223372036854775807) :
    Calls Tryd.prog 38 #[.int .i64 i, .int .i64 (n : Int), .int .i64 (s : Int)] w (fun e w' => e = .returned (.tuple #[.int .i64 (ent i + (L : Int)), .int .i64 0]) ∧ Below w.heap.size w w') := by
  have HM := Lib.hid (nums_any w)
  have hb := ent_bd i h.1 h.2
  obtain ⟨i1, i2⟩ := h
  have i3 : ¬ i < 0 := by omega
  have i4 : ¬ 20 ≤ i := by omega
  have HTA := Lib.hid (show tabV[i.toNat]? = some (.int .i64 (ent i)) from by have := tab_at i.toNat (by omega); rwa [show ((i.toNat : Nat) : Int) = i by omega] at this)
  generalize ent i = en at hb hL HTA ⊢
  have e1 : 0 < en := by omega
  have n1 : ¬ (n : Int) < 0 := by omega
  have s1 : ¬ (s : Int) < 0 := by omega
  have c1 : IntKind.u64.wrap (n : Int) = (n : Int) := by rw [IntKind.wrap_u64]; omega
  have c2 : IntKind.u64.wrap (s : Int) = (s : Int) := by rw [IntKind.wrap_u64]; omega
  obtain ⟨M, hM⟩ : ∃ M, M = 9223372036854775807 - en := ⟨_, rfl⟩
  have m0 : 9223372036854775807 - en = M := hM.symm
  have m1 : 0 ≤ M := by omega
  have m3 : IntKind.i64.wrap M = M := by rw [IntKind.wrap_i64]; omega
  have d1 : ((H : Int) != 0) = false := by simp; omega
  have d2 : (H : Int) = 0 := by omega
  have d3 : ¬ (9223372036854775807 : Int) < (L : Int) := by omega
  have d4 : ¬ M < (L : Int) := by omega
  have d5 : IntKind.i64.wrap (L : Int) = (L : Int) := by rw [IntKind.wrap_i64]; omega
  have d6 : IntKind.i64.wrap (en + (L : Int)) = en + (L : Int) := by rw [IntKind.wrap_i64]; omega
  clear hM
  clear hn hs hL
  go_enter Tryd.func38, Tryd.ntmps38
  go_wp2_with fail
  refine HM.out.mono ?_
  rintro e w2 ⟨g, c, rfl, hg, h3, h4⟩
  have B := Lib.hid h4
  have c0 : w2.cell? ⟨g, i.toNat, none⟩ = some (.int .i64 en) := by rw [h3.cellAt i.toNat (by omega)]; exact HTA.out
  clear h3 h4 HM
  go_wp2_with fail
  refine (HMU.out _).mono ?_
  rintro e w1 ⟨rfl, rfl⟩
  go_wp2_with fail
  go_ret2
  exact ⟨rfl, B.out⟩
theorem slot_any (i n s : Int) (w : World) (hT : Tb w) (hn : n ≤ 9223372036854775807) (hs : s ≤ 9223372036854775807) : Calls Tryd.prog 37 #[.int .i64 i, .int .i64 n, .int .i64 s] w (fun e w' => e = .returned (.tuple #[.int .i64 (sloV i n s).1, .int .i64 (sloV i n s).2]) ∧ w' = w) := by
  by_cases hb : ¬ (0 ≤ i ∧ i < 20) ∨ n < 0 ∨ s < 0
  · rw [sloV_bad hb]
    exact slot_bad i n s w hb
  · have hi : 0 ≤ i ∧ i < 20 := by omega
    obtain ⟨N, rfl⟩ : ∃ N : Nat, n = N := ⟨n.toNat, by omega⟩
    obtain ⟨S, rfl⟩ : ∃ S : Nat, s = S := ⟨s.toNat, by omega⟩
    have hM := Tryd.bits_Mul64 N S (by omega) (by omega) w
    have hen := ent_bd i hi.1 hi.2
    by_cases hH : 0 < N * S / 18446744073709551616
    · rw [sloV_wide hi (by omega)]
      exact slot_hi i N S _ _ w hi (Lib.hid hM) hH (by omega) (by omega)
    · have h0 : N * S / 18446744073709551616 = 0 := by omega
      have h1 : N * S % 18446744073709551616 = N * S := by omega
      rw [h0, h1] at hM
      by_cases hw : 9223372036854775807 - ent i < ((N * S : Nat) : Int)
      · rw [sloV_wide hi (by omega)]
        exact slot_wide i N S (N * S) w hT hi (Lib.hid hM) hw (by omega) (by omega)
      · rw [sloV_ok hi (by omega)]
        exact slot_ok i N S (N * S) w hT hi (Lib.hid hM) (by omega) (by omega) (by omega)
theorem refSlot_any (i n s : Int) (w : World) (hn : n ≤ 9223372036854775807) (hs : s ≤ 9223372036854775807) : Calls Tryd.prog 38 #[.int .i64 i, .int .i64 n, .int .i64 s] w (fun e w' => e = .returned (.tuple #[.int .i64 (sloV i n s).1, .int .i64 (sloV i n s).2]) ∧ Below w.heap.size w w') := by
  by_cases hb : ¬ (0 ≤ i ∧ i < 20) ∨ n < 0 ∨ s < 0
  · rw [sloV_bad hb]
    refine (refSlot_bad i n s w hb).mono ?_
    rintro e w' ⟨rfl, rfl⟩
    exact ⟨rfl, Below.refl _ _⟩
  · have hi : 0 ≤ i ∧ i < 20 := by omega
    obtain ⟨N, rfl⟩ : ∃ N : Nat, n = N := ⟨n.toNat, by omega⟩
    obtain ⟨S, rfl⟩ : ∃ S : Nat, s = S := ⟨s.toNat, by omega⟩
    have hM := fun W => Tryd.bits_Mul64 N S (by omega) (by omega) W
    have hen := ent_bd i hi.1 hi.2
    by_cases hH : 0 < N * S / 18446744073709551616
    · rw [sloV_wide hi (by omega)]
      exact refSlot_hi i N S _ _ w hi (Lib.hid hM) hH (by omega) (by omega)
    · have h0 : N * S / 18446744073709551616 = 0 := by omega
      have h1 : N * S % 18446744073709551616 = N * S := by omega
      rw [h0, h1] at hM
      by_cases hu : 9223372036854775807 < N * S
      · rw [sloV_wide hi (by omega)]
        exact refSlot_huge i N S 0 (N * S) w hi (Lib.hid hM) rfl hu (by omega) (by omega)
      · by_cases hw : 9223372036854775807 - ent i < ((N * S : Nat) : Int)
        · rw [sloV_wide hi (by omega)]
          exact refSlot_wide i N S 0 (N * S) w hi (Lib.hid hM) rfl ⟨by omega, hw⟩ (by omega) (by omega)
        · rw [sloV_ok hi (by omega)]
          exact refSlot_ok i N S 0 (N * S) w hi (Lib.hid hM) rfl (by omega) (by omega) (by omega)
end Go.Proofs.YtjffemeeomogaaaDoor.Bu
