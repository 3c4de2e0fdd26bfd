/- The law SensorNames. -/
import Derived.Test.YtkloihfnngbceaaDoorSeC
import Derived.Test.YtkloihfnngbceaaDoorPqK
namespace Go.Proofs.YtkloihfnngbceaaDoor.Se
open Go.ChangeShapes Go.WideShapes Go.ChangeAt Go.RowKit Own Ro

set_option maxRecDepth 100000 in
set_option maxHeartbeats 8000000 in
/-- Two marks of which the second is no greater. -/
theorem zone_like (b : Nat) (w : World) (h0 : w.cell? ⟨b, 0, none⟩ = some (.int .i8 5)) (h1 : w.cell? ⟨b, 1, none⟩ = some (.int .i8 5)) :
    Calls Tryd.prog 21 #[.slice (some ⟨b, 0, none⟩) 2 2, .int .i8 0] w (fun e w' => e = .returned (.tuple #[.int .i64 0, .int .i64 1]) ∧ w' = w) := by
  go_enter Tryd.func21, Tryd.ntmps21
  go_wp2
  go_loopw [6, 14] (fun v6 v14 wr => ∃ k : Nat, k ≤ 1 ∧ v6 = .int .i64 0 ∧ v14 = .int .i64 (k : Int) ∧ wr = w) (fun _ v14 _ => 2 - (RowKit.intOf v14).toNat)
  case atStart => exact ⟨0, by omega, rfl, rfl, rfl⟩
  case round =>
    obtain ⟨k, hk, rfl, rfl, rfl⟩ := hrel
    by_cases h : k = 0
    · subst h
      go_wp2
      go_roundw
      case measure => decide
      case rel => exact ⟨1, by omega, by simp⟩
    · obtain rfl : k = 1 := by omega
      go_wp2
      go_ret2
      exact ⟨rfl, rfl⟩
theorem pair_at (w : World) (t : TypeId) (a b : Value) : (w.alloc (.cells #[a, b] t)).cell? ⟨w.heap.size, 0, none⟩ = some a ∧ (w.alloc (.cells #[a, b] t)).cell? ⟨w.heap.size, 1, none⟩ = some b :=
  ⟨by rw [World.cell?_alloc_at _ _ _ _ rfl]; rfl, by rw [World.cell?_alloc_at _ _ _ _ rfl]; rfl⟩
theorem made_in (w : World) (t : TypeId) (n : Nat) : CellsIn (w.alloc (.cells (madeCells #[.int .i8 0] n) t)) 1 (some ⟨w.heap.size, 0, none⟩) n ((List.replicate n (0 : Int)).map Pq.enc) := by
  refine ⟨by simp, .inr ⟨_, _, rfl, by rw [World.size_alloc]; omega, fun j u hu => ?_⟩⟩
  rw [World.cell?_alloc_at _ _ _ _ rfl, Nat.zero_add]
  have hj : j < n := by have := (List.getElem?_eq_some_iff.1 hu).1; simpa using this
  have e : u = .int .i8 0 := by rw [List.getElem?_map, List.getElem?_replicate, if_pos hj] at hu; exact (Option.some.inj hu).symm
  rw [e]
  simp [madeCells, hj, Nat.mod_one]
theorem milV_top : milV 9223372036854775807 = (110000, false) := by decide +kernel
theorem milV_low : milV (-9223372036854775808) = (-40000, false) := by decide +kernel
set_option maxRecDepth 100000 in
set_option maxHeartbeats 8000000 in
theorem names_any (w : World) (h : Tb w) : Calls Tryd.prog 5 #[] w (fun e w' => e = .returned (.bool true) ∧ Below w.heap.size w w') := by
  have HT := Lib.hid h
  clear h
  have M1 := Lib.hid (fun V => micro_bad (-1) V (by omega))
  have M2 := Lib.hid (fun V => micro_bad 16 V (by omega))
  have MK1 := Pq.run_mk8 4096 (by omega)
  have MK2 := Pq.run_mk8 4097 (by omega)
  rw [show ((4096 : Nat) : Int) = 4096 from rfl] at MK1
  rw [show ((4097 : Nat) : Int) = 4097 from rfl] at MK2
  go_enter Tryd.func5, Tryd.ntmps5
  go_wp2_with fail
  refine (M1.out _).mono ?_
  rintro e w1 ⟨rfl, rfl⟩
  go_wp2_with fail
  refine (M2.out _).mono ?_
  rintro e w2 ⟨rfl, rfl⟩
  go_wp2_with fail
  refine (zone_like _ _ (pair_at _ _ _ _).1 (pair_at _ _ _ _).2).mono ?_
  rintro e w3 ⟨rfl, hw3⟩
  have HB3 := Lib.hid (show Below w2.heap.size w2 w3 by rw [hw3]; exact grows' w2 _)
  clear hw3
  go_wp2_with fail
  refine (Pq.medianBad_any none 0 0 w3 (.inl (by omega))).mono ?_
  rintro e w4 ⟨rfl, rfl⟩
  go_wp2_with fail
  refine (Pq.medianOk_any _ 4096 4096 (List.replicate 4096 0) _ (by simp) (by omega) (by omega) (made_in _ _ _)).mono ?_
  rintro e w5 ⟨rfl, hb5⟩
  rw [Pq.midV_zero 4096 (by omega)]
  have HB5 := Lib.hid (bt (bt HB3.out (grows' w4 _)) hb5)
  clear hb5
  go_wp2_with fail
  refine (Pq.medianBad_any _ 4097 4097 _ (.inr (by omega))).mono ?_
  rintro e w6 ⟨rfl, hw6⟩
  have HB6 := Lib.hid (show Below w2.heap.size w2 w6 by rw [hw6]; exact bt HB5.out (grows' w5 _))
  have HT6 := Lib.hid (Tb.below HT.out HB6.out)
  clear hw6 MK1 MK2
  have HD6 := degrees_any 9223372036854775807 w6 HT6.out
  rw [milV_top] at HD6
  dsimp only at HD6
  rw [show ((110000 : Int) + 500) / 1000 = 110 by decide] at HD6
  go_wp2_with fail
  refine HD6.mono ?_
  rintro e w7 ⟨rfl, hb7⟩
  have HB7 := Lib.hid (bt HB6.out hb7)
  have HT7 := Lib.hid (Tb.below HT.out HB7.out)
  clear hb7 HD6
  have HD7 := degrees_any (-9223372036854775808) w7 HT7.out
  rw [milV_low] at HD7
  dsimp only at HD7
  rw [show ((-40000 : Int) + 500) / 1000 = -40 by decide] at HD7
  go_wp2_with fail
  refine HD7.mono ?_
  rintro e w8 ⟨rfl, hb8⟩
  have HB8 := Lib.hid (bt HB7.out hb8)
  clear hb8 HD7
  go_wp2_with fail
  go_ret
  exact ⟨rfl, HB8.out⟩
end Go.Proofs.YtkloihfnngbceaaDoor.Se
