/- Milli, Degrees, Kelvin and Raw at any voltage (P11.1, P11.2). -/
import Derived.Test.YtjpimamjcckieaaDoorSeB
import Derived.Test.YtjpimamjcckieaaDoorSeK
namespace Go.Proofs.YtjpimamjcckieaaDoor.Se
open Go.ChangeShapes Go.WideShapes Go.ChangeAt Go.RowKit Own Ro

theorem wrap_i16 (n : Int) : IntKind.i16.wrap n = (n + 32768) % 65536 - 32768 := by
  simp [IntKind.wrap, IntKind.bits, IntKind.signed]; split <;> omega
theorem tup_hh {a b c d : Int} (h1 : a = b) (h2 : c = d) : Ending.returned (.tuple #[.int .i16 a, .int .i16 c]) = Ending.returned (.tuple #[.int .i16 b, .int .i16 d]) := by rw [h1, h2]
set_option maxRecDepth 100000 in
set_option maxHeartbeats 8000000 in
theorem milli_any (m : Int) (w : World) (hT : Tb w) : Calls Tryd.prog 8 #[.int .i64 m] w (fun e w' => e = .returned (.tuple #[.int .i32 (milV m).1, .bool (milV m).2]) ∧ Below w.heap.size w w') := by
  have C0 := hT.at (i := 0) (by omega) (by omega)
  have C15 := hT.at (i := 15) (by omega) (by omega)
  rw [show ent 0 = 625000 from rfl, show (0 : Int).toNat = 0 from rfl] at C0
  rw [show ent 15 = 16937500 from rfl, show (15 : Int).toNat = 15 from rfl] at C15
  by_cases h0 : m < 625000
  · rw [show milV m = (-40000, false) by unfold milV; rw [if_pos h0]]
    clear hT
    go_enter Tryd.func8, Tryd.ntmps8
    go_wp2_with fail
    go_ret2
    exact ⟨rfl, Below.refl _ _⟩
  by_cases h1 : 16937500 ≤ m
  · rw [show milV m = (110000, decide (m = 16937500)) by unfold milV; rw [if_neg h0, if_pos h1]]
    clear hT
    go_enter Tryd.func8, Tryd.ntmps8
    have he : (m == 16937500) = decide (m = 16937500) := rfl
    generalize decide (m = 16937500) = b at he ⊢
    go_wp2_with fail
    go_quiet (fail)
    go_wp2_with fail
    go_ret2
    exact ⟨rfl, below_dr (Below.refl _ _) _⟩
  · rw [show milV m = (mil m (pos m), true) by unfold milV; rw [if_neg h0, if_neg h1]]
    exact milli_mid m (pos m) w hT (pos_at (by omega) (by omega))
theorem milV_bd (m : Int) : -40000 ≤ (milV m).1 ∧ (milV m).1 ≤ 110000 := by
  unfold milV
  split
  · simp
  · split
    · simp
    · have hp := pos_at (m := m) (by omega) (by omega)
      have := mil_bd hp
      have h1 := hp.lo
      have h2 := hp.hi
      show -40000 ≤ mil m (pos m) ∧ mil m (pos m) ≤ 110000
      unfold mil
      omega
theorem kq_run (n : Int) (t : TypeId) (w : World) : (binOp .quo t (.float .f64 (floatOfInt FloatKind.f64 n)) (.float .f64 4652007308841189376)).run Tryd.prog w = .ok (.float .f64 (kelQ n)) w := run_float_arith _ _ _ _ _ _ _ (kelQ_eq n).1
theorem kz_run (n : Int) (t : TypeId) (w : World) : (binOp .add t (.float .f64 (kelQ n)) (.float .f64 4643512921809643110)).run Tryd.prog w = .ok (.float .f64 (kelN n)) w := run_float_arith _ _ _ _ _ _ _ (kelN_eq n)
end Go.Proofs.YtjpimamjcckieaaDoor.Se
