/- The contracts of the functions on small numbers. -/
import Derived.Test.YtoepejokkfhiaaaGreatDoorProg
import Derived.WalkKit
import Derived.ProofKit
import Derived.WalkLawsBesides
import Derived.WalkSpells
import Derived.Outline
import Derived.Lib.Hide
namespace Go.Proofs.YtoepejokkfhiaaaGreatDoor.wordsSmalls
open Go.ChangeShapes Go.WideShapes Go.ChangeAt Go.RowKit

theorem ret_int {k : IntKind} {a b : Int} (h : a = b) : Ending.returned (.int k a) = .returned (.int k b) := by rw [h]
theorem ret_pair {k : IntKind} {a a' : Int} {b b' : Bool} (h : a = a') (h' : b = b') : Ending.returned (.tuple #[.int k a, .bool b]) = .returned (.tuple #[.int k a', .bool b']) := by rw [h, h']

def sat8 (n : Int) : Int := min (max n (-128)) 127
def sat16 (n : Int) : Int := min (max n (-32768)) 32767

theorem wrap_i8 (n : Int) : IntKind.i8.wrap n = (n + 128) % 256 - 128 := by
  simp [IntKind.wrap, IntKind.bits, IntKind.signed]; split <;> omega
theorem wrap_i16 (n : Int) : IntKind.i16.wrap n = (n + 32768) % 65536 - 32768 := by
  simp [IntKind.wrap, IntKind.bits, IntKind.signed]; split <;> omega

theorem wrap8_any (n : Int) (w : World) : Calls Tryz.prog 10 #[.int .i64 n] w fun e w' => e = .returned (.int .i8 (IntKind.i8.wrap n)) ∧ w = w' := by
  go_enter Tryz.func10, Tryz.ntmps10
  go_wp2
  go_ret
  exact ⟨rfl, rfl⟩
theorem wrap16_any (n : Int) (w : World) : Calls Tryz.prog 12 #[.int .i64 n] w fun e w' => e = .returned (.int .i16 (IntKind.i16.wrap n)) ∧ w = w' := by
  go_enter Tryz.func12, Tryz.ntmps12
  go_wp2
  go_ret
  exact ⟨rfl, rfl⟩
theorem sat8_any (n : Int) (w : World) (h0 : -9223372036854775808 ≤ n) (h1 : n ≤ 9223372036854775807) : Calls Tryz.prog 11 #[.int .i64 n] w fun e w' => e = .returned (.int .i8 (sat8 n)) ∧ w = w' := by
  go_enter Tryz.func11, Tryz.ntmps11
  go_wp2
  all_goals
    go_ret
    exact ⟨ret_int (by unfold sat8; omega), rfl⟩
theorem sat16_any (n : Int) (w : World) (h0 : -9223372036854775808 ≤ n) (h1 : n ≤ 9223372036854775807) : Calls Tryz.prog 13 #[.int .i64 n] w fun e w' => e = .returned (.int .i16 (sat16 n)) ∧ w = w' := by
  go_enter Tryz.func13, Tryz.ntmps13
  go_wp2
  all_goals
    go_ret
    exact ⟨ret_int (by unfold sat16; omega), rfl⟩
def m8 (n : Int) : Int := (n + 128) % 256 - 128
def m16 (n : Int) : Int := (n + 32768) % 65536 - 32768
theorem tm_bd (n m : Int) (h : 0 < m) : -m < n.tmod m ∧ n.tmod m < m ∧ n = m * n.tdiv m + n.tmod m := by
  refine ⟨?_, Int.tmod_lt_of_pos n h, (Int.mul_tdiv_add_tmod n m).symm⟩
  have h1 := Int.natAbs_tmod n m
  have h2 : n.natAbs % m.natAbs < m.natAbs := Nat.mod_lt _ (by omega)
  omega
theorem step_any (a b : Int) (w : World) (ha0 : -32768 ≤ a) (ha1 : a ≤ 32767) (hb0 : -32768 ≤ b) (hb1 : b ≤ 32767) :
    Calls Tryz.prog 7 #[.int .i16 a, .int .i16 b] w fun e w' => e = .returned (.tuple #[.int .i16 (sat16 (a + b)), .bool (decide (-32768 ≤ a + b ∧ a + b ≤ 32767))]) ∧ w = w' := by
  have hs : -32768 ≤ sat16 (a + b) ∧ sat16 (a + b) ≤ 32767 := by unfold sat16; omega
  obtain ⟨hs1, hs2⟩ := hs
  go_enter Tryz.func7, Tryz.ntmps7
  go_wp2_with (go_at_call 13; refine (sat16_any _ _ (by omega) (by omega)).mono ?_; rintro e w1 ⟨rfl, rfl⟩)
  go_ret2
  exact ⟨ret_pair rfl (by unfold sat16; rw [Bool.eq_iff_iff]; simp; omega), rfl⟩
end Go.Proofs.YtoepejokkfhiaaaGreatDoor.wordsSmalls
