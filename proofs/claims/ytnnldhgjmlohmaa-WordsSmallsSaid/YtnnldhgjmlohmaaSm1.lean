/- The contracts of the functions on small numbers. -/
import Derived.Test.YtnnldhgjmlohmaaProg
import Derived.WalkKit
import Derived.ProofKit
import Derived.WalkLawsBesides
import Derived.WalkSpells
import Derived.Outline
import Derived.Lib.Hide
namespace Go.Proofs.Ytnnldhgjmlohmaa.wordsSmalls
open Go.ChangeShapes Go.WideShapes Go.ChangeAt Go.RowKit

theorem ret_int {k : IntKind} {a b : Int} (h : a = b) : Ending.returned (.int k a) = .returned (.int k b) := by rw [h]
theorem ret_pair {k : IntKind} {a a' : Int} {b b' : Bool} (h : a = a') (h' : b = b') : Ending.returned (.tuple #[.int k a, .bool b]) = .returned (.tuple #[.int k a', .bool b']) := by rw [h, h']

def sat8 (n : Int) : Int := min (max n (-128)) 127
def sat16 (n : Int) : Int := min (max n (-32768)) 32767

theorem wrap_i8 (n : Int) : IntKind.i8.wrap n = (n + 128) % 256 - 128 := by
  simp [IntKind.wrap, IntKind.bits, IntKind.signed]; split <;> omega
theorem wrap_i16 (n : Int) : IntKind.i16.wrap n = (n + 32768) % 65536 - 32768 := by
  simp [IntKind.wrap, IntKind.bits, IntKind.signed]; split <;> omega

theorem wrap8_any (n : Int) (w : World) : Calls Try.prog 13 #[.int .i64 n] w fun e w' => e = .returned (.int .i8 (IntKind.i8.wrap n)) ∧ w = w' := by
  go_enter Try.func13, Try.ntmps13
  go_wp2
  go_ret
  exact ⟨rfl, rfl⟩
theorem wrap16_any (n : Int) (w : World) : Calls Try.prog 17 #[.int .i64 n] w fun e w' => e = .returned (.int .i16 (IntKind.i16.wrap n)) ∧ w = w' := by
  go_enter Try.func17, Try.ntmps17
  go_wp2
  go_ret
  exact ⟨rfl, rfl⟩
theorem sat8_any (n : Int) (w : World) (h0 : -9223372036854775808 ≤ n) (h1 : n ≤ 9223372036854775807) : Calls Try.prog 15 #[.int .i64 n] w fun e w' => e = .returned (.int .i8 (sat8 n)) ∧ w = w' := by
  go_enter Try.func15, Try.ntmps15
  go_wp2
  all_goals
    go_ret
    exact ⟨ret_int (by unfold sat8; omega), rfl⟩
theorem refSat8_any (n : Int) (w : World) (h0 : -9223372036854775808 ≤ n) (h1 : n ≤ 9223372036854775807) : Calls Try.prog 16 #[.int .i64 n] w fun e w' => e = .returned (.int .i8 (sat8 n)) ∧ w = w' := by
  go_enter Try.func16, Try.ntmps16
  go_wp2
  all_goals
    go_ret
    exact ⟨ret_int (by unfold sat8; omega), rfl⟩
theorem sat16_any (n : Int) (w : World) (h0 : -9223372036854775808 ≤ n) (h1 : n ≤ 9223372036854775807) : Calls Try.prog 19 #[.int .i64 n] w fun e w' => e = .returned (.int .i16 (sat16 n)) ∧ w = w' := by
  go_enter Try.func19, Try.ntmps19
  go_wp2
  all_goals
    go_ret
    exact ⟨ret_int (by unfold sat16; omega), rfl⟩
theorem refSat16_any (n : Int) (w : World) (h0 : -9223372036854775808 ≤ n) (h1 : n ≤ 9223372036854775807) : Calls Try.prog 20 #[.int .i64 n] w fun e w' => e = .returned (.int .i16 (sat16 n)) ∧ w = w' := by
  go_enter Try.func20, Try.ntmps20
  go_wp2
  all_goals
    go_ret
    exact ⟨ret_int (by unfold sat16; omega), rfl⟩

def m8 (n : Int) : Int := (n + 128) % 256 - 128
def m16 (n : Int) : Int := (n + 32768) % 65536 - 32768
theorem tm_bd (n m : Int) (h : 0 < m) : -m < n.tmod m ∧ n.tmod m < m ∧ n = m * n.tdiv m + n.tmod m := by
  refine ⟨?_, Int.tmod_lt_of_pos n h, (Int.mul_tdiv_add_tmod n m).symm⟩
  have h1 := Int.natAbs_tmod n m
  have h2 : n.natAbs % m.natAbs < m.natAbs := Nat.mod_lt _ (by omega)
  omega
theorem wrapped8_any (n : Int) (w : World) (h0 : -9223372036854775808 ≤ n) (h1 : n ≤ 9223372036854775807) : Calls Try.prog 23 #[.int .i64 n, .int .i64 128] w fun e w' => e = .returned (.int .i64 (m8 n)) ∧ w = w' := by
  obtain ⟨t1, t2, t3⟩ := tm_bd n 256 (by omega)
  have H3 := Lib.hid t3
  clear t3
  go_enter Try.func23, Try.ntmps23
  go_wp2
  all_goals
    go_ret
    exact ⟨ret_int (by have := H3.out; unfold m8; omega), rfl⟩
theorem wrapped16_any (n : Int) (w : World) (h0 : -9223372036854775808 ≤ n) (h1 : n ≤ 9223372036854775807) : Calls Try.prog 23 #[.int .i64 n, .int .i64 32768] w fun e w' => e = .returned (.int .i64 (m16 n)) ∧ w = w' := by
  obtain ⟨t1, t2, t3⟩ := tm_bd n 65536 (by omega)
  have H3 := Lib.hid t3
  clear t3
  go_enter Try.func23, Try.ntmps23
  go_wp2
  all_goals
    go_ret
    exact ⟨ret_int (by have := H3.out; unfold m16; omega), rfl⟩
theorem refWrap8_any (n : Int) (w : World) (h0 : -9223372036854775808 ≤ n) (h1 : n ≤ 9223372036854775807) : Calls Try.prog 14 #[.int .i64 n] w fun e w' => e = .returned (.int .i8 (IntKind.i8.wrap n)) ∧ w = w' := by
  go_enter Try.func14, Try.ntmps14
  go_wp2_with (go_at_call 23; refine (wrapped8_any _ _ h0 h1).mono ?_; rintro e w1 ⟨rfl, rfl⟩)
  go_ret
  exact ⟨ret_int (by rw [wrap_i8, wrap_i8]; unfold m8; omega), rfl⟩
theorem refWrap16_any (n : Int) (w : World) (h0 : -9223372036854775808 ≤ n) (h1 : n ≤ 9223372036854775807) : Calls Try.prog 18 #[.int .i64 n] w fun e w' => e = .returned (.int .i16 (IntKind.i16.wrap n)) ∧ w = w' := by
  go_enter Try.func18, Try.ntmps18
  go_wp2_with (go_at_call 23; refine (wrapped16_any _ _ h0 h1).mono ?_; rintro e w1 ⟨rfl, rfl⟩)
  go_ret
  exact ⟨ret_int (by rw [wrap_i16, wrap_i16]; unfold m16; omega), rfl⟩

theorem step_any (a b : Int) (w : World) (ha0 : -32768 ≤ a) (ha1 : a ≤ 32767) (hb0 : -32768 ≤ b) (hb1 : b ≤ 32767) :
    Calls Try.prog 11 #[.int .i16 a, .int .i16 b] w fun e w' => e = .returned (.tuple #[.int .i16 (sat16 (a + b)), .bool (decide (-32768 ≤ a + b ∧ a + b ≤ 32767))]) ∧ w = w' := by
  have hs : -32768 ≤ sat16 (a + b) ∧ sat16 (a + b) ≤ 32767 := by unfold sat16; omega
  obtain ⟨hs1, hs2⟩ := hs
  go_enter Try.func11, Try.ntmps11
  go_wp2_with (go_at_call 19; refine (sat16_any _ _ (by omega) (by omega)).mono ?_; rintro e w1 ⟨rfl, rfl⟩)
  go_ret2
  exact ⟨ret_pair rfl (by unfold sat16; rw [Bool.eq_iff_iff]; simp; omega), rfl⟩
theorem refStep_any (a b : Int) (w : World) (ha0 : -32768 ≤ a) (ha1 : a ≤ 32767) (hb0 : -32768 ≤ b) (hb1 : b ≤ 32767) :
    Calls Try.prog 12 #[.int .i16 a, .int .i16 b] w fun e w' => e = .returned (.tuple #[.int .i16 (sat16 (a + b)), .bool (decide (-32768 ≤ a + b ∧ a + b ≤ 32767))]) ∧ w = w' := by
  by_cases c1 : -32768 ≤ a + b
  · go_enter Try.func12, Try.ntmps12
    go_wp2_with (go_at_call 20; refine (refSat16_any _ _ (by omega) (by omega)).mono ?_; rintro e w1 ⟨rfl, rfl⟩)
    go_ret2
    exact ⟨ret_pair rfl (by rw [Bool.eq_iff_iff]; simp; omega), rfl⟩
  · go_enter Try.func12, Try.ntmps12
    go_wp2_with (go_at_call 20; refine (refSat16_any _ _ (by omega) (by omega)).mono ?_; rintro e w1 ⟨rfl, rfl⟩)
    go_ret2
    exact ⟨ret_pair rfl (by rw [Bool.eq_iff_iff]; simp; omega), rfl⟩
end Go.Proofs.Ytnnldhgjmlohmaa.wordsSmalls
