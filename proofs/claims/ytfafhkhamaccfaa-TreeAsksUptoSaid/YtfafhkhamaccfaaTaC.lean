/- The end of what is beneath a node: the program's endOf. -/
import Derived.Test.YtfafhkhamaccfaaTaB
namespace Go.Proofs.Ytfafhkhamaccfaa.Tr
open Go.ChangeShapes Go.WideShapes Go.ChangeAt Go.RowKit Own wordsNames

/-- The nodes from i on to the place e hang on i or behind it; the next does not. -/
def EndAt (L : List Nd) (n i e : Nat) : Prop := i < e ∧ e ≤ n ∧ (∀ k, i < k → k < e → (i : Int) ≤ (L.getD k nd0).parent) ∧ (e = n ∨ (L.getD e nd0).parent < (i : Int))
set_option maxHeartbeats 2000000 in
theorem endOf_any (A : Option Addr) (c n i : Nat) (L : List Nd) (R : List Sl) (w : World) (hi : i < n) (hnb : n ≤ 16777216) (hA : NodesIn w A n L R) :
    Calls Try.prog 23 #[.slice A n c, .int .i64 (i : Int)] w fun e w' => ∃ z : Nat, e = .returned (.int .i64 (z : Int)) ∧ EndAt L n i z ∧ Below w.heap.size w w' := by
  have GA := Lib.hid hA
  clear hA
  go_enter Try.func23, Try.ntmps23
  go_wp2_with fail
  go_loopw [5] (fun v5 wr => ∃ k : Nat, i < k ∧ k ≤ n ∧ v5 = .int .i64 (k : Int) ∧ Hid (∀ j, i < j → j < k → (i : Int) ≤ (L.getD j nd0).parent) ∧ Below w.heap.size w wr) (fun v5 _ => n - (RowKit.intOf v5).toNat)
  case atStart => exact ⟨i + 1, by omega, by omega, by go_num, Lib.hid fun j h1 h2 => by omega, Below.refl _ _⟩
  case round =>
    obtain ⟨k, hik, hk, rfl, HK, hbw⟩ := hrel
    have HB := Lib.hid hbw
    clear hbw
    by_cases hkn : k < n
    · obtain ⟨b, o, rfl, hbs, hc⟩ := (GA.out.below HB.out).at (by omega)
      have e0 := (hc k hkn).1.1
      have HY : Hid ((i : Int) ≤ (L.getD k nd0).parent → ∀ j, i < j → j < k + 1 → (i : Int) ≤ (L.getD j nd0).parent) := Lib.hid fun h j h1 h2 => by
        by_cases hjk : j = k
        · rw [hjk]; exact h
        · exact HK.out j h1 (by omega)
      have HX : Hid ((L.getD k nd0).parent < (i : Int) → EndAt L n i k) := Lib.hid fun h => ⟨hik, hk, HK.out, .inr h⟩
      clear hc
      generalize (L.getD k nd0).parent = z at e0 HY HX
      have t0 : decide ((k : Int) < (n : Int)) = true := decide_eq_true (by omega)
      have k1 : (0 : Int) ≤ (k : Int) := by omega
      have k2 : (k : Int) < (n : Int) := by omega
      by_cases hz : (i : Int) ≤ z
      · have t1 : decide ((i : Int) ≤ z) = true := decide_eq_true hz
        have HY2 := Lib.hid (HY.out hz)
        clear hz
        go_wp2_with fail
        go_roundw
        case rel => exact ⟨k + 1, by omega, by omega, by go_num, HY2, HB.out⟩
        case measure => simp [RowKit.intOf]; omega
      · have t1 : decide ((i : Int) ≤ z) = false := decide_eq_false hz
        have HE := Lib.hid (HX.out (by omega))
        clear hz
        go_wp2_with fail
        go_ret
        exact ⟨k, rfl, HE.out, HB.out⟩
    · obtain rfl : n = k := by omega
      have t0 : decide ((n : Int) < (n : Int)) = false := decide_eq_false (by omega)
      have HE : Hid (EndAt L n i n) := Lib.hid ⟨hik, hk, HK.out, .inl rfl⟩
      go_wp2_with fail
      go_ret
      exact ⟨n, rfl, HE.out, HB.out⟩
end Go.Proofs.Ytfafhkhamaccfaa.Tr
