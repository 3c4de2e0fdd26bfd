/- The contracts of the two means, over a row of small numbers in memory. -/
import Derived.Test.YtoepejokkfhiaaaGreatDoorSm1
namespace Go.Proofs.YtoepejokkfhiaaaGreatDoor.wordsSmalls
open Go.ChangeShapes Go.WideShapes Go.ChangeAt Go.RowKit

/-- All of them are numbers of eight bits. -/
def Small (xs : List Int) : Prop := ∀ i, i < xs.length → -128 ≤ xs.getD i 0 ∧ xs.getD i 0 ≤ 127
def sumTo (xs : List Int) : Nat → Int
  | 0 => 0
  | k + 1 => sumTo xs k + xs.getD k 0
theorem sumTo_bd {xs : List Int} (h : Small xs) : ∀ k, k ≤ xs.length → -128 * (k : Int) ≤ sumTo xs k ∧ sumTo xs k ≤ 127 * (k : Int)
  | 0, _ => by simp [sumTo]
  | k + 1, hk => by
    have h1 := sumTo_bd h k (by omega)
    have h2 := h k (by omega)
    simp only [sumTo]
    omega
/-- The mean of these numbers, to below. -/
def mean (xs : List Int) : Int := sumTo xs xs.length / (xs.length : Int)

theorem floor_of (S n : Int) (hn : 0 < n) : (if S.tmod n < 0 then S.tdiv n - 1 else S.tdiv n) = S / n := by
  obtain ⟨h1, h2, h3⟩ := tm_bd S n hn
  split
  · rename_i h
    have e : n * (S.tdiv n - 1) = n * S.tdiv n - n := by rw [Int.mul_sub, Int.mul_one]
    exact (((Int.ediv_emod_unique (a := S) (b := n) (r := S.tmod n + n) (q := S.tdiv n - 1) hn).2 ⟨by omega, by omega, by omega⟩).1).symm
  · rename_i h
    exact (((Int.ediv_emod_unique (a := S) (b := n) (r := S.tmod n) (q := S.tdiv n) hn).2 ⟨by omega, by omega, by omega⟩).1).symm
theorem tdiv_bd (S n : Int) (hn : 0 < n) (h0 : -128 * n ≤ S) (h1 : S ≤ 127 * n) : -128 ≤ S.tdiv n ∧ S.tdiv n ≤ 127 := by
  obtain ⟨t1, t2, t3⟩ := tm_bd S n hn
  constructor
  · apply Int.not_lt.1
    intro h
    have : n * (S.tdiv n + 129) ≤ n * 0 := Int.mul_le_mul_of_nonneg_left (by omega) (by omega)
    rw [Int.mul_add, Int.mul_zero] at this
    omega
  · apply Int.not_lt.1
    intro h
    have : n * 0 ≤ n * (S.tdiv n - 128) := Int.mul_le_mul_of_nonneg_left (by omega) (by omega)
    rw [Int.mul_sub, Int.mul_zero] at this
    omega
theorem mean_bd {xs : List Int} (h : Small xs) (hx : 0 < xs.length) : -128 ≤ mean xs ∧ mean xs ≤ 127 := by
  have hb := sumTo_bd h xs.length (Nat.le_refl _)
  unfold mean
  constructor
  · exact (Int.le_ediv_iff_mul_le (by omega)).2 hb.1
  · exact Int.ediv_le_of_le_mul (by omega) hb.2

theorem ret_mean {a a' : Int} (h : a = a') : Ending.returned (.tuple #[.int .i8 a, .int .i64 0]) = .returned (.tuple #[.int .i8 a', .int .i64 0]) := by rw [h]

theorem mean_none (A : Option Addr) (c : Nat) (w : World) :
    Calls Tryz.prog 8 #[.slice A 0 c] w fun e w' => e = .returned (.tuple #[.int .i8 0, .int .i64 1]) ∧ w = w' := by
  go_enter Tryz.func8, Tryz.ntmps8
  go_wp2
  go_ret2
  exact ⟨rfl, rfl⟩
set_option maxHeartbeats 400000 in
theorem mean_row (b off c : Nat) (xs : List Int) (w : World) (hx : 0 < xs.length) (hn : xs.length ≤ 140737488355328) (hs : Small xs)
    (hc : ∀ i, i < xs.length → w.cell? ⟨b, off + i, none⟩ = some (.int .i8 (xs.getD i 0))) :
    Calls Tryz.prog 8 #[.slice (some ⟨b, off, none⟩) xs.length c] w fun e w' => e = .returned (.tuple #[.int .i8 (mean xs), .int .i64 0]) ∧ w = w' := by
  have hne : ((xs.length : Int) == 0) = false := beq_eq_false_iff_ne.2 (by omega)
  have HC := Lib.hid hc
  have HS := Lib.hid hs
  clear hc hs
  go_enter Tryz.func8, Tryz.ntmps8
  go_wp2
  go_loop [4, 16] (fun t i => ∃ k : Nat, k ≤ xs.length ∧ i = .int .i64 k ∧ t = .int .i64 (sumTo xs k)) (fun _ i => xs.length - (intOf i).toNat)
  case atStart => exact ⟨0, Nat.zero_le _, rfl, rfl⟩
  case round =>
    obtain ⟨k, hk, rfl, rfl⟩ := hrel
    obtain ⟨s1, s2⟩ := sumTo_bd HS.out k hk
    by_cases hlt : k < xs.length
    · obtain ⟨x1, x2⟩ := HS.out k hlt
      have hcell := HC.out k hlt
      generalize hx' : xs.getD k 0 = x at x1 x2 hcell
      have HX := Lib.hid hx'
      clear hx'
      go_wp2
      go_round
      case rel => exact ⟨k + 1, by omega, by go_num, by rw [sumTo, HX.out]⟩
      case measure => simp [intOf]; omega
    · obtain rfl : k = xs.length := by omega
      obtain ⟨t1, t2⟩ := tdiv_bd (sumTo xs xs.length) xs.length (by omega) s1 s2
      have HF := Lib.hid (floor_of (sumTo xs xs.length) xs.length (by omega))
      have HB := Lib.hid (mean_bd HS.out hx)
      by_cases hm : (sumTo xs xs.length).tmod xs.length < 0
      · go_wp2_with (go_at_call 10; refine (wrap8_any _ _).mono ?_; rintro e w1 ⟨rfl, rfl⟩)
        go_ret2
        exact ⟨ret_mean (by have h1 := HF.out; have h2 := HB.out; rw [if_pos hm] at h1; unfold mean at *; rw [wrap_i8]; omega), rfl⟩
      · go_wp2_with (go_at_call 10; refine (wrap8_any _ _).mono ?_; rintro e w1 ⟨rfl, rfl⟩)
        go_ret2
        exact ⟨ret_mean (by have h1 := HF.out; have h2 := HB.out; rw [if_neg (by omega)] at h1; unfold mean at *; rw [wrap_i8]; omega), rfl⟩

theorem mul_bd (j n : Int) (h0 : -128 ≤ j) (h1 : j ≤ 127) (hn0 : 0 ≤ n) (hn : n ≤ 140737488355328) : -18014398509481984 ≤ (j + 1) * n ∧ (j + 1) * n ≤ 18014398509481984 := by
  have a1 : (-127) * n ≤ (j + 1) * n := Int.mul_le_mul_of_nonneg_right (by omega) hn0
  have a2 : (j + 1) * n ≤ 128 * n := Int.mul_le_mul_of_nonneg_right (by omega) hn0
  omega
theorem div_of (S n j : Int) (hn : 0 < n) (h0 : j * n ≤ S) (h1 : S < (j + 1) * n) : S / n = j := by
  have a1 : j ≤ S / n := (Int.le_ediv_iff_mul_le hn).2 h0
  have a2 : S / n < j + 1 := (Int.ediv_lt_iff_lt_mul hn).2 h1
  omega
theorem le_of (S n j : Int) (hn : 0 < n) (h0 : j * n ≤ S) (h1 : S ≤ 127 * n) : j ≤ 127 := by
  apply Int.not_lt.1
  intro h
  have : 128 * n ≤ j * n := Int.mul_le_mul_of_nonneg_right (by omega) (by omega)
  omega

end Go.Proofs.YtoepejokkfhiaaaGreatDoor.wordsSmalls
