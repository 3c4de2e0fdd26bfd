/- What a voltage tells (P11.1): floors, and Milli, the program's and the document's. -/
import Derived.Test.YtjpimamjcckieaaDoorSeA
namespace Go.Proofs.YtjpimamjcckieaaDoor.Se
open Go.ChangeShapes Go.WideShapes Go.ChangeAt Go.RowKit Own Ro

theorem tm_bd (n : Int) {b : Int} (hb : 0 < b) : -b < n.tmod b ∧ n.tmod b < b := by
  refine ⟨?_, Int.tmod_lt_of_pos _ hb⟩
  by_cases h : 0 ≤ n
  · have := Int.tmod_nonneg b h; omega
  · have h2 := Int.tmod_lt_of_pos (-n) (b := b) hb
    rw [Int.neg_tmod] at h2; omega
theorem fl_nn {n b : Int} (hb : 0 < b) (h : 0 ≤ n.tmod b) : n / b = n.tdiv b := by
  have s := Int.mul_tdiv_add_tmod n b
  have := tm_bd n hb
  exact ((Int.ediv_emod_unique (a := n) (b := b) (q := n.tdiv b) (r := n.tmod b) hb).2 ⟨by omega, h, this.2⟩).1
theorem fl_neg {n b : Int} (hb : 0 < b) (h : n.tmod b < 0) : n / b = n.tdiv b - 1 := by
  have s := Int.mul_tdiv_add_tmod n b
  have := tm_bd n hb
  refine ((Int.ediv_emod_unique (a := n) (b := b) (q := n.tdiv b - 1) (r := n.tmod b + b) hb).2 ⟨?_, by omega, by omega⟩).1
  rw [Int.mul_sub]; omega
theorem tm_sg (n b : Int) : (0 ≤ n ∧ 0 ≤ n.tmod b ∧ n.tmod b ≤ n) ∨ (n < 0 ∧ n.tmod b ≤ 0 ∧ n ≤ n.tmod b) := by
  have h2 : (n.tmod b).natAbs = n.natAbs % b.natAbs := Int.natAbs_tmod n b
  have h3 : n.natAbs % b.natAbs ≤ n.natAbs := Nat.mod_le _ _
  by_cases h : 0 ≤ n
  · have := Int.tmod_nonneg b h; omega
  · have h4 := Int.tmod_nonneg (a := -n) b (by omega)
    rw [Int.neg_tmod] at h4; omega
theorem tq_bd (n : Int) {b : Int} (hb : 1 < b) (h0 : -9223372036854775808 ≤ n) (h1 : n ≤ 9223372036854775807) : -4611686018427387904 ≤ n.tdiv b ∧ n.tdiv b ≤ 4611686018427387904 := by
  have s : (n.tdiv b).natAbs = n.natAbs / b.natAbs := Int.natAbs_tdiv n b
  have h2 : n.natAbs / b.natAbs ≤ n.natAbs / 2 := Nat.div_le_div_left (by omega) (by omega)
  omega
theorem tq_mul (n b : Int) : n.tdiv b * b = n - n.tmod b := by
  have s := Int.mul_tdiv_add_tmod n b
  rw [Int.mul_comm]; omega
/-- Where a voltage lies on the curve. -/
structure At (m i : Int) : Prop where
  lo : 0 ≤ i
  hi : i ≤ 14
  ge : ent i ≤ m
  lt : m < ent (i + 1)
def mil (m i : Int) : Int := -40000 + 10000 * i + 10000 * (m - ent i) / (ent (i + 1) - ent i)
def pos (m : Int) : Int := if m < 2122500 then 0 else min 14 ((m - 1100000) / 1022500)
theorem pos_at {m : Int} (h0 : 625000 ≤ m) (h1 : m < 16937500) : At m (pos m) := by
  unfold pos
  split
  · exact ⟨by omega, by omega, by unfold ent; simp; omega, by unfold ent; simp; omega⟩
  · refine ⟨by omega, by omega, ?_, ?_⟩
    · unfold ent; rw [if_neg (by omega), if_neg (by omega)]; omega
    · unfold ent
      rw [if_neg (by omega)]
      split <;> omega
theorem step_bd (i : Int) (h0 : 0 ≤ i) (h1 : i ≤ 14) : 1022500 ≤ ent (i + 1) - ent i ∧ ent (i + 1) - ent i ≤ 1522500 := by
  unfold ent
  rw [if_neg (show ¬ i + 1 = 0 by omega)]
  split <;> split <;> (try split) <;> omega
theorem mil_bd {m i : Int} (h : At m i) : 0 ≤ 10000 * (m - ent i) / (ent (i + 1) - ent i) ∧ 10000 * (m - ent i) / (ent (i + 1) - ent i) < 10000 := by
  obtain ⟨h1, h2, h3, h4⟩ := h
  have hs := step_bd i h1 h2
  have hd : m - ent i < ent (i + 1) - ent i := by omega
  generalize ent (i + 1) - ent i = d at hs hd
  refine ⟨Int.ediv_nonneg (by omega) (by omega), Int.ediv_lt_of_lt_mul (by omega) (by omega)⟩
theorem ent_le {i k : Int} (h0 : 0 ≤ i) (h1 : i ≤ k) (h2 : k < 16) : ent i ≤ ent k := by
  rcases Int.lt_or_eq_of_le h1 with h | rfl
  · have := ent_lt i k h0 h h2; omega
  · omega
/-- What it tells, in thousandths of a degree, and whether it is on the curve. -/
def milV (m : Int) : Int × Bool := if m < 625000 then (-40000, false) else if 16937500 ≤ m then (110000, decide (m = 16937500)) else (mil m (pos m), true)
set_option maxRecDepth 100000 in
set_option maxHeartbeats 8000000 in
theorem milli_mid (m i : Int) (w : World) (hT : Tb w) (h : At m i) : Calls Tryd.prog 8 #[.int .i64 m] w (fun e w' => e = .returned (.tuple #[.int .i32 (mil m i), .bool true]) ∧ Below w.heap.size w w') := by
  have HT := Lib.hid hT
  have HA := Lib.hid h
  have C0 := hT.at (i := 0) (by omega) (by omega)
  have C15 := hT.at (i := 15) (by omega) (by omega)
  rw [show ent 0 = 625000 from rfl, show (0 : Int).toNat = 0 from rfl] at C0
  rw [show ent 15 = 16937500 from rfl, show (15 : Int).toNat = 15 from rfl] at C15
  have m0 : ¬ m < 625000 := by have := ent_le (Int.le_refl 0) h.lo (by have := h.hi; omega); have := h.ge; rw [show ent 0 = 625000 from rfl] at *; omega
  have m1 : ¬ 16937500 ≤ m := by have := ent_le (i := i + 1) (k := 15) (by have := h.lo; omega) (by have := h.hi; omega) (by omega); have := h.lt; rw [show ent 15 = 16937500 from rfl] at *; omega
  clear hT h
  go_enter Tryd.func8, Tryd.ntmps8
  go_wp2_with fail
  go_loopw [4] (fun v4 wr => ∃ k : Int, i ≤ k ∧ k ≤ 14 ∧ v4 = .int .i64 k ∧ wr = w) (fun v4 _ => (RowKit.intOf v4).toNat)
  case atStart => exact ⟨14, HA.out.hi, by omega, rfl, rfl⟩
  case round =>
    obtain ⟨k, hk0, hk, rfl, rfl⟩ := hrel
    have hi := HA.out.lo
    have k0 : 0 ≤ k := by omega
    have k15 : k < 16 := by omega
    have CK := HT.out.at k0 k15
    by_cases hlt : i < k
    · have hc : m < ent k := by have := ent_le (i := i + 1) (k := k) (by omega) (by omega) (by omega); have := HA.out.lt; omega
      have kk : 0 < k := by omega
      clear hi
      generalize ent k = ek at CK hc
      go_wp2_with fail
      go_roundw
      case rel => exact ⟨k - 1, by omega, by omega, by go_num, by first | rfl | trivial⟩
      case measure => simp [RowKit.intOf]; omega
    · obtain rfl : i = k := by omega
      have hc : ¬ m < ent i := by have := HA.out.ge; omega
      clear k0
      have k0 : 0 ≤ i := HA.out.lo
      have CK1 := HT.out.at (i := i + 1) (by omega) (by omega)
      have hs := step_bd i k0 hk
      have hb := mil_bd HA.out
      have hg := HA.out.ge
      have hl := HA.out.lt
      have hm : mil m i = -40000 + 10000 * i + 10000 * (m - ent i) / (ent (i + 1) - ent i) := rfl
      generalize ent i = e0 at CK hc hs hb hg hl hm
      generalize ent (i + 1) = e1 at CK1 hs hb hl hm
      have hq : (10000 * (m - e0)).tdiv (e1 - e0) = 10000 * (m - e0) / (e1 - e0) := Int.tdiv_eq_ediv_of_nonneg (by omega)
      rw [← hq] at hm hb
      replace hm := Lib.hid hm
      have hz : ¬ e1 - e0 = 0 := by omega
      have i1 : 0 ≤ i + 1 := by omega
      have i2 : i + 1 < 16 := by omega
      clear hq
      go_wp2_with fail
      go_quiet (fail)
      generalize (10000 * (m - e0)).tdiv (e1 - e0) = q at hb hm ⊢
      go_wp2_with fail
      go_ret2
      rw [hm.out]
      exact ⟨rfl, below_dr (Below.refl _ _) _⟩
end Go.Proofs.YtjpimamjcckieaaDoor.Se
