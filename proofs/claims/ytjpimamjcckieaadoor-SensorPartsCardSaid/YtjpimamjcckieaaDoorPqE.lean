/- slices.Sort over small numbers: the pivot is chosen. -/
import Derived.Test.YtjpimamjcckieaaDoorPqD
namespace Go.Proofs.YtjpimamjcckieaaDoor.Pq
open Go.ChangeShapes Go.WideShapes Go.ChangeAt Go.RowKit Go.Sort Go.Shelf

def hintV : Hint → Int
  | .unknown => 0
  | .increasing => 1
  | .decreasing => 2
def hintOf (s : Nat) : Hint := if s = 0 then .increasing else if s = 12 then .decreasing else .unknown
theorem choose_mid {d : Array Int} {a b : Nat} (h1 : 8 ≤ b - a) (h2 : ¬ 50 ≤ b - a) : choosePivot ltInt d a b = ((median ltInt d (a + (b - a) / 4 * 1) (a + (b - a) / 4 * 2) (a + (b - a) / 4 * 3) 0).1, hintOf (median ltInt d (a + (b - a) / 4 * 1) (a + (b - a) / 4 * 2) (a + (b - a) / 4 * 3) 0).2) := by
  unfold choosePivot hintOf
  simp only [ge_iff_le, if_pos h1, if_neg h2]
def mA (d : Array Int) (a b : Nat) : Nat × Nat := medianAdjacent ltInt d (a + (b - a) / 4 * 1) 0
def mB (d : Array Int) (a b : Nat) : Nat × Nat := medianAdjacent ltInt d (a + (b - a) / 4 * 2) (mA d a b).2
def mC (d : Array Int) (a b : Nat) : Nat × Nat := medianAdjacent ltInt d (a + (b - a) / 4 * 3) (mB d a b).2
theorem choose_big {d : Array Int} {a b : Nat} (h2 : 50 ≤ b - a) : choosePivot ltInt d a b = ((median ltInt d (mA d a b).1 (mB d a b).1 (mC d a b).1 (mC d a b).2).1, hintOf (median ltInt d (mA d a b).1 (mB d a b).1 (mC d a b).1 (mC d a b).2).2) := by
  unfold choosePivot hintOf
  simp only [ge_iff_le, if_pos (show 8 ≤ b - a by omega), if_pos h2]
  rfl
set_option maxRecDepth 100000 in
set_option maxHeartbeats 16000000 in
theorem choose_any (blk off cap a b : Nat) (d0 d : Array Int) (w0 w : World) (R : Row1 enc w0 blk off d0) (hs : d.size = d0.size) (S : SW enc w0 blk off d w) (hb : b ≤ d.size) (hsz : d.size < 1152921504606846976) (hl : 13 ≤ b - a) :
    Calls Tryd.prog 15 #[.slice (some ⟨blk, off, none⟩) d.size cap, .int .i64 (a : Int), .int .i64 (b : Int)] w fun e w' => e = .returned (.tuple #[.int .i64 ((choosePivot ltInt d a b).1 : Nat), .int .i64 (hintV (choosePivot ltInt d a b).2)]) ∧ SW enc w0 blk off d w' := by
  obtain ⟨l, hlz⟩ : ∃ l : Nat, (b : Int) - (a : Int) = (l : Int) := ⟨b - a, by omega⟩
  have HL := Lib.hid (show l = b - a by omega)
  obtain ⟨q, hq⟩ : ∃ q : Nat, (l : Int).tdiv 4 = (q : Int) := ⟨l / 4, by rw [Int.tdiv_eq_ediv_of_nonneg (by omega)]; omega⟩
  have hqn : q = l / 4 := by rw [Int.tdiv_eq_ediv_of_nonneg (by omega)] at hq; omega
  obtain ⟨i, hi⟩ : ∃ i : Nat, (a : Int) + (q : Int) = (i : Int) := ⟨a + q, by omega⟩
  obtain ⟨j, hj⟩ : ∃ j : Nat, (a : Int) + (q : Int) * 2 = (j : Int) := ⟨a + q * 2, by omega⟩
  obtain ⟨k, hk⟩ : ∃ k : Nat, (a : Int) + (q : Int) * 3 = (k : Int) := ⟨a + q * 3, by omega⟩
  have HI := Lib.hid (show i = a + (b - a) / 4 * 1 ∧ j = a + (b - a) / 4 * 2 ∧ k = a + (b - a) / 4 * 3 by rw [← HL.out, ← hqn]; omega)
  have HQ := Lib.hid (show 1 ≤ i ∧ i < j ∧ j < k ∧ k + 1 < d.size by omega)
  have w1 : IntKind.i64.wrap (l : Int) = (l : Int) := by rw [IntKind.wrap_i64]; omega
  have w2 : IntKind.i64.wrap (q : Int) = (q : Int) := by rw [IntKind.wrap_i64]; omega
  have w3 : IntKind.i64.wrap ((q : Int) * 2) = (q : Int) * 2 := by rw [IntKind.wrap_i64]; omega
  have w4 : IntKind.i64.wrap ((q : Int) * 3) = (q : Int) * 3 := by rw [IntKind.wrap_i64]; omega
  have w5 : IntKind.i64.wrap (i : Int) = (i : Int) := by rw [IntKind.wrap_i64]; omega
  have w6 : IntKind.i64.wrap (j : Int) = (j : Int) := by rw [IntKind.wrap_i64]; omega
  have w7 : IntKind.i64.wrap (k : Int) = (k : Int) := by rw [IntKind.wrap_i64]; omega
  have h8 : (8 : Int) ≤ (l : Int) := by omega
  have HZ := Lib.hid hs
  have S0 := Lib.hid (Cnt1.start S 3)
  clear hqn S hs
  by_cases h50 : 50 ≤ l
  · have h50z : (50 : Int) ≤ (l : Int) := by omega
    rw [choose_big (by rw [← HL.out]; exact h50)]
    have HA := Lib.hid (fun V c (hV : Cnt1 enc w0 blk off d c 0 V) => adjacent_any blk off cap i c 0 d0 d w0 V R HZ.out hV HQ.out.1 (by have := HQ.out; omega) hsz (by omega))
    have qa := (median_rng d (i - 1) i (i + 1) 0)
    rw [show medianAdjacent ltInt d i 0 = mA d a b by rw [HI.out.1]; rfl] at HA
    rw [show median ltInt d (i - 1) i (i + 1) 0 = mA d a b by rw [HI.out.1]; rfl] at qa
    have HB := Lib.hid (fun V c (hV : Cnt1 enc w0 blk off d c (mA d a b).2 V) => adjacent_any blk off cap j c _ d0 d w0 V R HZ.out hV (by have := HQ.out; omega) (by have := HQ.out; omega) hsz (by omega))
    have qb := (median_rng d (j - 1) j (j + 1) (mA d a b).2)
    rw [show medianAdjacent ltInt d j (mA d a b).2 = mB d a b by rw [HI.out.2.1]; rfl] at HB
    rw [show median ltInt d (j - 1) j (j + 1) (mA d a b).2 = mB d a b by rw [HI.out.2.1]; rfl] at qb
    have HC := Lib.hid (fun V c (hV : Cnt1 enc w0 blk off d c (mB d a b).2 V) => adjacent_any blk off cap k c _ d0 d w0 V R HZ.out hV (by have := HQ.out; omega) (by have := HQ.out; omega) hsz (by omega))
    have qc := (median_rng d (k - 1) k (k + 1) (mB d a b).2)
    rw [show medianAdjacent ltInt d k (mB d a b).2 = mC d a b by rw [HI.out.2.2]; rfl] at HC
    rw [show median ltInt d (k - 1) k (k + 1) (mB d a b).2 = mC d a b by rw [HI.out.2.2]; rfl] at qc
    have HD := Lib.hid (fun V c (hV : Cnt1 enc w0 blk off d c (mC d a b).2 V) => median_any blk off cap (mA d a b).1 (mB d a b).1 (mC d a b).1 c _ d0 d w0 V R HZ.out hV (by have := HQ.out; omega) (by have := HQ.out; omega) (by have := HQ.out; omega) (by omega))
    have qd := (median_rng d (mA d a b).1 (mB d a b).1 (mC d a b).1 (mC d a b).2).2
    generalize median ltInt d (mA d a b).1 (mB d a b).1 (mC d a b).1 (mC d a b).2 = rd at HD qd ⊢
    generalize mA d a b = ra at HA HB HD
    generalize mB d a b = rb at HB HC HD
    generalize mC d a b = rc at HC HD
    obtain ⟨p, s⟩ := rd
    dsimp only at HD qd ⊢
    clear qa qb qc
    go_enter Tryd.func15, Tryd.ntmps15
    go_wp2_with fail
    refine (HA.out _ _ S0.out).mono ?_
    rintro e v1 ⟨rfl, h1⟩
    replace h1 := Lib.hid h1
    clear S0
    generalize w.heap.size = c at h1 ⊢
    go_wp2_with fail
    refine (HB.out v1 c h1.out).mono ?_
    rintro e v2 ⟨rfl, h2⟩
    replace h2 := Lib.hid h2
    go_wp2_with fail
    refine (HC.out v2 c h2.out).mono ?_
    rintro e v3 ⟨rfl, h3⟩
    replace h3 := Lib.hid h3
    go_wp2_with fail
    refine (HD.out v3 c h3.out).mono ?_
    rintro e v4 ⟨rfl, h4⟩
    have cc := h4.2.1
    replace h4 := Lib.hid h4.1
    by_cases s0 : s = 0
    · subst s0
      replace cc : v4.cell? ⟨c, 0, none⟩ = some (.int .i64 0) := cc
      go_wp2_with fail
      go_ret2
      exact ⟨rfl, h4.out⟩
    · have z0 : ((s : Int) == 0) = false := by simp; omega
      by_cases s1 : s = 12
      · subst s1
        replace cc : v4.cell? ⟨c, 0, none⟩ = some (.int .i64 12) := cc
        clear z0
        go_wp2_with fail
        go_ret2
        exact ⟨rfl, h4.out⟩
      · have HH := Lib.hid (show hintOf s = .unknown by unfold hintOf; rw [if_neg s0, if_neg s1])
        have z1 : ((s : Int) == 12) = false := by simp; omega
        have z2 : ¬ (s : Int) = 0 := by omega
        have z3 : ¬ (s : Int) = 12 := by omega
        go_wp2_with fail
        go_ret2
        refine ⟨?_, h4.out⟩
        rw [HH.out]
        rfl
  · have h50z : ¬ (50 : Int) ≤ (l : Int) := by omega
    rw [choose_mid (by rw [← HL.out]; omega) (by rw [← HL.out]; exact h50)]
    rw [← HI.out.1, ← HI.out.2.1, ← HI.out.2.2]
    have HD := Lib.hid (fun V c (hV : Cnt1 enc w0 blk off d c 0 V) => median_any blk off cap i j k c 0 d0 d w0 V R HZ.out hV (by have := HQ.out; omega) (by have := HQ.out; omega) (by have := HQ.out; omega) (by omega))
    have qd := (median_rng d i j k 0).2
    generalize median ltInt d i j k 0 = rd at HD qd ⊢
    obtain ⟨p, s⟩ := rd
    dsimp only at HD qd ⊢
    go_enter Tryd.func15, Tryd.ntmps15
    go_wp2_with fail
    refine (HD.out _ _ S0.out).mono ?_
    rintro e v4 ⟨rfl, h4⟩
    have cc := h4.2.1
    replace h4 := Lib.hid h4.1
    clear S0
    generalize w.heap.size = c at cc ⊢
    by_cases s0 : s = 0
    · subst s0
      replace cc : v4.cell? ⟨c, 0, none⟩ = some (.int .i64 0) := cc
      go_wp2_with fail
      go_ret2
      exact ⟨rfl, h4.out⟩
    · have z0 : ((s : Int) == 0) = false := by simp; omega
      by_cases s1 : s = 12
      · subst s1
        replace cc : v4.cell? ⟨c, 0, none⟩ = some (.int .i64 12) := cc
        clear z0
        go_wp2_with fail
        go_ret2
        exact ⟨rfl, h4.out⟩
      · have HH := Lib.hid (show hintOf s = .unknown by unfold hintOf; rw [if_neg s0, if_neg s1])
        have z1 : ((s : Int) == 12) = false := by simp; omega
        have z2 : ¬ (s : Int) = 0 := by omega
        have z3 : ¬ (s : Int) = 12 := by omega
        go_wp2_with fail
        go_ret2
        refine ⟨?_, h4.out⟩
        rw [HH.out]
        rfl
end Go.Proofs.YtjpimamjcckieaaDoor.Pq
