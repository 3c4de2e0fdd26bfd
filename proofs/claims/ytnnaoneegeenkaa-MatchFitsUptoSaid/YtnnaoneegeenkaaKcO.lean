/- The program's mayBe. -/
import Derived.Test.YtnnaoneegeenkaaKcN
namespace Go.Proofs.Ytnnaoneegeenkaa.Kc
open Go.ChangeShapes Go.WideShapes Go.ChangeAt Go.RowKit Own Ro wordsNames

theorem box7 (w : World) (a : Cd) (r : Sl) (t : TypeId) (j : Nat) : (w.alloc (.cells (cells7 a r) t)).cell? ⟨w.heap.size, j, none⟩ = (cells7 a r)[j]? := by rw [Lib.cell_of_heap (heap_alloc_new w _)]
theorem box7s (w : World) (a : Cd) (r : Sl) (t : TypeId) (j : Nat) (v : Value) (h : (cells7 a r)[j]? = some v) : (w.alloc (.cells (cells7 a r) t)).cell? ⟨w.heap.size, j, none⟩ = some v := (box7 w a r t j).trans h
theorem isName_str (s : List UInt8) (w : World) (hs : s.length ≤ 1099511627776) :
    Calls Try.prog 32 #[.string (str s)] w fun e w' => e = .returned (.bool (isName s)) ∧ w = w' := by
  have := isName_any (str s) w (by unfold maxLen; rw [str_size]; omega)
  rw [str_list] at this
  exact this
set_option maxRecDepth 100000 in
set_option maxHeartbeats 8000000 in
theorem mayBe_any (a : Cd) (r : Sl) (g : Bool) (w : World) (hg : g = true ↔ CardOk a) (hm : MildC 1099511627776 a) (hr : r.2.1 = a.compat.length) (hcap : r.2.1 ≤ r.2.2) (hs : CellsIn w 1 r.1 r.2.1 (strs a.compat)) :
    Calls Try.prog 21 #[cardV a r] w fun e w' => e = .returned (.bool g) ∧ Below w.heap.size w w' := by
  obtain ⟨m1, m2, m3, m4⟩ := hm
  obtain ⟨gt, hgt⟩ := bool_ex (TextsOk a.compat)
  have H1 := Lib.hid fun W => isName_str a.name W m1
  have H2 := Lib.hid fun W => isName_str a.fam W m2
  have H3 := Lib.hid fun W => isName_str a.quirk W m3
  have H4 := Lib.hid fun W hW => areTexts_any r.1 r.2.2 r.2.1 a.compat gt W hgt hr m4 hcap (hs.below (w' := W) hW)
  have c0 := box7s w a r 37 0 (.string (str a.name)) rfl
  have c1 := box7s w a r 37 1 (.string (str a.fam)) rfl
  have c2 := box7s w a r 37 2 (.int .u8 a.level) rfl
  have c3 := box7s w a r 37 3 (.slice r.1 r.2.1 r.2.2) rfl
  have c4 := box7s w a r 37 4 (.int .i8 a.score) rfl
  have c5 := box7s w a r 37 5 (.string (str a.quirk)) rfl
  have c6 := box7s w a r 37 6 (.int .i16 a.entry) rfl
  have HB := Lib.hid (grows' w (.cells (cells7 a r) 37))
  have HQ : Hid (((str a.quirk).toList == ([] : List UInt8)) = decide (a.quirk = [])) := Lib.hid (by rw [Lib.toList_data, str_list]; rw [Bool.eq_iff_iff]; simp)
  have HG : Hid (g = true ↔ (isName a.name = true ∧ isName a.fam = true ∧ a.level ≤ 4 ∧ gt = true ∧ (-100 ≤ a.score ∧ a.score ≤ 100) ∧ (decide (a.quirk = []) = true ∨ isName a.quirk = true) ∧ -1 ≤ a.entry ∧ a.entry ≤ 47)) := Lib.hid (by rw [hg, hgt, decide_eq_true_eq]; rfl)
  clear hg hgt m1 m2 m3 m4 hs hcap hr
  unfold cardV
  unfold cells7 at c0 c1 c2 c3 c4 c5 c6 HB ⊢
  obtain ⟨nm, fm, lv, cp, sc, qk, en⟩ := a
  obtain ⟨ra, rn, rc⟩ := r
  simp only [slV] at c0 c1 c2 c3 c4 c5 c6 HB H1 H2 H3 H4 HQ HG ⊢
  generalize isName nm = g1 at H1 HG
  generalize isName fm = g2 at H2 HG
  generalize isName qk = g3 at H3 HG
  generalize decide (qk = []) = g5 at HQ HG
  generalize str nm = S1 at c0 c1 c2 c3 c4 c5 c6 HB H1 ⊢
  generalize str fm = S2 at c0 c1 c2 c3 c4 c5 c6 HB H2 ⊢
  generalize str qk = S3 at c0 c1 c2 c3 c4 c5 c6 HB H3 HQ ⊢
  go_enter Try.func21, Try.ntmps21
  go_wp2_with fail
  refine (H1.out _).mono ?_
  rintro e w2 ⟨rfl, rfl⟩
  cases g1 with
  | false =>
    have HF : Hid (g = false) := Lib.hid (Bool.eq_false_iff.2 fun e => by cases (HG.out.1 e).1)
    go_wp2_with fail
    go_ret
    rw [HF.out]
    exact ⟨rfl, HB.out⟩
  | true =>
  go_wp2_with fail
  refine (H2.out _).mono ?_
  rintro e w2 ⟨rfl, rfl⟩
  cases g2 with
  | false =>
    have HF : Hid (g = false) := Lib.hid (Bool.eq_false_iff.2 fun e => by cases (HG.out.1 e).2.1)
    go_wp2_with fail
    go_ret
    rw [HF.out]
    exact ⟨rfl, HB.out⟩
  | true =>
  by_cases h3 : lv ≤ 4
  case neg =>
    have HF : Hid (g = false) := Lib.hid (Bool.eq_false_iff.2 fun e => by exact h3 (HG.out.1 e).2.2.1)
    go_wp2_with fail
    go_ret
    rw [HF.out]
    exact ⟨rfl, HB.out⟩
  go_wp2_with fail
  refine (H4.out _ HB.out).mono ?_
  rintro e w5 ⟨rfl, q, rfl⟩
  have B5 := Lib.hid (below_dr HB.out q)
  replace c4 : ((w.alloc (.cells #[.string S1, .string S2, .int .u8 lv, .slice ra rn rc, .int .i8 sc, .string S3, .int .i16 en] 37)).drewN q).cell? ⟨w.heap.size, 4, none⟩ = some (.int .i8 sc) := c4
  replace c5 : ((w.alloc (.cells #[.string S1, .string S2, .int .u8 lv, .slice ra rn rc, .int .i8 sc, .string S3, .int .i16 en] 37)).drewN q).cell? ⟨w.heap.size, 5, none⟩ = some (.string S3) := c5
  replace c6 : ((w.alloc (.cells #[.string S1, .string S2, .int .u8 lv, .slice ra rn rc, .int .i8 sc, .string S3, .int .i16 en] 37)).drewN q).cell? ⟨w.heap.size, 6, none⟩ = some (.int .i16 en) := c6
  clear c0 c1 c2 c3 HB H1 H2
  generalize (w.alloc (.cells #[.string S1, .string S2, .int .u8 lv, .slice ra rn rc, .int .i8 sc, .string S3, .int .i16 en] 37)).drewN q = w5 at B5 c4 c5 c6 ⊢
  cases gt with
  | false =>
    have HF : Hid (g = false) := Lib.hid (Bool.eq_false_iff.2 fun e => by cases (HG.out.1 e).2.2.2.1)
    go_wp2_with fail
    go_ret
    rw [HF.out]
    exact ⟨rfl, B5.out⟩
  | true =>
  by_cases h5 : -100 ≤ sc
  case neg =>
    have HF : Hid (g = false) := Lib.hid (Bool.eq_false_iff.2 fun e => by exact h5 (HG.out.1 e).2.2.2.2.1.1)
    go_wp2_with fail
    go_ret
    rw [HF.out]
    exact ⟨rfl, B5.out⟩
  by_cases h6 : sc ≤ 100
  case neg =>
    have HF : Hid (g = false) := Lib.hid (Bool.eq_false_iff.2 fun e => by exact h6 (HG.out.1 e).2.2.2.2.1.2)
    go_wp2_with fail
    go_ret
    rw [HF.out]
    exact ⟨rfl, B5.out⟩
  cases g5 with
  | true =>
    have tq := HQ.out
    by_cases h8 : -1 ≤ en
    case neg =>
      have HF : Hid (g = false) := Lib.hid (Bool.eq_false_iff.2 fun e => by exact h8 (HG.out.1 e).2.2.2.2.2.2.1)
      go_wp2_with fail
      go_ret
      rw [HF.out]
      exact ⟨rfl, B5.out⟩
    by_cases h9 : en ≤ 47
    case neg =>
      have HF : Hid (g = false) := Lib.hid (Bool.eq_false_iff.2 fun e => by exact h9 (HG.out.1 e).2.2.2.2.2.2.2)
      go_wp2_with fail
      go_ret
      rw [HF.out]
      exact ⟨by show Ending.returned (.bool (decide (en ≤ 47))) = _; rw [decide_eq_false (by omega)], B5.out⟩
    have HT : Hid (g = true) := Lib.hid (HG.out.2 ⟨by simp, by simp, h3, by simp, ⟨h5, h6⟩, .inl (by simp), h8, h9⟩)
    go_wp2_with fail
    go_ret
    rw [HT.out]
    exact ⟨rfl, B5.out⟩
  | false =>
    have tq := HQ.out
    go_wp2_with fail
    refine (H3.out _).mono ?_
    rintro e w6 ⟨rfl, rfl⟩
    cases g3 with
    | false =>
      have HF : Hid (g = false) := Lib.hid (Bool.eq_false_iff.2 fun e => by rcases (HG.out.1 e).2.2.2.2.2.1 with h | h <;> cases h)
      go_wp2_with fail
      go_ret
      rw [HF.out]
      exact ⟨rfl, B5.out⟩
    | true =>
    by_cases h8 : -1 ≤ en
    case neg =>
      have HF : Hid (g = false) := Lib.hid (Bool.eq_false_iff.2 fun e => by exact h8 (HG.out.1 e).2.2.2.2.2.2.1)
      go_wp2_with fail
      go_ret
      rw [HF.out]
      exact ⟨rfl, B5.out⟩
    by_cases h9 : en ≤ 47
    case neg =>
      have HF : Hid (g = false) := Lib.hid (Bool.eq_false_iff.2 fun e => by exact h9 (HG.out.1 e).2.2.2.2.2.2.2)
      go_wp2_with fail
      go_ret
      rw [HF.out]
      exact ⟨by show Ending.returned (.bool (decide (en ≤ 47))) = _; rw [decide_eq_false (by omega)], B5.out⟩
    have HT : Hid (g = true) := Lib.hid (HG.out.2 ⟨by simp, by simp, h3, by simp, ⟨h5, h6⟩, .inr (by simp), h8, h9⟩)
    go_wp2_with fail
    go_ret
    rw [HT.out]
    exact ⟨rfl, B5.out⟩
end Go.Proofs.Ytnnaoneegeenkaa.Kc
