/- The document's May, named and Check. -/
import Derived.Test.YtnnaoneegeenkaaKcU
import Derived.Deep.RegionWith
namespace Go.Proofs.Ytnnaoneegeenkaa.Kc
open Go.ChangeShapes Go.WideShapes Go.ChangeAt Go.RowKit Own Ro wordsNames

theorem or5 (a b c d e : Bool) : a = false ∨ (a = true ∧ b = false) ∨ (a = true ∧ b = true ∧ c = false) ∨ (a = true ∧ b = true ∧ c = true ∧ d = false) ∨ (a = true ∧ b = true ∧ c = true ∧ d = true ∧ e = false) ∨ (a = true ∧ b = true ∧ c = true ∧ d = true ∧ e = true) := by
  cases a <;> cases b <;> cases c <;> cases d <;> cases e <;> simp
theorem or4q (gq g3 g8 g9 _gt : Bool) : (gq = false ∧ g3 = false) ∨ (gq = true ∧ g8 = false) ∨ (gq = true ∧ g8 = true ∧ g9 = false) ∨ (gq = true ∧ g8 = true ∧ g9 = true) ∨ (gq = false ∧ g3 = true ∧ g8 = false) ∨ (gq = false ∧ g3 = true ∧ g8 = true ∧ g9 = false) ∨ (gq = false ∧ g3 = true ∧ g8 = true ∧ g9 = true) := by
  cases gq <;> cases g3 <;> cases g8 <;> cases g9 <;> simp
set_option maxRecDepth 100000 in
set_option maxHeartbeats 16000000 in
theorem may_any (a : Cd) (r : Sl) (g : Bool) (w : World) (hg : g = true ↔ CardOk a) (hm : MildC 1099511627776 a) (hr : r.2.1 = a.compat.length) (hs : CellsIn w 1 r.1 r.2.1 (strs a.compat)) :
    Calls Try.prog 30 #[cardV a r] w fun e w' => e = .returned (.bool g) ∧ Below w.heap.size w w' := by
  obtain ⟨m1, m2, m3, m4⟩ := hm
  obtain ⟨gt, hgt⟩ := bool_ex (TextsOk a.compat)
  have H1 := Lib.hid fun W => refName_str a.name W m1
  have H2 := Lib.hid fun W => refName_str a.fam W m2
  have H3 := Lib.hid fun W => refName_str a.quirk W m3
  have H4 := Lib.hid fun W hW => texts_any r.1 r.2.2 r.2.1 a.compat gt W hgt hr m4 (hs.below (w' := W) hW)
  have c0 := box7s w a r 37 0 (.string (str a.name)) rfl
  have c1 := box7s w a r 37 1 (.string (str a.fam)) rfl
  have c2 := box7s w a r 37 2 (.int .u8 a.level) rfl
  have c3 := box7s w a r 37 3 (.slice r.1 r.2.1 r.2.2) rfl
  have c4 := box7s w a r 37 4 (.int .i8 a.score) rfl
  have c5 := box7s w a r 37 5 (.string (str a.quirk)) rfl
  have c6 := box7s w a r 37 6 (.int .i16 a.entry) rfl
  have HB := Lib.hid (grows' w (.cells (cells7 a r) 37))
  have tq : ((str a.quirk).toList == ([] : List UInt8)) = decide (a.quirk = []) := by rw [Lib.toList_data, str_list]; rw [Bool.eq_iff_iff]; simp
  have tq2 : (str a.quirk).toList.isEmpty = decide (a.quirk = []) := by rw [Lib.toList_data, str_list]; rw [Bool.eq_iff_iff]; simp
  have HG : Hid (g = (isName a.name && isName a.fam && decide (a.level ≤ 4) && decide (-100 ≤ a.score) && decide (a.score ≤ 100) && (decide (a.quirk = []) || isName a.quirk) && decide (-1 ≤ a.entry) && decide (a.entry ≤ 47) && gt)) := Lib.hid (by
    rw [Bool.eq_iff_iff, hg]
    simp only [Bool.and_eq_true, Bool.or_eq_true, decide_eq_true_eq, hgt]
    exact ⟨fun ⟨x1, x2, x3, x4, ⟨x5, x6⟩, x7, x8, x9⟩ => ⟨⟨⟨⟨⟨⟨⟨⟨x1, x2⟩, x3⟩, x5⟩, x6⟩, x7⟩, x8⟩, x9⟩, x4⟩, fun ⟨⟨⟨⟨⟨⟨⟨⟨x1, x2⟩, x3⟩, x5⟩, x6⟩, x7⟩, x8⟩, x9⟩, x4⟩ => ⟨x1, x2, x3, x4, ⟨x5, x6⟩, x7, x8, x9⟩⟩)
  clear hg hgt m1 m2 m3 m4 hs hr
  unfold cardV
  unfold cells7 at c0 c1 c2 c3 c4 c5 c6 HB ⊢
  obtain ⟨nm, fm, lv, cp, sc, qk, en⟩ := a
  obtain ⟨ra, rn, rc⟩ := r
  simp only [slV] at c0 c1 c2 c3 c4 c5 c6 HB H1 H2 H3 H4 HG tq tq2 ⊢
  generalize isName nm = g1 at H1 HG
  generalize isName fm = g2 at H2 HG
  generalize isName qk = g3 at H3 HG
  generalize decide (qk = []) = gq at tq tq2 HG
  generalize t4 : decide (lv ≤ 4) = g4 at HG
  generalize t5 : decide (-100 ≤ sc) = g5 at HG
  generalize t6 : decide (sc ≤ 100) = g6 at HG
  generalize t8 : decide (-1 ≤ en) = g8 at HG
  generalize t9 : decide (en ≤ 47) = g9 at HG
  generalize str nm = S1 at c0 c1 c2 c3 c4 c5 c6 HB H1 ⊢
  generalize str fm = S2 at c0 c1 c2 c3 c4 c5 c6 HB H2 ⊢
  generalize str qk = S3 at c0 c1 c2 c3 c4 c5 c6 HB H3 tq tq2 ⊢
  rcases or5 g1 g2 g4 g5 g6 with rfl | ⟨rfl, rfl⟩ | ⟨rfl, rfl, rfl⟩ | ⟨rfl, rfl, rfl, rfl⟩ | ⟨rfl, rfl, rfl, rfl, rfl⟩ | ⟨rfl, rfl, rfl, rfl, rfl⟩
  case inr.inr.inr.inr.inr =>
    rcases or4q gq g3 g8 g9 gt with ⟨rfl, rfl⟩ | ⟨rfl, rfl⟩ | ⟨rfl, rfl, rfl⟩ | ⟨rfl, rfl, rfl⟩ | ⟨rfl, rfl, rfl⟩ | ⟨rfl, rfl, rfl, rfl⟩ | ⟨rfl, rfl, rfl, rfl⟩
    all_goals
      go_enter Try.func30, Try.ntmps30
      go_wp2_with (first
        | (go_at_call 35; (with_reducible refine (H1.out _).mono ?_); rintro e w2 ⟨rfl, rfl⟩)
        | (go_at_call 35; (with_reducible refine (H2.out _).mono ?_); rintro e w2 ⟨rfl, rfl⟩)
        | (go_at_call 35; (with_reducible refine (H3.out _).mono ?_); rintro e w2 ⟨rfl, rfl⟩)
        | (go_at_call 36; (with_reducible refine (H4.out _ HB.out).mono ?_); rintro e w2 ⟨rfl, q, rfl⟩))
      go_ret
      rw [HG.out]
      exact ⟨by first | rfl | (cases gt <;> rfl), by first | exact HB.out | exact below_dr HB.out _⟩
  all_goals
    go_enter Try.func30, Try.ntmps30
    go_wp2_with (first
      | (go_at_call 35; (with_reducible refine (H1.out _).mono ?_); rintro e w2 ⟨rfl, rfl⟩)
      | (go_at_call 35; (with_reducible refine (H2.out _).mono ?_); rintro e w2 ⟨rfl, rfl⟩))
    go_ret
    rw [HG.out]
    exact ⟨rfl, HB.out⟩
set_option maxRecDepth 100000 in
set_option maxHeartbeats 8000000 in
/-- Has one of the first k cards that name? -/
theorem named_any (A : Option Addr) (c n k : Nat) (L : List Cd) (R : List Sl) (x : List UInt8) (g : Bool) (w : World) (hk : k ≤ n) (hm : MildL 1099511627776 L) (hs : Ro.RowsIn KC w A n L R) (hg : g = true ↔ ∃ j, j < k ∧ (L.getD j cd0).name = x) :
    Calls Try.prog 31 #[.slice A k c, .string (str x)] w fun e w' => e = .returned (.bool g) ∧ ∃ q, w' = w.drewN q := by
  have HN := Lib.hid hs.1
  have hnb : n ≤ 1099511627776 := by have := hm.1; rw [hs.1]; exact this
  have GA := Lib.hid hs
  have HG := Lib.hid hg
  have HQ : Hid (∀ j, ((str (L.getD j cd0).name).toList == (str x).toList) = decide ((L.getD j cd0).name = x)) := Lib.hid fun j => eq_lists _ _
  clear hm hs hg
  generalize str x = X at HQ ⊢
  go_enter Try.func31, Try.ntmps31
  go_wp2_with fail
  go_loopw [5] (fun v5 wr => ∃ (j q : Nat), j ≤ k ∧ v5 = .int .i64 (j : Int) ∧ wr = w.drewN q ∧ Hid (∀ i, i < j → (L.getD i cd0).name ≠ x)) (fun v5 _ => k - (RowKit.intOf v5).toNat)
  case atStart => exact ⟨0, 0, by omega, rfl, rfl, Lib.hid fun i hi => by omega⟩
  case round =>
    obtain ⟨j, q, hj, rfl, rfl, HJ⟩ := hrel
    by_cases hlt : j < k
    · obtain ⟨b0, o0, rfl, hbs, hc, _, _⟩ := GA.out.at (i := j) (by omega)
      have e0 := hc 0 _ rfl
      replace e0 : w.cell? ⟨b0, o0 + j * 7, none⟩ = some (.string (str (L.getD j cd0).name)) := e0
      have tq := HQ.out j
      have j1 : (0 : Int) ≤ (j : Int) := by omega
      have j2 : (j : Int) < (k : Int) := by omega
      clear hc
      generalize str (L.getD j cd0).name = S at e0 tq
      by_cases hx : (L.getD j cd0).name = x
      · have HT : Hid (g = true) := Lib.hid (HG.out.2 ⟨j, hlt, hx⟩)
        rw [decide_eq_true hx] at tq
        clear hx
        go_wp2_with fail
        go_ret
        rw [HT.out]
        exact ⟨rfl, _, rfl⟩
      · have HX := Lib.hid hx
        rw [decide_eq_false hx] at tq
        clear hx
        go_wp2_with fail
        go_roundw
        case rel => exact ⟨j + 1, _, by omega, by go_num, rfl, Lib.hid fun i hi => by
          by_cases hij : i = j
          · rw [hij]; exact HX.out
          · exact HJ.out i (by omega)⟩
        case measure => simp [RowKit.intOf]; omega
    · obtain rfl : k = j := by omega
      have HF : Hid (g = false) := Lib.hid (Bool.eq_false_iff.2 fun e => by
        obtain ⟨j, hj, he⟩ := HG.out.1 e
        exact HJ.out j hj he)
      go_wp2_with fail
      go_ret
      rw [HF.out]
      exact ⟨rfl, _, rfl⟩
end Go.Proofs.Ytnnaoneegeenkaa.Kc
