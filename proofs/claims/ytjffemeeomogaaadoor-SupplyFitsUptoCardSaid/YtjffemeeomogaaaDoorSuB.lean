/- Windows (P9.2): which may be; the first entry within one. -/
import Derived.Test.YtjffemeeomogaaaDoorSuA
namespace Go.Proofs.YtjffemeeomogaaaDoor.Su
open Go.ChangeShapes Go.WideShapes Go.ChangeAt Go.RowKit Own Ro

def mayW (lo hi : Int) : Bool := decide (0 ≤ lo) && decide (lo ≤ hi) && decide (hi ≤ 1099511627776)
def winV (lo hi : Int) : Value := .agg #[.int .i64 lo, .int .i64 hi]
set_option maxRecDepth 100000 in
set_option maxHeartbeats 8000000 in
theorem isWindow_any (lo hi : Int) (w : World) : Calls Tryd.prog 58 #[winV lo hi] w (fun e w' => e = .returned (.bool (mayW lo hi)) ∧ Below w.heap.size w w') := by
  unfold winV mayW
  go_enter Tryd.func58, Tryd.ntmps58
  go_wp2_with fail
  all_goals
    go_ret
    refine ⟨?_, grows' _ _⟩
    congr 2
    simp
    try omega
/-- Does an entry lie within a window? -/
def fits (lo hi : Int) (i : Nat) : Bool := decide (lo ≤ ent i) && decide (ent i ≤ hi)
def fst (lo hi : Int) : Int × Int :=
  if mayW lo hi then (match (List.range 24).find? (fits lo hi) with
    | some i => ((i : Int), 0)
    | none => (0, 6)) else (0, 1)
theorem fst_bad {lo hi : Int} (h : mayW lo hi = false) : fst lo hi = (0, 1) := by unfold fst; rw [h]; rfl
theorem fst_at {lo hi : Int} (h : mayW lo hi = true) (k : Nat) (hk : k < 24) (hf : fits lo hi k = true) (hn : ∀ i, i < k → fits lo hi i = false) : fst lo hi = ((k : Int), 0) := by
  unfold fst
  rw [h, if_pos rfl, List.find?_range_eq_some.2 ⟨hf, by simpa using hk, fun j hj => by rw [hn j hj]; rfl⟩]
theorem up_to {lo hi : Int} {k : Nat} (hn : ∀ i, i < k → fits lo hi i = false) (hk : fits lo hi k = false) : ∀ i, i < k + 1 → fits lo hi i = false := fun i hi => by
  by_cases h : i = k
  · rw [h]; exact hk
  · exact hn i (by omega)
theorem fst_none {lo hi : Int} (h : mayW lo hi = true) (hn : ∀ i, i < 24 → fits lo hi i = false) : fst lo hi = (0, 6) := by
  unfold fst
  rw [h, if_pos rfl, List.find?_range_eq_none.2 (fun i hi => by rw [hn i hi]; rfl)]
set_option maxRecDepth 100000 in
theorem idx_run (k : Nat) (h : k < 24) (w : World) : (Instr.index 35 (.agg tabV.toArray) (.int .i64 (k : Int))).run Tryd.prog w = .ok (.int .i64 (ent k)) w := by
  rcases k with _ | k
  · kernel_rfl
  · iterate 23 (rcases k with _ | k; · kernel_rfl)
    omega
set_option maxRecDepth 100000 in
set_option maxHeartbeats 8000000 in
theorem first_any (lo hi : Int) (w : World) (h : Tb w) : Calls Tryd.prog 26 #[winV lo hi] w (fun e w' => e = .returned (.tuple #[.int .i64 (fst lo hi).1, .int .i64 (fst lo hi).2]) ∧ Below w.heap.size w w') := by
  have HT := Lib.hid h
  clear h
  have HIW := Lib.hid (isWindow_any lo hi)
  unfold winV at HIW ⊢
  cases hm : mayW lo hi with
  | false =>
    rw [fst_bad hm]
    go_enter Tryd.func26, Tryd.ntmps26
    go_wp2_with fail
    refine (HIW.out _).mono ?_
    rintro e w1 ⟨rfl, hb⟩
    have HB := Lib.hid (bt (grows' w _) hb)
    clear hb
    rw [hm]
    go_wp2_with fail
    go_ret2
    exact ⟨rfl, HB.out⟩
  | true =>
    have HM := Lib.hid hm
    clear hm
    go_enter Tryd.func26, Tryd.ntmps26
    go_wp2_with fail
    refine (HIW.out _).mono ?_
    rintro e w1 ⟨rfl, hb⟩
    have c0 : w1.cell? ⟨w.heap.size, 0, none⟩ = some (.int .i64 lo) := by rw [hb.cell (by simp), World.cell?_alloc_at _ _ _ _ rfl]; rfl
    have c1 : w1.cell? ⟨w.heap.size, 1, none⟩ = some (.int .i64 hi) := by rw [hb.cell (by simp), World.cell?_alloc_at _ _ _ _ rfl]; rfl
    have HB := Lib.hid (bt (grows' w _) hb)
    have HT1 := Lib.hid (Tb.below HT.out HB.out)
    clear hb
    rw [HM.out]
    go_wp2_with (first | refine wpList_load_row' rfl _ _ rfl 0 rfl tabV (.array 24 2) HT1.out (by kernel_rfl) rfl (by kernel_rfl) ?_)
    go_loopw [10] (fun v10 wr => ∃ (k : Nat), k ≤ 24 ∧ v10 = .int .i64 (k : Int) ∧ (∀ i, i < k → fits lo hi i = false) ∧ ∃ q, wr = w1.drewN q) (fun v10 _ => 24 - (RowKit.intOf v10).toNat)
    case atStart => exact ⟨0, by omega, rfl, fun i h => absurd h (by omega), 0, rfl⟩
    case round =>
      obtain ⟨k, hk, rfl, hn, q, rfl⟩ := hrel
      have HN := Lib.hid hn
      clear hn
      by_cases hlt : k < 24
      · have l1 : (0 : Int) ≤ (k : Int) := by omega
        have l2 : (k : Int) < 24 := by omega
        have HF := Lib.hid (show fits lo hi k = (decide (lo ≤ ent (k : Nat)) && decide (ent (k : Nat) ≤ hi)) from rfl)
        have HX := idx_run k hlt (w1.drewN q)
        generalize ent (k : Nat) = en at HF HX
        by_cases h1 : lo ≤ en
        · have d1 : decide (lo ≤ en) = true := decide_eq_true h1
          by_cases h2 : en ≤ hi
          · have d2 : decide (en ≤ hi) = true := decide_eq_true h2
            have HG := Lib.hid (show fits lo hi k = true by rw [HF.out, d1, d2]; rfl)
            go_wp2_with fail
            go_ret2
            exact ⟨by rw [fst_at HM.out k hlt HG.out HN.out]; rfl, below_dr HB.out _⟩
          · have d2 : decide (en ≤ hi) = false := decide_eq_false h2
            have HG := Lib.hid (show fits lo hi k = false by rw [HF.out, d2, Bool.and_false])
            go_wp2_with fail
            go_roundw
            case rel => exact ⟨k + 1, by omega, by go_num, up_to HN.out HG.out, _, rfl⟩
            case measure => simp [RowKit.intOf]; omega
        · have d1 : decide (lo ≤ en) = false := decide_eq_false h1
          have HG := Lib.hid (show fits lo hi k = false by rw [HF.out, d1]; rfl)
          go_wp2_with fail
          go_roundw
          case rel => exact ⟨k + 1, by omega, by go_num, up_to HN.out HG.out, _, rfl⟩
          case measure => simp [RowKit.intOf]; omega
      · obtain rfl : k = 24 := by omega
        go_wp2_with fail
        go_ret2
        exact ⟨by rw [fst_none HM.out HN.out]; rfl, below_dr HB.out _⟩
end Go.Proofs.YtjffemeeomogaaaDoor.Su
