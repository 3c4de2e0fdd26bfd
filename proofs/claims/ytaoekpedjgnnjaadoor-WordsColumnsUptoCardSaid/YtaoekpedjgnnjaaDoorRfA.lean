/- The contract of areColumns at every shape. -/
import Derived.Test.YtaoekpedjgnnjaaDoorRfF
import Derived.Test.YtaoekpedjgnnjaaDoorWdP
namespace Go.Proofs.YtaoekpedjgnnjaaDoor.Wd
open Go.ChangeShapes Go.WideShapes Go.ChangeAt Go.RowKit Own Bld Go.Lib Nums

theorem isWidth_no (x : Int) (w : World) (hx0 : -9223372036854775808 ≤ x) (hx1 : x ≤ 9223372036854775807) (hx : ¬ (1 ≤ x ∧ x ≤ 4096)) :
    Calls Tryd.prog 30 #[.int .i64 x] w fun e w' => e = .returned (.bool false) ∧ w = w' := by
  by_cases h1 : (1 : Int) ≤ x
  case' pos =>
    have t1 : decide ((1 : Int) ≤ x) = true := decide_eq_true h1
    have t2 : decide (x ≤ 4096) = false := decide_eq_false (by omega)
  case' neg => have t1 : decide ((1 : Int) ≤ x) = false := decide_eq_false h1
  all_goals
    go_enter Tryd.func30, Tryd.ntmps30
    go_wp2_with fail
    go_ret
    exact ⟨rfl, rfl⟩
theorem isWidth_ok (x : Int) (w : World) (hx : 1 ≤ x ∧ x ≤ 4096) :
    Calls Tryd.prog 30 #[.int .i64 x] w fun e w' => e = .returned (.bool true) ∧ w = w' := by
  obtain ⟨n, rfl⟩ : ∃ n : Nat, x = (n : Int) := ⟨x.toNat, by omega⟩
  exact isWidth_yes n w (by omega) (by omega)
def ints (ws : List Int) : List Value := ws.map fun x => .int .i64 x
theorem intsZ_at (ws : List Int) (i : Nat) (h : i < ws.length) : (ints ws)[i]? = some (.int .i64 (ws.getD i 0)) := by
  unfold ints
  rw [List.getElem?_map, List.getElem?_eq_getElem h, List.getD_eq_getElem?_getD, List.getElem?_eq_getElem h]
  rfl
/-- The shape that Columns takes. -/
def Shape (R : List (Option Addr × Nat × Nat)) (ws : List Int) : Prop := ws.length ≤ 64 ∧ (∀ k, k < ws.length → 1 ≤ ws.getD k 0 ∧ ws.getD k 0 ≤ 4096) ∧ ∀ k, k < R.length → (R.getD k (none, 0, 0)).2.1 ≤ ws.length

set_option maxHeartbeats 2000000 in
theorem areColumns_any (A B : Option Addr) (c d n m : Nat) (R : List (Option Addr × Nat × Nat)) (ws : List Int) (g : Bool) (w : World) (hg : g = true ↔ Shape R ws) (hn : n = R.length) (hm : m = ws.length) (hmx : m ≤ 140737488355328) (hnx : n ≤ 140737488355328)
    (hw : ∀ k, k < m → -9223372036854775808 ≤ ws.getD k 0 ∧ ws.getD k 0 ≤ 9223372036854775807) (hr : ∀ k, k < n → (R.getD k (none, 0, 0)).2.1 ≤ 140737488355328)
    (hA : Src w A n c (slcs R)) (hB : Src w B m d (ints ws)) :
    Calls Tryd.prog 16 #[.slice A n c, .slice B m d] w fun e w' => e = .returned (.bool g) ∧ w' = w := by
  have HG := Lib.hid hg
  have HW := Lib.hid hw
  have HR := Lib.hid hr
  have HN := Lib.hid hn
  have HM := Lib.hid hm
  have GA := Lib.hid hA
  have GB := Lib.hid hB
  clear hA hB hw hr hn hm hg
  by_cases h64 : 64 < m
  · have t0 : decide ((64 : Int) < (m : Int)) = true := decide_eq_true (by omega)
    have HV : Hid (g = false) := Lib.hid (Bool.eq_false_iff.2 fun e => by have := (HG.out.1 e).1; have := HM.out; omega)
    go_enter Tryd.func16, Tryd.ntmps16
    go_wp2_with fail
    go_ret
    rw [HV.out]
    exact ⟨rfl, rfl⟩
  have t0 : decide ((64 : Int) < (m : Int)) = false := decide_eq_false (by omega)
  go_enter Tryd.func16, Tryd.ntmps16
  go_wp2_with fail
  go_loopw [14] (fun i wr => ∃ k : Nat, k ≤ m ∧ i = .int .i64 k ∧ w = wr ∧ Hid (∀ j, j < k → 1 ≤ ws.getD j 0 ∧ ws.getD j 0 ≤ 4096)) (fun i _ => m - (RowKit.intOf i).toNat)
  case atStart => exact ⟨0, by omega, rfl, rfl, Lib.hid fun j hj => by omega⟩
  case round =>
    obtain ⟨k, hk, rfl, rfl, HI⟩ := hrel
    by_cases hlt : k < m
    · obtain ⟨b, o, rfl, _, hc1⟩ := src_get' GB.out (by omega)
      have e1 := hc1 k _ (intsZ_at ws k (by rw [← HM.out]; exact hlt))
      have hww := HW.out k hlt
      by_cases hgd : 1 ≤ ws.getD k 0 ∧ ws.getD k 0 ≤ 4096
      · have HI2 : Hid (∀ j, j < k + 1 → 1 ≤ ws.getD j 0 ∧ ws.getD j 0 ≤ 4096) := Lib.hid fun j hj => by
          by_cases hjk : j = k
          · rw [hjk]; exact hgd
          · exact HI.out j (by omega)
        generalize ws.getD k 0 = q at e1 hww hgd
        clear hc1
        go_wp2_with fail
        refine (isWidth_ok q _ hgd).mono ?_
        rintro e w2 ⟨rfl, rfl⟩
        go_wp2_with fail
        go_roundw
        case rel => exact ⟨k + 1, by omega, by go_num, by first | trivial | rfl, HI2⟩
        case measure => simp [RowKit.intOf]; omega
      · have HV : Hid (g = false) := Lib.hid (Bool.eq_false_iff.2 fun e => hgd ((HG.out.1 e).2.1 k (by rw [← HM.out]; exact hlt)))
        generalize ws.getD k 0 = q at e1 hww hgd
        clear hc1
        go_wp2_with fail
        refine (isWidth_no q _ hww.1 hww.2 hgd).mono ?_
        rintro e w2 ⟨rfl, rfl⟩
        go_wp2_with fail
        go_ret
        rw [HV.out]
        exact ⟨rfl, rfl⟩
    · obtain rfl : m = k := by omega
      go_wp2_with fail
      go_loopw [24] (fun i wr => ∃ k : Nat, k ≤ n ∧ i = .int .i64 k ∧ w = wr ∧ Hid (∀ j, j < k → (R.getD j (none, 0, 0)).2.1 ≤ m)) (fun i _ => n - (RowKit.intOf i).toNat)
      case atStart => exact ⟨0, by omega, rfl, rfl, Lib.hid fun j hj => by omega⟩
      case round =>
        obtain ⟨j, hj, rfl, rfl, HJ⟩ := hrel
        by_cases hjl : j < n
        · obtain ⟨b, o, rfl, _, hc1⟩ := src_get' GA.out (by omega)
          have e1 := hc1 j _ (slcs_at R j (by rw [← HN.out]; exact hjl))
          have hrr := HR.out j hjl
          by_cases hgd : (R.getD j (none, 0, 0)).2.1 ≤ m
          · have HJ2 : Hid (∀ i, i < j + 1 → (R.getD i (none, 0, 0)).2.1 ≤ m) := Lib.hid fun i hi => by
              by_cases hij : i = j
              · rw [hij]; exact hgd
              · exact HJ.out i (by omega)
            generalize R.getD j (none, 0, 0) = r at e1 hrr hgd
            obtain ⟨ra, rn, rc⟩ := r
            replace hgd : rn ≤ m := hgd
            have t1 : decide (m < rn) = false := decide_eq_false (by omega)
            have t2 : decide ((m : Int) < (rn : Int)) = false := decide_eq_false (by omega)
            clear hc1
            go_wp2_with fail
            go_roundw
            case rel => exact ⟨j + 1, by omega, by go_num, by first | trivial | rfl, HJ2⟩
            case measure => simp [RowKit.intOf]; omega
          · have HV : Hid (g = false) := Lib.hid (Bool.eq_false_iff.2 fun e => hgd (by rw [HM.out]; exact (HG.out.1 e).2.2 j (by rw [← HN.out]; exact hjl)))
            generalize R.getD j (none, 0, 0) = r at e1 hrr hgd
            obtain ⟨ra, rn, rc⟩ := r
            replace hgd : ¬ rn ≤ m := hgd
            have t1 : decide (m < rn) = true := decide_eq_true (by omega)
            have t2 : decide ((m : Int) < (rn : Int)) = true := decide_eq_true (by omega)
            clear hc1
            go_wp2_with fail
            go_ret
            rw [HV.out]
            exact ⟨rfl, rfl⟩
        · obtain rfl : n = j := by omega
          have HV : Hid (g = true) := Lib.hid (HG.out.2 ⟨by rw [← HM.out]; omega, fun k hk => HI.out k (by rw [HM.out]; exact hk), fun k hk => by rw [← HM.out]; exact HJ.out k (by rw [HN.out]; exact hk)⟩)
          go_wp2_with fail
          go_ret
          rw [HV.out]
          exact ⟨rfl, rfl⟩

set_option maxHeartbeats 2000000 in
theorem columns_bad (A B : Option Addr) (c d n m : Nat) (R : List (Option Addr × Nat × Nat)) (ws : List Int) (w : World) (hg : ¬ Shape R ws) (hn : n = R.length) (hm : m = ws.length) (hmx : m ≤ 140737488355328) (hnx : n ≤ 140737488355328)
    (hw : ∀ k, k < m → -9223372036854775808 ≤ ws.getD k 0 ∧ ws.getD k 0 ≤ 9223372036854775807) (hr : ∀ k, k < n → (R.getD k (none, 0, 0)).2.1 ≤ 140737488355328)
    (hA : Src w A n c (slcs R)) (hB : Src w B m d (ints ws)) :
    Calls Tryd.prog 7 #[.slice A n c, .slice B m d] w fun e w' => e = .returned (.tuple #[.slice none 0 0, .int .i64 1]) ∧ w' = w := by
  have HC := Lib.hid (areColumns_any A B c d n m R ws false w ⟨fun h => absurd h (by decide), fun h => absurd h hg⟩ hn hm hmx hnx hw hr hA hB)
  clear hA hB hw hr hn hm hg
  go_enter Tryd.func7, Tryd.ntmps7
  go_wp2_with fail
  refine HC.out.mono ?_
  rintro e w2 ⟨rfl, rfl⟩
  go_wp2_with fail
  go_ret2
  exact ⟨rfl, rfl⟩

set_option maxHeartbeats 2000000 in
theorem refColumns_bad (A B : Option Addr) (c d n m : Nat) (R : List (Option Addr × Nat × Nat)) (ws : List Int) (w : World) (hg : ¬ Shape R ws) (hn : n = R.length) (hm : m = ws.length) (hmx : m ≤ 140737488355328) (hnx : n ≤ 140737488355328)
    (hw : ∀ k, k < m → -9223372036854775808 ≤ ws.getD k 0 ∧ ws.getD k 0 ≤ 9223372036854775807) (hr : ∀ k, k < n → (R.getD k (none, 0, 0)).2.1 ≤ 140737488355328)
    (hA : Src w A n c (slcs R)) (hB : Src w B m d (ints ws)) :
    Calls Tryd.prog 6 #[.slice A n c, .slice B m d] w fun e w' => e = .returned (.tuple #[.slice none 0 0, .int .i64 1]) ∧ w' = w := by
  have HG := Lib.hid hg
  have HW := Lib.hid hw
  have HR := Lib.hid hr
  have HN := Lib.hid hn
  have HM := Lib.hid hm
  have GA := Lib.hid hA
  have GB := Lib.hid hB
  clear hA hB hw hr hn hm hg
  by_cases h64 : 64 < m
  · have t0 : decide ((64 : Int) < (m : Int)) = true := decide_eq_true (by omega)
    go_enter Tryd.func6, Tryd.ntmps6
    go_wp2_with fail
    go_ret2
    exact ⟨rfl, rfl⟩
  have t0 : decide ((64 : Int) < (m : Int)) = false := decide_eq_false (by omega)
  go_enter Tryd.func6, Tryd.ntmps6
  go_wp2_with fail
  go_loopw [6] (fun i wr => ∃ k : Nat, k ≤ m ∧ i = .int .i64 k ∧ w = wr ∧ Hid (∀ j, j < k → 1 ≤ ws.getD j 0 ∧ ws.getD j 0 ≤ 4096)) (fun i _ => m - (RowKit.intOf i).toNat)
  case atStart => exact ⟨0, by omega, rfl, rfl, Lib.hid fun j hj => by omega⟩
  case round =>
    obtain ⟨k, hk, rfl, rfl, HI⟩ := hrel
    by_cases hlt : k < m
    · obtain ⟨b, o, rfl, _, hc1⟩ := src_get' GB.out (by omega)
      have e1 := hc1 k _ (intsZ_at ws k (by rw [← HM.out]; exact hlt))
      have hww := HW.out k hlt
      by_cases hgd : 1 ≤ ws.getD k 0 ∧ ws.getD k 0 ≤ 4096
      · have HI2 : Hid (∀ j, j < k + 1 → 1 ≤ ws.getD j 0 ∧ ws.getD j 0 ≤ 4096) := Lib.hid fun j hj => by
          by_cases hjk : j = k
          · rw [hjk]; exact hgd
          · exact HI.out j (by omega)
        generalize ws.getD k 0 = q at e1 hww hgd
        have t1 : decide (q < 1) = false := decide_eq_false (by omega)
        have t2 : decide (4096 < q) = false := decide_eq_false (by omega)
        clear hc1
        go_wp2_with fail
        go_roundw
        case rel => exact ⟨k + 1, by omega, by go_num, by first | trivial | rfl, HI2⟩
        case measure => simp [RowKit.intOf]; omega
      · generalize ws.getD k 0 = q at e1 hww hgd
        clear hc1
        by_cases q1 : q < 1
        case' pos => have t1 : decide (q < 1) = true := decide_eq_true q1
        case' neg =>
          have t1 : decide (q < 1) = false := decide_eq_false q1
          have t2 : decide (4096 < q) = true := decide_eq_true (by omega)
        all_goals
          go_wp2_with fail
          go_ret2
          exact ⟨rfl, rfl⟩
    · obtain rfl : m = k := by omega
      go_wp2_with fail
      go_loopw [7] (fun i wr => ∃ k : Nat, k ≤ n ∧ i = .int .i64 k ∧ w = wr ∧ Hid (∀ j, j < k → (R.getD j (none, 0, 0)).2.1 ≤ m)) (fun i _ => n - (RowKit.intOf i).toNat)
      case atStart => exact ⟨0, by omega, rfl, rfl, Lib.hid fun j hj => by omega⟩
      case round =>
        obtain ⟨j, hj, rfl, rfl, HJ⟩ := hrel
        by_cases hjl : j < n
        · obtain ⟨b, o, rfl, _, hc1⟩ := src_get' GA.out (by omega)
          have e1 := hc1 j _ (slcs_at R j (by rw [← HN.out]; exact hjl))
          have hrr := HR.out j hjl
          by_cases hgd : (R.getD j (none, 0, 0)).2.1 ≤ m
          · have HJ2 : Hid (∀ i, i < j + 1 → (R.getD i (none, 0, 0)).2.1 ≤ m) := Lib.hid fun i hi => by
              by_cases hij : i = j
              · rw [hij]; exact hgd
              · exact HJ.out i (by omega)
            generalize R.getD j (none, 0, 0) = r at e1 hrr hgd
            obtain ⟨ra, rn, rc⟩ := r
            replace hgd : rn ≤ m := hgd
            have t1 : decide (m < rn) = false := decide_eq_false (by omega)
            have t2 : decide ((m : Int) < (rn : Int)) = false := decide_eq_false (by omega)
            clear hc1
            go_wp2_with fail
            go_roundw
            case rel => exact ⟨j + 1, by omega, by go_num, by first | trivial | rfl, HJ2⟩
            case measure => simp [RowKit.intOf]; omega
          · generalize R.getD j (none, 0, 0) = r at e1 hrr hgd
            obtain ⟨ra, rn, rc⟩ := r
            replace hgd : ¬ rn ≤ m := hgd
            have t1 : decide (m < rn) = true := decide_eq_true (by omega)
            have t2 : decide ((m : Int) < (rn : Int)) = true := decide_eq_true (by omega)
            clear hc1
            go_wp2_with fail
            go_ret2
            exact ⟨rfl, rfl⟩
        · obtain rfl : n = j := by omega
          exact absurd ⟨by rw [← HM.out]; omega, fun k hk => HI.out k (by rw [HM.out]; exact hk), fun k hk => by rw [← HM.out]; exact HJ.out k (by rw [HN.out]; exact hk)⟩ HG.out
end Go.Proofs.YtaoekpedjgnnjaaDoor.Wd
