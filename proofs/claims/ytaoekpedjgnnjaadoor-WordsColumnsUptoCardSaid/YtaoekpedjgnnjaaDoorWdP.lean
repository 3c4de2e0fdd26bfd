/- The contract of areColumns where it says yes. -/
import Derived.Test.YtaoekpedjgnnjaaDoorWdO
namespace Go.Proofs.YtaoekpedjgnnjaaDoor.Wd
open Go.ChangeShapes Go.WideShapes Go.ChangeAt Go.RowKit Own Bld Go.Lib Nums

/-- A list of slices, as values. -/
def slcs (R : List (Option Addr × Nat × Nat)) : List Value := R.map fun r => .slice r.1 r.2.1 r.2.2
theorem slcs_at (R : List (Option Addr × Nat × Nat)) (i : Nat) (h : i < R.length) : (slcs R)[i]? = some (.slice (R.getD i (none, 0, 0)).1 (R.getD i (none, 0, 0)).2.1 (R.getD i (none, 0, 0)).2.2) := by
  unfold slcs
  rw [List.getElem?_map, List.getElem?_eq_getElem h, List.getD_eq_getElem?_getD, List.getElem?_eq_getElem h]
  rfl

set_option maxHeartbeats 1000000 in
theorem areColumns_yes (A B : Option Addr) (c d n m : Nat) (R : List (Option Addr × Nat × Nat)) (ws : List Nat) (w : World) (hn : n = R.length) (hm : m = ws.length) (hm64 : m ≤ 64) (hnx : n ≤ 140737488355328)
    (hw : ∀ k, k < m → 1 ≤ ws.getD k 0 ∧ ws.getD k 0 ≤ 4096) (hr : ∀ k, k < n → (R.getD k (none, 0, 0)).2.1 ≤ m)
    (hA : Src w A n c (slcs R)) (hB : Src w B m d (ws.map fun (x : Nat) => Value.int .i64 (x : Int))) :
    Calls Tryd.prog 16 #[.slice A n c, .slice B m d] w fun e w' => e = .returned (.bool true) ∧ w' = w := by
  have HW := Lib.hid hw
  have HR := Lib.hid hr
  have HN := Lib.hid hn
  have HM := Lib.hid hm
  have GA := Lib.hid hA
  have GB := Lib.hid hB
  have t0 : decide ((64 : Int) < (m : Int)) = false := decide_eq_false (by omega)
  clear hA hB hw hr hn hm
  go_enter Tryd.func16, Tryd.ntmps16
  go_wp2_with fail
  go_loopw [14] (fun i wr => ∃ k : Nat, k ≤ m ∧ i = .int .i64 k ∧ w = wr) (fun i _ => m - (RowKit.intOf i).toNat)
  case atStart => exact ⟨0, by omega, rfl, rfl⟩
  case round =>
    obtain ⟨k, hk, rfl, rfl⟩ := hrel
    by_cases hlt : k < m
    · obtain ⟨b, o, rfl, _, hc1⟩ := src_get' GB.out (by omega)
      have e1 := hc1 k _ (ints_at ws k (by rw [← HM.out]; exact hlt))
      have hww := HW.out k hlt
      generalize ws.getD k 0 = q at e1 hww
      clear hc1
      go_wp2_with fail
      refine (isWidth_yes q _ hww.1 hww.2).mono ?_
      rintro e w2 ⟨rfl, rfl⟩
      go_wp2_with fail
      go_roundw
      case rel => exact ⟨k + 1, by omega, by go_num, by first | trivial | rfl⟩
      case measure => simp [RowKit.intOf]; omega
    · obtain rfl : m = k := by omega
      go_wp2_with fail
      go_loopw [24] (fun i wr => ∃ k : Nat, k ≤ n ∧ i = .int .i64 k ∧ w = wr) (fun i _ => n - (RowKit.intOf i).toNat)
      case atStart => exact ⟨0, by omega, rfl, rfl⟩
      case round =>
        obtain ⟨j, hj, rfl, rfl⟩ := hrel
        by_cases hjl : j < n
        · obtain ⟨b, o, rfl, _, hc1⟩ := src_get' GA.out (by omega)
          have e1 := hc1 j _ (slcs_at R j (by rw [← HN.out]; exact hjl))
          have hrr := HR.out j hjl
          generalize R.getD j (none, 0, 0) = r at e1 hrr
          obtain ⟨ra, rn, rc⟩ := r
          replace hrr : rn ≤ m := hrr
          have t1 : decide (m < rn) = false := decide_eq_false (by omega)
          have t2 : decide ((m : Int) < (rn : Int)) = false := decide_eq_false (by omega)
          clear hc1
          go_wp2_with fail
          go_roundw
          case rel => exact ⟨j + 1, by omega, by go_num, by first | trivial | rfl⟩
          case measure => simp [RowKit.intOf]; omega
        · obtain rfl : n = j := by omega
          go_wp2_with fail
          go_ret
          exact ⟨rfl, rfl⟩
end Go.Proofs.YtaoekpedjgnnjaaDoor.Wd
