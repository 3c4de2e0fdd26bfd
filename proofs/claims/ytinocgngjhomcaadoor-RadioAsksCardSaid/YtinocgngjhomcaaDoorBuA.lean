/- The third family's array: the program's, and the document's reckoning of it (P10.1). -/
import Derived.Test.YtinocgngjhomcaaDoorSuA
namespace Go.Proofs.YtinocgngjhomcaaDoor.Bu
open Go.ChangeShapes Go.WideShapes Go.ChangeAt Go.RowKit Own Ro

def tab : List Int := [271672320, 279750992, 284866528, 289982064, 295097600, 300213136, 305328672, 310444208, 315559744, 320675280, 325790816, 330906352, 336021888, 341137424, 346252960, 351368496, 356484032, 361599568, 366715104, 411830640]
def tabV : List Value := tab.map (.int .i64)
def ent (i : Int) : Int := if i = 0 then 271672320 else if i = 19 then 411830640 else 274635456 + 5115536 * i
theorem tab_at (i : Nat) (h : i < 20) : tabV[i]? = some (.int .i64 (ent i)) := by
  rcases i with _ | i
  · rfl
  · iterate 19 (rcases i with _ | i; · rfl)
    omega
theorem ent_bd (i : Int) (h0 : 0 ≤ i) (h1 : i < 20) : 271672320 ≤ ent i ∧ ent i ≤ 411830640 := by unfold ent; split <;> (try split) <;> omega
theorem ent_lt (i k : Int) (h0 : 0 ≤ i) (h1 : i < k) (h2 : k < 20) : ent i < ent k := by unfold ent; split <;> split <;> (try split) <;> omega
theorem info_i64 : (Tryd.prog.info? 2).map (fun i => (i.zero, i.size, i.bytes)) = some (some (.int .i64 0), 1, 8) := by kernel_rfl
def e08 (i : Int) : Int := if i = 0 then 32768 else if i = 31 then 100000000 else 1000000 + 1000000 * i
set_option maxRecDepth 100000 in
set_option maxHeartbeats 8000000 in
theorem entry08_any (i : Int) (w : World) (h0 : 0 ≤ i) (h1 : i < 20) : Calls Tryd.prog 53 #[.int .i64 i] w (fun e w' => e = .returned (.int .i64 (e08 i)) ∧ w' = w) := by
  have i1 : 0 ≤ i := h0
  have i2 : i < 20 := h1
  by_cases e0 : i = 0
  · subst e0
    go_enter Tryd.func53, Tryd.ntmps53
    go_wp2_with fail
    go_ret
    exact ⟨rfl, rfl⟩
  have HE : e08 i = 1000000 + 1000000 * i := by unfold e08; rw [if_neg e0, if_neg (by omega)]
  have t0 : (i == 0) = false := by simp [e0]
  have t1 : (i == 31) = false := by simp; omega
  rw [HE]
  clear HE e0
  go_enter Tryd.func53, Tryd.ntmps53
  go_wp2_with fail
  go_ret
  exact ⟨rfl, rfl⟩
/-- The first k of what a number makes of each place. -/
def firsts (f : Int → Int) (k : Nat) : List Value := (List.range k).map fun (i : Nat) => .int .i64 (f i)
theorem firsts_snoc (f : Int → Int) (k : Nat) : firsts f k ++ [.int .i64 (f k)] = firsts f (k + 1) := by
  unfold firsts
  rw [List.range_succ, List.map_append]
  rfl
set_option maxRecDepth 100000 in
set_option maxHeartbeats 8000000 in
theorem nums09_any (w : World) : Calls Tryd.prog 62 #[] w (fun e w' => ∃ A c, e = .returned (.slice A 24 c) ∧ w'.ownsRow w.heap.size 2 1 (.slice A 24 c) 24 (firsts Su.ent 24) ∧ Below w.heap.size w w') := by
  go_enter Tryd.func62, Tryd.ntmps62
  go_wp2_with fail
  go_loopw [1, 2] (fun v1 v2 wr => ∃ (k : Nat), k ≤ 24 ∧ v2 = .int .i64 (k : Int) ∧ Below w.heap.size w wr ∧ ∃ A c, v1 = .slice A k c ∧ wr.ownsRow w.heap.size 2 1 (.slice A k c) k (firsts Su.ent k)) (fun _ v2 _ => 24 - (RowKit.intOf v2).toNat)
  case atStart => exact ⟨0, by omega, rfl, Below.refl _ _, none, 0, rfl, own_nil _ _ _⟩
  case round =>
    obtain ⟨k, hk, rfl, hb, A, c, rfl, ho⟩ := hrel
    have HB := Lib.hid hb
    have HO := Lib.hid ho
    have hsz : w.heap.size ≤ wr.heap.size := hb.size
    clear hb ho
    by_cases hlt : k < 24
    · have l1 : (0 : Int) ≤ (k : Int) := by omega
      have l2 : (k : Int) < 24 := by omega
      have HE := Lib.hid (fun V => Su.refEntry_any (k : Int) V l1 l2)
      have HSN := Lib.hid (firsts_snoc Su.ent k)
      generalize Su.ent (k : Nat) = en at HE HSN
      go_wp2_with fail
      refine (HE.out _).mono ?_
      rintro e w1 ⟨rfl, hw⟩
      rw [hw]
      clear hw w1
      go_wp2_with (at_builtin; go_must (refine wpList_append_src rfl (.tmp 7) (.tmp 10) 67 rfl w.heap.size 2 (.int .i64 0) 8 Tryd.underlying67 info_i64 rfl _ k (firsts Su.ent k) rfl (own_belowK HO.out (grows' wr _)) _ 1 1 [.int .i64 en] rfl (src_new _ _ _) (by intro u hu; simp at hu; subst hu; rfl) (by omega) (by omega) (by simp; omega) ?_); intro v1 w3 hown1 hg1)
      rw [HSN.out] at hown1
      obtain ⟨A', c', rfl, _⟩ := own_src hown1
      have HB3 := Lib.hid (below_grown' HB.out hsz HO.out (Nat.le_refl _) hg1)
      go_roundw
      case rel => exact ⟨k + 1, by omega, by go_num, HB3.out, A', c', rfl, hown1⟩
      case measure => simp [RowKit.intOf]; omega
    · obtain rfl : k = 24 := by omega
      go_wp2_with fail
      go_ret
      exact ⟨A, c, rfl, HO.out, HB.out⟩
end Go.Proofs.YtinocgngjhomcaaDoor.Bu
