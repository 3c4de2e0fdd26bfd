/- The fifth family's array, and the calls over it (P12.1). -/
import Derived.Test.YtinocgngjhomcaaDoorChecked
import Derived.Test.YtinocgngjhomcaaDoorRo
import Derived.WalkKit
import Derived.ProofKit
import Derived.Below
import Derived.Deep.MidRow
import Derived.Deep.WholeRow
import Derived.LaidMore
import Derived.Lib.OthersKept
import Derived.WalkLawsBesides
import Derived.WalkSpells
import Derived.Outline
import Derived.Lib.Hide
import Derived.Lib.Strings
import Derived.Laws.OwnMore
import Derived.Laws.Externs
import Derived.Deep.QuietTactic
import Derived.Deep.RegionHeld3
import Derived.RegionTactic
import Derived.BigQuiet
import Derived.BigCall
import Derived.BigGuard
import Derived.Lib.LaidTab
namespace Go.Proofs.YtinocgngjhomcaaDoor.Ra
open Go.ChangeShapes Go.WideShapes Go.ChangeAt Go.RowKit Own Ro

def tab : List Int := [432920000, 444020992, 451206528, 458392064, 465577600, 472763136, 479948672, 487134208, 494319744, 501505280, 508690816, 515876352, 523061888, 530247424, 537432960, 545618496, 518134032, 526269568, 533455104, 580610000]
def tabV : List Value := tab.map (.int .i64)
def ent (i : Int) : Int := tab.getD i.toNat 0
/-- The array as it lies in memory. -/
def Tb (w : World) : Prop := w.rangeAt 0 0 tabV
theorem tab_at (i : Nat) (h : i < 20) : tabV[i]? = some (.int .i64 (ent i)) := by
  unfold tabV ent
  rw [List.getElem?_map, List.getElem?_eq_getElem (show i < tab.length from h), List.getD_eq_getElem?_getD, Int.toNat_natCast, List.getElem?_eq_getElem (show i < tab.length from h)]
  rfl
theorem Tb.at {w : World} (h : Tb w) {i : Int} (h0 : 0 ≤ i) (h1 : i < 20) : w.cell? ⟨0, i.toNat, none⟩ = some (.int .i64 (ent i)) := by
  have := h i.toNat _ (tab_at i.toNat (by omega))
  rw [Nat.zero_add, show ((i.toNat : Nat) : Int) = i by omega] at this
  exact this
theorem Tb.below {w w' : World} (h : Tb w) (hb : Below w.heap.size w w') : Tb w' := fun j v hv => by
  have h1 := h j v hv
  rw [hb.cell (World.block_lt_of_cell? w _ h1)]
  exact h1
theorem Tb.alloc {w : World} (h : Tb w) (o : Obj) : Tb (w.alloc o) := World.rangeAt_alloc h o
theorem ent_bdN : ∀ i < 20, 432920000 ≤ ent (i : Nat) ∧ ent (i : Nat) ≤ 580610000 := by decide
theorem ent_bd (i : Int) (h0 : 0 ≤ i) (h1 : i < 20) : 432920000 ≤ ent i ∧ ent i ≤ 580610000 := by
  have := ent_bdN i.toNat (by omega)
  rwa [show ((i.toNat : Nat) : Int) = i by omega] at this
/-- A whole array goes into the block that was made last. -/
theorem wpList_store_new {P : Program} {ops : Array Oper} {rest : List Oper} {op : Oper} {a : Act} {w : World} {Q : Exit → Act → World → Prop} (hgd : op.guard = none) (ty : TypeId) (x y : Operand) (ho : op.op = .store ty x y)
    (c c' : Array Value) (hx : a.eval x = .pointer (some ⟨w.heap.size, 0, none⟩)) (hy : a.eval y = .agg c') (hi : (P.info? ty).map (·.size) = some c'.size) (hs : c.size = c'.size) (h1 : c'.all (·.oneCell') = true)
    (h : wpList P ops Q rest (a.put op.dst undef) (w.alloc (.cells c' ty))) : wpList P ops Q (op :: rest) a (w.alloc (.cells c ty)) := by
  refine wpList_plain hgd fun _ hK => ?_
  unfold Oper.wp execOp
  simp only [ho, hx, hy, Instr.storeAt, Instr.sureAddr, Sem.run_bind, Sem.run_pure, Result.andThen_ok, run_storeVar_new w ty c c' hi hs h1]
  exact hK _ _ h
/-- A whole array out of a row. -/
theorem wpList_load_row' {P : Program} {ops : Array Oper} {rest : List Oper} {op : Oper} {a : Act} {w : World} {Q : Exit → Act → World → Prop} (hgd : op.guard = none) (ty : TypeId) (x : Operand) (ho : op.op = .load ty x)
    (b : Nat) (hx : a.eval x = .pointer (some ⟨b, 0, none⟩)) (cs : List Value) (d : TypeDesc) (hc : w.rangeAt b 0 cs)
    (hu : P.underlying ty = some d) (hd : d.isRow = true) (hi : (P.info? ty).map (·.size) = some cs.length)
    (h : wpList P ops Q rest (a.put op.dst (.agg cs.toArray)) w) : wpList P ops Q (op :: rest) a w :=
  wpList_load_mid hgd ty x ho b 0 hx cs d hc hu hd hi h
theorem range_new (w : World) (t : TypeId) (cs : List Value) : (w.alloc (.cells cs.toArray t)).rangeAt w.heap.size 0 cs := fun j v hv => by
  rw [World.cell?_alloc_at _ _ _ _ rfl, Nat.zero_add]
  simpa using hv
theorem eq_tab (w : World) : (Op.equalIn 10000 51 (.agg tabV.toArray) (.agg tabV.toArray)).run Tryd.prog w = .ok true w := by kernel_rfl
theorem info_i64 : (Tryd.prog.info? 2).map (fun i => (i.zero, i.size, i.bytes)) = some (some (.int .i64 0), 1, 8) := by kernel_rfl
set_option maxRecDepth 100000 in
set_option maxHeartbeats 8000000 in
theorem table_any (w : World) (h : Tb w) : Calls Tryd.prog 27 #[] w (fun e w' => e = .returned (.agg tabV.toArray) ∧ Below w.heap.size w w') := by
  have H := Lib.hid h
  clear h
  go_enter Tryd.func27, Tryd.ntmps27
  go_wp2_with (first | refine wpList_load_row' rfl _ _ rfl 0 rfl tabV (.array 20 2) (H.out.alloc _) (by kernel_rfl) rfl (by kernel_rfl) ?_ | refine wpList_store_new rfl _ _ _ rfl _ tabV.toArray rfl rfl (by kernel_rfl) (by kernel_rfl) (by kernel_rfl) ?_)
  refine bodyPost_ret (results_cell_row rfl _ _ w.heap.size 51 tabV.toArray (0, 0) (.array 20 2) rfl (heap_alloc_last w _) (by kernel_rfl) rfl (by kernel_rfl)) rfl ?_
  exact ⟨rfl, grows' _ _⟩
set_option maxRecDepth 100000 in
set_option maxHeartbeats 8000000 in
theorem isBand_any (i : Int) (w : World) : Calls Tryd.prog 34 #[.int .i64 i] w (fun e w' => e = .returned (.bool (decide (0 ≤ i ∧ i < 20))) ∧ w' = w) := by
  go_enter Tryd.func34, Tryd.ntmps34
  go_wp2_with fail
  · go_ret
    refine ⟨?_, rfl⟩
    have : ¬ (0 ≤ i ∧ i < 20) → True := fun _ => trivial
    simp_all
  · go_ret
    refine ⟨?_, rfl⟩
    rw [show (decide (0 ≤ i) && decide (i < 20)) = false by simp; omega]
    rfl
set_option maxRecDepth 100000 in
set_option maxHeartbeats 8000000 in
theorem hertz_ok (i : Int) (w : World) (h : Tb w) (h0 : 0 ≤ i) (h1 : i < 20) : Calls Tryd.prog 9 #[.int .i64 i] w (fun e w' => e = .returned (.tuple #[.int .i64 (ent i), .int .i64 0]) ∧ w' = w) := by
  have H : decide (0 ≤ i ∧ i < 20) = true := by simp; omega
  have HC := h.at h0 h1
  have i1 : 0 ≤ i := h0
  have i2 : i < 20 := h1
  go_enter Tryd.func9, Tryd.ntmps9
  go_wp2_with fail
  refine (isBand_any i w).mono ?_
  rintro e w1 ⟨rfl, rfl⟩
  rw [H]
  go_wp2_with fail
  go_ret2
  exact ⟨rfl, rfl⟩
set_option maxRecDepth 100000 in
set_option maxHeartbeats 8000000 in
theorem hertz_bad (i : Int) (w : World) (h : ¬ (0 ≤ i ∧ i < 20)) : Calls Tryd.prog 9 #[.int .i64 i] w (fun e w' => e = .returned (.tuple #[.int .i64 0, .int .i64 1]) ∧ w' = w) := by
  have H : decide (0 ≤ i ∧ i < 20) = false := decide_eq_false h
  go_enter Tryd.func9, Tryd.ntmps9
  go_wp2_with fail
  refine (isBand_any i w).mono ?_
  rintro e w1 ⟨rfl, rfl⟩
  rw [H]
  go_wp2_with fail
  go_ret2
  exact ⟨rfl, rfl⟩
/-- What Hertz answers. -/
def herV (i : Int) : Int × Int := if 0 ≤ i ∧ i < 20 then (ent i, 0) else (0, 1)
theorem hertz_any (i : Int) (w : World) (h : Tb w) : Calls Tryd.prog 9 #[.int .i64 i] w (fun e w' => e = .returned (.tuple #[.int .i64 (herV i).1, .int .i64 (herV i).2]) ∧ w' = w) := by
  by_cases hi : 0 ≤ i ∧ i < 20
  · refine (hertz_ok i w h hi.1 hi.2).mono ?_
    rintro e w' ⟨rfl, hb⟩
    exact ⟨by unfold herV; rw [if_pos hi], hb⟩
  · refine (hertz_bad i w hi).mono ?_
    rintro e w' ⟨rfl, hb⟩
    exact ⟨by unfold herV; rw [if_neg hi], hb⟩
set_option maxRecDepth 100000 in
set_option maxHeartbeats 8000000 in
theorem awake_any (w : World) (h : Tb w) : Calls Tryd.prog 19 #[] w (fun e w' => e = .returned (.bool true) ∧ w' = w) := by
  have R0 := hertz_ok 0 w h (by omega) (by omega)
  have R1 := hertz_ok 19 w h (by omega) (by omega)
  rw [show ent 0 = 432920000 from rfl] at R0
  rw [show ent 19 = 580610000 from rfl] at R1
  replace R0 := Lib.hid R0
  replace R1 := Lib.hid R1
  clear h
  go_enter Tryd.func19, Tryd.ntmps19
  go_wp2_with fail
  refine R0.out.mono ?_
  rintro e w1 ⟨rfl, rfl⟩
  go_wp2_with fail
  refine R1.out.mono ?_
  rintro e w2 ⟨rfl, rfl⟩
  go_wp2_with fail
  go_ret
  exact ⟨rfl, rfl⟩
end Go.Proofs.YtinocgngjhomcaaDoor.Ra
