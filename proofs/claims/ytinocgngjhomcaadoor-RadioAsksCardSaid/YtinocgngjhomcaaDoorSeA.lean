/- The curve, the calls over it, and the document's entries (P11.1). -/
import Derived.Test.YtinocgngjhomcaaDoorChecked
import Derived.Test.YtinocgngjhomcaaDoorRo
import Derived.WalkKit
import Derived.ProofKit
import Derived.Below
import Derived.Deep.MidRow
import Derived.Deep.WholeRow
import Derived.LaidMore
import Derived.Lib.OthersKept
import Derived.WalkLawsBesides
import Derived.WalkSpells
import Derived.Outline
import Derived.Lib.Hide
import Derived.Lib.Strings
import Derived.Laws.OwnMore
import Derived.Laws.Externs
import Derived.Deep.QuietTactic
import Derived.Deep.RegionHeld3
import Derived.RegionTactic
import Derived.BigQuiet
import Derived.BigCall
import Derived.BigGuard
import Derived.Lib.LaidTab
namespace Go.Proofs.YtinocgngjhomcaaDoor.Se
open Go.ChangeShapes Go.WideShapes Go.ChangeAt Go.RowKit Own Ro

def tab : List Int := [625000, 2122500, 3145000, 4167500, 5190000, 6212500, 7235000, 8257500, 9280000, 10302500, 11325000, 12347500, 13370000, 14392500, 15415000, 16937500]
def tabV : List Value := tab.map (.int .i64)
def ent (i : Int) : Int := if i = 0 then 625000 else if i = 15 then 16937500 else 1100000 + 1022500 * i
theorem tab_at (i : Nat) (h : i < 16) : tabV[i]? = some (.int .i64 (ent i)) := by
  rcases i with _ | i
  · rfl
  · iterate 15 (rcases i with _ | i; · rfl)
    omega
theorem ent_bd (i : Int) (h0 : 0 ≤ i) (h1 : i < 16) : 625000 ≤ ent i ∧ ent i ≤ 16937500 := by unfold ent; split <;> (try split) <;> omega
theorem ent_lt (i k : Int) (h0 : 0 ≤ i) (h1 : i < k) (h2 : k < 16) : ent i < ent k := by unfold ent; split <;> split <;> (try split) <;> omega
/-- A whole array goes into the block that was made last. -/
theorem wpList_store_new {P : Program} {ops : Array Oper} {rest : List Oper} {op : Oper} {a : Act} {w : World} {Q : Exit → Act → World → Prop} (hgd : op.guard = none) (ty : TypeId) (x y : Operand) (ho : op.op = .store ty x y)
    (c c' : Array Value) (hx : a.eval x = .pointer (some ⟨w.heap.size, 0, none⟩)) (hy : a.eval y = .agg c') (hi : (P.info? ty).map (·.size) = some c'.size) (hs : c.size = c'.size) (h1 : c'.all (·.oneCell') = true)
    (h : wpList P ops Q rest (a.put op.dst undef) (w.alloc (.cells c' ty))) : wpList P ops Q (op :: rest) a (w.alloc (.cells c ty)) := by
  refine wpList_plain hgd fun _ hK => ?_
  unfold Oper.wp execOp
  simp only [ho, hx, hy, Instr.storeAt, Instr.sureAddr, Sem.run_bind, Sem.run_pure, Result.andThen_ok, run_storeVar_new w ty c c' hi hs h1]
  exact hK _ _ h
/-- A whole array out of a row. -/
theorem wpList_load_row' {P : Program} {ops : Array Oper} {rest : List Oper} {op : Oper} {a : Act} {w : World} {Q : Exit → Act → World → Prop} (hgd : op.guard = none) (ty : TypeId) (x : Operand) (ho : op.op = .load ty x)
    (b : Nat) (hx : a.eval x = .pointer (some ⟨b, 0, none⟩)) (cs : List Value) (d : TypeDesc) (hc : w.rangeAt b 0 cs)
    (hu : P.underlying ty = some d) (hd : d.isRow = true) (hi : (P.info? ty).map (·.size) = some cs.length)
    (h : wpList P ops Q rest (a.put op.dst (.agg cs.toArray)) w) : wpList P ops Q (op :: rest) a w :=
  wpList_load_mid hgd ty x ho b 0 hx cs d hc hu hd hi h
theorem range_new (w : World) (t : TypeId) (cs : List Value) : (w.alloc (.cells cs.toArray t)).rangeAt w.heap.size 0 cs := fun j v hv => by
  rw [World.cell?_alloc_at _ _ _ _ rfl, Nat.zero_add]
  simpa using hv
def micV (i : Int) : Int × Int := if 0 ≤ i ∧ i < 16 then (ent i, 0) else (0, 1)
set_option maxRecDepth 100000 in
set_option maxHeartbeats 8000000 in
theorem refCrystal_any (i : Int) (w : World) (h0 : 0 < i) (h1 : i < 16) : Calls Tryd.prog 59 #[.int .i64 i] w (fun e w' => e = .returned (.int .i64 (1000000 + 1000000 * i)) ∧ w' = w) := by
  have d0 : decide (i = 0) = false := decide_eq_false (by omega)
  have d1 : decide (i = 31) = false := decide_eq_false (by omega)
  go_enter Tryd.func59, Tryd.ntmps59
  go_wp2_with fail
  all_goals first
    | (exfalso; omega)
    | (go_ret; exact ⟨rfl, rfl⟩)
set_option maxRecDepth 100000 in
set_option maxHeartbeats 8000000 in
theorem refSupply_zero (w : World) : Calls Tryd.prog 54 #[.int .i64 0] w (fun e w' => e = .returned (.int .i64 800000) ∧ w' = w) := by
  go_enter Tryd.func54, Tryd.ntmps54
  go_wp2_with fail
  go_ret
  exact ⟨rfl, rfl⟩
set_option maxRecDepth 100000 in
set_option maxHeartbeats 8000000 in
theorem refSupply_any (i : Int) (w : World) (h0 : 0 < i) (h1 : i < 16) : Calls Tryd.prog 54 #[.int .i64 i] w (fun e w' => e = .returned (.int .i64 (300000 + 12500 * i + (1000000 + 1000000 * i))) ∧ w' = w) := by
  have HT := refCrystal_any i w h0 h1
  have i1 : 0 < i := h0
  have i2 : i < 16 := h1
  have t0 : (i == 0) = false := by simp; omega
  have t1 : (i == 23) = false := by simp; omega
  go_enter Tryd.func54, Tryd.ntmps54
  go_wp2_with fail
  refine HT.mono ?_
  rintro e w1 ⟨rfl, rfl⟩
  go_wp2_with fail
  go_ret
  exact ⟨rfl, rfl⟩
set_option maxRecDepth 100000 in
set_option maxHeartbeats 8000000 in
theorem refEntry_any (i : Int) (w : World) (h0 : 0 ≤ i) (h1 : i < 16) : Calls Tryd.prog 46 #[.int .i64 i] w (fun e w' => e = .returned (.int .i64 (ent i)) ∧ w' = w) := by
  by_cases e0 : i = 0
  · subst e0
    go_enter Tryd.func46, Tryd.ntmps46
    go_wp2_with fail
    refine (refSupply_zero w).mono ?_
    rintro e w1 ⟨rfl, rfl⟩
    go_wp2_with fail
    go_ret
    exact ⟨rfl, rfl⟩
  by_cases e1 : i = 15
  · subst e1
    go_enter Tryd.func46, Tryd.ntmps46
    go_wp2_with fail
    refine (refSupply_any 15 w (by omega) (by omega)).mono ?_
    rintro e w1 ⟨rfl, rfl⟩
    go_wp2_with fail
    go_ret
    exact ⟨rfl, rfl⟩
  have HE : ent i = -200000 + 10000 * i + (300000 + 12500 * i + (1000000 + 1000000 * i)) := by unfold ent; rw [if_neg e0, if_neg e1]; omega
  have HT := refSupply_any i w (by omega) (by omega)
  have t0 : (i == 0) = false := by simp [e0]
  have t1 : (i == 15) = false := by simp [e1]
  have i1 : 0 < i := by omega
  have i2 : i < 16 := h1
  rw [HE]
  clear HE e0 e1
  go_enter Tryd.func46, Tryd.ntmps46
  go_wp2_with fail
  refine HT.mono ?_
  rintro e w1 ⟨rfl, rfl⟩
  go_wp2_with fail
  go_ret
  exact ⟨rfl, rfl⟩
end Go.Proofs.YtinocgngjhomcaaDoor.Se
