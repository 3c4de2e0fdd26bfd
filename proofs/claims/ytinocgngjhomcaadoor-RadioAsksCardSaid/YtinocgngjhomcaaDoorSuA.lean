/- The voltages' table and the calls over it (P9.1). -/
import Derived.Test.YtinocgngjhomcaaDoorChecked
import Derived.Test.YtinocgngjhomcaaDoorRo
import Derived.WalkKit
import Derived.ProofKit
import Derived.Below
import Derived.Deep.MidRow
import Derived.Deep.WholeRow
import Derived.LaidMore
import Derived.Lib.OthersKept
import Derived.WalkLawsBesides
import Derived.WalkSpells
import Derived.Outline
import Derived.Lib.Hide
import Derived.Lib.Strings
import Derived.Laws.OwnMore
import Derived.Laws.Externs
import Derived.Deep.QuietTactic
import Derived.Deep.RegionHeld3
import Derived.RegionTactic
import Derived.BigQuiet
import Derived.BigCall
import Derived.BigGuard
import Derived.Lib.LaidTab
namespace Go.Proofs.YtinocgngjhomcaaDoor.Su
open Go.ChangeShapes Go.WideShapes Go.ChangeAt Go.RowKit Own Ro

def tab : List Int := [800000, 2312500, 3325000, 4337500, 5350000, 6362500, 7375000, 8387500, 9400000, 10412500, 11425000, 12437500, 13450000, 14462500, 15475000, 16487500, 17500000, 18512500, 19525000, 20537500, 21550000, 22562500, 23575000, 25000000]
def tabV : List Value := tab.map (.int .i64)
def ent (i : Int) : Int := if i = 0 then 800000 else if i = 23 then 25000000 else 1300000 + 1012500 * i
theorem tab_at (i : Nat) (h : i < 24) : tabV[i]? = some (.int .i64 (ent i)) := by
  rcases i with _ | i
  · rfl
  · iterate 23 (rcases i with _ | i; · rfl)
    omega
theorem ent_bd (i : Int) (h0 : 0 ≤ i) (h1 : i < 24) : 800000 ≤ ent i ∧ ent i ≤ 25000000 := by unfold ent; split <;> (try split) <;> omega
/-- A whole array goes into the block that was made last. -/
theorem wpList_store_new {P : Program} {ops : Array Oper} {rest : List Oper} {op : Oper} {a : Act} {w : World} {Q : Exit → Act → World → Prop} (hgd : op.guard = none) (ty : TypeId) (x y : Operand) (ho : op.op = .store ty x y)
    (c c' : Array Value) (hx : a.eval x = .pointer (some ⟨w.heap.size, 0, none⟩)) (hy : a.eval y = .agg c') (hi : (P.info? ty).map (·.size) = some c'.size) (hs : c.size = c'.size) (h1 : c'.all (·.oneCell') = true)
    (h : wpList P ops Q rest (a.put op.dst undef) (w.alloc (.cells c' ty))) : wpList P ops Q (op :: rest) a (w.alloc (.cells c ty)) := by
  refine wpList_plain hgd fun _ hK => ?_
  unfold Oper.wp execOp
  simp only [ho, hx, hy, Instr.storeAt, Instr.sureAddr, Sem.run_bind, Sem.run_pure, Result.andThen_ok, run_storeVar_new w ty c c' hi hs h1]
  exact hK _ _ h
/-- A whole array out of a row. -/
theorem wpList_load_row' {P : Program} {ops : Array Oper} {rest : List Oper} {op : Oper} {a : Act} {w : World} {Q : Exit → Act → World → Prop} (hgd : op.guard = none) (ty : TypeId) (x : Operand) (ho : op.op = .load ty x)
    (b : Nat) (hx : a.eval x = .pointer (some ⟨b, 0, none⟩)) (cs : List Value) (d : TypeDesc) (hc : w.rangeAt b 0 cs)
    (hu : P.underlying ty = some d) (hd : d.isRow = true) (hi : (P.info? ty).map (·.size) = some cs.length)
    (h : wpList P ops Q rest (a.put op.dst (.agg cs.toArray)) w) : wpList P ops Q (op :: rest) a w :=
  wpList_load_mid hgd ty x ho b 0 hx cs d hc hu hd hi h
theorem range_new (w : World) (t : TypeId) (cs : List Value) : (w.alloc (.cells cs.toArray t)).rangeAt w.heap.size 0 cs := fun j v hv => by
  rw [World.cell?_alloc_at _ _ _ _ rfl, Nat.zero_add]
  simpa using hv
/-- An entry in volts. -/
def volN (i : Int) : Nat := ((FloatKind.f64.format.div (floatOfInt FloatKind.f64 (ent i)) 4696837146684686336).getD 0)
def volV (i : Int) : Value := .float .f64 (volN i)
theorem vol_all : ∀ i < 24, FloatKind.f64.format.div (floatOfInt FloatKind.f64 (ent (i : Nat))) 4696837146684686336 = some (volN (i : Nat)) := by decide +kernel
theorem vol_run (i : Int) (h0 : 0 ≤ i) (h1 : i < 24) (t : TypeId) (w : World) : (binOp .quo t (.float .f64 (floatOfInt FloatKind.f64 (ent i))) (.float .f64 4696837146684686336)).run Tryd.prog w = .ok (volV i) w :=
  run_float_arith _ _ _ _ _ _ _ (by
    have := vol_all i.toNat (by omega)
    rw [show ((i.toNat : Nat) : Int) = i by omega] at this
    exact this)
set_option maxRecDepth 100000 in
set_option maxHeartbeats 8000000 in
theorem ticks_any (i : Int) (w : World) (h0 : 0 < i) (h1 : i < 23) : Calls Tryd.prog 65 #[.int .i64 i] w (fun e w' => e = .returned (.int .i64 (1000000 + 1000000 * i)) ∧ w' = w) := by
  have d0 : decide (i = 0) = false := decide_eq_false (by omega)
  have d1 : decide (i = 31) = false := decide_eq_false (by omega)
  go_enter Tryd.func65, Tryd.ntmps65
  go_wp2_with fail
  all_goals first
    | (exfalso; omega)
    | (go_ret; exact ⟨rfl, rfl⟩)
set_option maxRecDepth 100000 in
set_option maxHeartbeats 8000000 in
theorem refEntry_any (i : Int) (w : World) (h0 : 0 ≤ i) (h1 : i < 24) : Calls Tryd.prog 64 #[.int .i64 i] w (fun e w' => e = .returned (.int .i64 (ent i)) ∧ w' = w) := by
  have i1 : 0 ≤ i := h0
  have i2 : i < 24 := h1
  by_cases e0 : i = 0
  · subst e0
    go_enter Tryd.func64, Tryd.ntmps64
    go_wp2_with fail
    go_ret
    exact ⟨rfl, rfl⟩
  by_cases e1 : i = 23
  · subst e1
    go_enter Tryd.func64, Tryd.ntmps64
    go_wp2_with fail
    go_ret
    exact ⟨rfl, rfl⟩
  have HE : ent i = 1300000 + 1012500 * i := by unfold ent; rw [if_neg e0, if_neg e1]
  have HT := ticks_any i w (by omega) (by omega)
  have t0 : (i == 0) = false := by simp [e0]
  have t1 : (i == 23) = false := by simp [e1]
  rw [HE]
  clear HE e0 e1
  go_enter Tryd.func64, Tryd.ntmps64
  go_wp2_with fail
  refine HT.mono ?_
  rintro e w1 ⟨rfl, rfl⟩
  go_wp2_with fail
  go_ret
  refine ⟨?_, rfl⟩
  rw [show 1300000 + 1012500 * i = 300000 + 12500 * i + (1000000 + 1000000 * i) by omega]
  rfl
def micV (i : Int) : Int × Int := if 0 ≤ i ∧ i < 24 then (ent i, 0) else (0, 1)
def volP (i : Int) : Nat × Int := if 0 ≤ i ∧ i < 24 then (volN i, 0) else (0, 1)
end Go.Proofs.YtinocgngjhomcaaDoor.Su
