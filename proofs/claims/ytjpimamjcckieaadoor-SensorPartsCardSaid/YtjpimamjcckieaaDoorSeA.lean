/- The curve, the calls over it, and the document's entries (P11.1). -/
import Derived.Test.YtjpimamjcckieaaDoorChecked
import Derived.Test.YtjpimamjcckieaaDoorRo
import Derived.WalkKit
import Derived.ProofKit
import Derived.Below
import Derived.Deep.MidRow
import Derived.Deep.WholeRow
import Derived.LaidMore
import Derived.Lib.OthersKept
import Derived.WalkLawsBesides
import Derived.WalkSpells
import Derived.Outline
import Derived.Lib.Hide
import Derived.Lib.Strings
import Derived.Laws.OwnMore
import Derived.Laws.Externs
import Derived.Deep.QuietTactic
import Derived.Deep.RegionHeld3
import Derived.RegionTactic
import Derived.BigQuiet
import Derived.BigCall
import Derived.BigGuard
import Derived.Lib.LaidTab
namespace Go.Proofs.YtjpimamjcckieaaDoor.Se
open Go.ChangeShapes Go.WideShapes Go.ChangeAt Go.RowKit Own Ro

def tab : List Int := [625000, 2122500, 3145000, 4167500, 5190000, 6212500, 7235000, 8257500, 9280000, 10302500, 11325000, 12347500, 13370000, 14392500, 15415000, 16937500]
def tabV : List Value := tab.map (.int .i64)
def ent (i : Int) : Int := if i = 0 then 625000 else if i = 15 then 16937500 else 1100000 + 1022500 * i
/-- The array as it lies in memory. -/
def Tb (w : World) : Prop := w.rangeAt 0 0 tabV
theorem tab_at (i : Nat) (h : i < 16) : tabV[i]? = some (.int .i64 (ent i)) := by
  rcases i with _ | i
  · rfl
  · iterate 15 (rcases i with _ | i; · rfl)
    omega
theorem Tb.at {w : World} (h : Tb w) {i : Int} (h0 : 0 ≤ i) (h1 : i < 16) : w.cell? ⟨0, i.toNat, none⟩ = some (.int .i64 (ent i)) := by
  have := h i.toNat _ (tab_at i.toNat (by omega))
  rw [Nat.zero_add, show ((i.toNat : Nat) : Int) = i by omega] at this
  exact this
theorem Tb.below {w w' : World} (h : Tb w) (hb : Below w.heap.size w w') : Tb w' := fun j v hv => by
  have h1 := h j v hv
  rw [hb.cell (World.block_lt_of_cell? w _ h1)]
  exact h1
theorem Tb.alloc {w : World} (h : Tb w) (o : Obj) : Tb (w.alloc o) := World.rangeAt_alloc h o
theorem ent_bd (i : Int) (h0 : 0 ≤ i) (h1 : i < 16) : 625000 ≤ ent i ∧ ent i ≤ 16937500 := by unfold ent; split <;> (try split) <;> omega
theorem ent_lt (i k : Int) (h0 : 0 ≤ i) (h1 : i < k) (h2 : k < 16) : ent i < ent k := by unfold ent; split <;> split <;> (try split) <;> omega
/-- A whole array goes into the block that was made last. -/
theorem wpList_store_new {P : Program} {ops : Array Oper} {rest : List Oper} {op : Oper} {a : Act} {w : World} {Q : Exit → Act → World → Prop} (hgd : op.guard = none) (ty : TypeId) (x y : Operand) (ho : op.op = .store ty x y)
    (c c' : Array Value) (hx : a.eval x = .pointer (some ⟨w.heap.size, 0, none⟩)) (hy : a.eval y = .agg c') (hi : (P.info? ty).map (·.size) = some c'.size) (hs : c.size = c'.size) (h1 : c'.all (·.oneCell') = true)
    (h : wpList P ops Q rest (a.put op.dst undef) (w.alloc (.cells c' ty))) : wpList P ops Q (op :: rest) a (w.alloc (.cells c ty)) := by
  refine wpList_plain hgd fun _ hK => ?_
  unfold Oper.wp execOp
  simp only [ho, hx, hy, Instr.storeAt, Instr.sureAddr, Sem.run_bind, Sem.run_pure, Result.andThen_ok, run_storeVar_new w ty c c' hi hs h1]
  exact hK _ _ h
/-- A whole array out of a row. -/
theorem wpList_load_row' {P : Program} {ops : Array Oper} {rest : List Oper} {op : Oper} {a : Act} {w : World} {Q : Exit → Act → World → Prop} (hgd : op.guard = none) (ty : TypeId) (x : Operand) (ho : op.op = .load ty x)
    (b : Nat) (hx : a.eval x = .pointer (some ⟨b, 0, none⟩)) (cs : List Value) (d : TypeDesc) (hc : w.rangeAt b 0 cs)
    (hu : P.underlying ty = some d) (hd : d.isRow = true) (hi : (P.info? ty).map (·.size) = some cs.length)
    (h : wpList P ops Q rest (a.put op.dst (.agg cs.toArray)) w) : wpList P ops Q (op :: rest) a w :=
  wpList_load_mid hgd ty x ho b 0 hx cs d hc hu hd hi h
theorem range_new (w : World) (t : TypeId) (cs : List Value) : (w.alloc (.cells cs.toArray t)).rangeAt w.heap.size 0 cs := fun j v hv => by
  rw [World.cell?_alloc_at _ _ _ _ rfl, Nat.zero_add]
  simpa using hv
theorem eq_tab (w : World) : (Op.equalIn 10000 36 (.agg tabV.toArray) (.agg tabV.toArray)).run Tryd.prog w = .ok true w := by kernel_rfl
set_option maxRecDepth 100000 in
set_option maxHeartbeats 8000000 in
theorem micro_ok (i : Int) (w : World) (h : Tb w) (h0 : 0 ≤ i) (h1 : i < 16) : Calls Tryd.prog 7 #[.int .i64 i] w (fun e w' => e = .returned (.tuple #[.int .i64 (ent i), .int .i64 0]) ∧ w' = w) := by
  have HC := h.at h0 h1
  have i1 : ¬ i < 0 := by omega
  have i2 : ¬ 16 ≤ i := by omega
  go_enter Tryd.func7, Tryd.ntmps7
  go_wp2_with fail
  go_ret2
  exact ⟨rfl, rfl⟩
set_option maxRecDepth 100000 in
set_option maxHeartbeats 8000000 in
theorem micro_bad (i : Int) (w : World) (h : ¬ (0 ≤ i ∧ i < 16)) : Calls Tryd.prog 7 #[.int .i64 i] w (fun e w' => e = .returned (.tuple #[.int .i64 0, .int .i64 1]) ∧ w' = w) := by
  by_cases h1 : i < 0
  · go_enter Tryd.func7, Tryd.ntmps7
    go_wp2_with fail
    go_ret2
    exact ⟨rfl, rfl⟩
  · have h2 : 16 ≤ i := by omega
    go_enter Tryd.func7, Tryd.ntmps7
    go_wp2_with fail
    go_ret2
    exact ⟨rfl, rfl⟩
def micV (i : Int) : Int × Int := if 0 ≤ i ∧ i < 16 then (ent i, 0) else (0, 1)
theorem micro_any (i : Int) (w : World) (h : Tb w) : Calls Tryd.prog 7 #[.int .i64 i] w (fun e w' => e = .returned (.tuple #[.int .i64 (micV i).1, .int .i64 (micV i).2]) ∧ w' = w) := by
  by_cases hi : 0 ≤ i ∧ i < 16
  · refine (micro_ok i w h hi.1 hi.2).mono ?_
    rintro e w' ⟨rfl, hb⟩
    exact ⟨by unfold micV; rw [if_pos hi], hb⟩
  · refine (micro_bad i w hi).mono ?_
    rintro e w' ⟨rfl, hb⟩
    exact ⟨by unfold micV; rw [if_neg hi], hb⟩
end Go.Proofs.YtjpimamjcckieaaDoor.Se
