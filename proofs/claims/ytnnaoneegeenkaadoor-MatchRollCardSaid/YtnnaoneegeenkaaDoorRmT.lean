/- The five families' arrays as their texts lay them; roll's functions that tell them as lists. -/
import Derived.Test.YtnnaoneegeenkaaDoorRows
import Derived.LaidSub
import Derived.Test.YtnnaoneegeenkaaDoorRo
import Derived.WalkKit
import Derived.ProofKit
import Derived.Below
import Derived.Deep.MidRow
import Derived.Deep.WholeRow
import Derived.LaidMore
import Derived.Lib.OthersKept
import Derived.WalkLawsBesides
import Derived.WalkSpells
import Derived.Outline
import Derived.Lib.Hide
import Derived.Lib.Strings
import Derived.Laws.OwnMore
import Derived.Laws.Externs
import Derived.Deep.QuietTactic
import Derived.Deep.RegionHeld3
import Derived.RegionTactic
import Derived.BigQuiet
import Derived.BigCall
import Derived.BigGuard
import Derived.Lib.LaidTab
namespace Go.Proofs.YtnnaoneegeenkaaDoor.Rm
open Go.ChangeShapes Go.WideShapes Go.ChangeAt Go.RowKit Own Ro

/-- A whole array goes into the block that was made last. -/
theorem wpList_store_new {P : Program} {ops : Array Oper} {rest : List Oper} {op : Oper} {a : Act} {w : World} {Q : Exit → Act → World → Prop} (hgd : op.guard = none) (ty : TypeId) (x y : Operand) (ho : op.op = .store ty x y)
    (c c' : Array Value) (hx : a.eval x = .pointer (some ⟨w.heap.size, 0, none⟩)) (hy : a.eval y = .agg c') (hi : (P.info? ty).map (·.size) = some c'.size) (hs : c.size = c'.size) (h1 : c'.all (·.oneCell') = true)
    (h : wpList P ops Q rest (a.put op.dst undef) (w.alloc (.cells c' ty))) : wpList P ops Q (op :: rest) a (w.alloc (.cells c ty)) := by
  refine wpList_plain hgd fun _ hK => ?_
  unfold Oper.wp execOp
  simp only [ho, hx, hy, Instr.storeAt, Instr.sureAddr, Sem.run_bind, Sem.run_pure, Result.andThen_ok, run_storeVar_new w ty c c' hi hs h1]
  exact hK _ _ h
/-- A whole array out of a row. -/
theorem wpList_load_row' {P : Program} {ops : Array Oper} {rest : List Oper} {op : Oper} {a : Act} {w : World} {Q : Exit → Act → World → Prop} (hgd : op.guard = none) (ty : TypeId) (x : Operand) (ho : op.op = .load ty x)
    (b : Nat) (hx : a.eval x = .pointer (some ⟨b, 0, none⟩)) (cs : List Value) (d : TypeDesc) (hc : w.rangeAt b 0 cs)
    (hu : P.underlying ty = some d) (hd : d.isRow = true) (hi : (P.info? ty).map (·.size) = some cs.length)
    (h : wpList P ops Q rest (a.put op.dst (.agg cs.toArray)) w) : wpList P ops Q (op :: rest) a w :=
  wpList_load_mid hgd ty x ho b 0 hx cs d hc hu hd hi h
theorem info_i64 : (Tryd.prog.info? 2).map (fun i => (i.zero, i.size, i.bytes)) = some (some (.int .i64 0), 1, 8) := by kernel_rfl
/-- A list of numbers that is a new array's. -/
def TabPost (n : Nat) (vs : List Value) (T : TypeId) (w : World) (e : Ending) (w' : World) : Prop :=
  ∃ g, e = .returned (.slice (some ⟨g, 0, none⟩) n n) ∧ w.heap.size ≤ g ∧ w'.heap[g]? = some (.cells vs.toArray T (0, 0)) ∧ Below w.heap.size w w'
namespace Ct
def tab : List Int := [32768, 2000000, 3000000, 4000000, 5000000, 6000000, 7000000, 8000000, 9000000, 10000000, 11000000, 12000000, 13000000, 14000000, 15000000, 16000000, 17000000, 18000000, 19000000, 20000000, 21000000, 22000000, 23000000, 24000000, 25000000, 26000000, 27000000, 28000000, 29000000, 30000000, 31000000, 100000000]
def tabV : List Value := tab.map (.int .i64)
def ent (i : Int) : Int := tab.getD i.toNat 0
/-- The array as it lies in memory. -/
def Tb (w : World) : Prop := w.rangeAt 0 0 tabV
theorem tab_at (i : Nat) (h : i < 32) : tabV[i]? = some (.int .i64 (ent i)) := by
  unfold tabV ent
  rw [List.getElem?_map, List.getElem?_eq_getElem (show i < tab.length from h), List.getD_eq_getElem?_getD, Int.toNat_natCast, List.getElem?_eq_getElem (show i < tab.length from h)]
  rfl
theorem Tb.at {w : World} (h : Tb w) {i : Int} (h0 : 0 ≤ i) (h1 : i < 32) : w.cell? ⟨0, i.toNat, none⟩ = some (.int .i64 (ent i)) := by
  have := h i.toNat _ (tab_at i.toNat (by omega))
  rw [Nat.zero_add, show ((i.toNat : Nat) : Int) = i by omega] at this
  exact this
theorem Tb.below {w w' : World} (h : Tb w) (hb : Below w.heap.size w w') : Tb w' := fun j v hv => by
  have h1 := h j v hv
  rw [hb.cell (World.block_lt_of_cell? w _ h1)]
  exact h1
theorem Tb.alloc {w : World} (h : Tb w) (o : Obj) : Tb (w.alloc o) := World.rangeAt_alloc h o
set_option maxRecDepth 100000 in
set_option maxHeartbeats 8000000 in
theorem table_any (w : World) (h : Tb w) : Calls Tryd.prog 66 #[] w (fun e w' => e = .returned (.agg tabV.toArray) ∧ Below w.heap.size w w') := by
  have H := Lib.hid h
  clear h
  go_enter Tryd.func66, Tryd.ntmps66
  go_wp2_with (first | refine wpList_load_row' rfl _ _ rfl 0 rfl tabV (.array 32 2) (H.out.alloc _) (by kernel_rfl) rfl (by kernel_rfl) ?_ | refine wpList_store_new rfl _ _ _ rfl _ tabV.toArray rfl rfl (by kernel_rfl) (by kernel_rfl) (by kernel_rfl) ?_)
  refine bodyPost_ret (results_cell_row rfl _ _ w.heap.size 121 tabV.toArray (0, 0) (.array 32 2) rfl (heap_alloc_last w _) (by kernel_rfl) rfl (by kernel_rfl)) rfl ?_
  exact ⟨rfl, grows' _ _⟩
theorem gtab : Tryd.prog.globalNamed "reveille/crystal.table" = some 0 := by kernel_rfl
theorem tab_eq : (Rows.laid_reveille_crystal_table : DataW Unit) = Lib.tabData .i64 tab := by kernel_rfl
theorem tb_of {W : World} (h : laidMet Tryd.prog [("reveille/crystal.table", Rows.laid_reveille_crystal_table)] W) : Tb W := by
  rw [tab_eq] at h
  have t1 := Lib.tabIs_of_head gtab (by kernel_rfl) Tryd.underlying121 Tryd.underlying2 (by kernel_rfl) (by kernel_rfl) h
  intro j v hv
  have hj : j < tab.length := by
    have := (List.getElem?_eq_some_iff.1 hv).1
    simpa [tabV] using this
  have hc := t1.cell gtab j hj
  rw [Nat.zero_add, hc, ← hv]
  unfold tabV
  rw [List.getElem?_map, List.getElem?_eq_getElem hj, List.getD_eq_getElem?_getD, List.getElem?_eq_getElem hj]
  rfl
theorem tab_new (w : World) : ∀ i : Nat, i < 32 → (w.alloc (.cells tabV.toArray 121)).cell? ⟨w.heap.size, i, none⟩ = some (.int .i64 (ent i)) := fun i h => by
  rw [World.cell?_alloc_at _ _ _ _ rfl]
  simpa using tab_at i h
set_option maxRecDepth 100000 in
set_option maxHeartbeats 8000000 in
theorem fn_any (w : World) (h : Tb w) : Calls Tryd.prog 65 #[] w (TabPost 32 tabV 121 w) := by
  have HT := Lib.hid (table_any w h)
  clear h
  go_enter Tryd.func65, Tryd.ntmps65
  go_wp2_with fail
  refine HT.out.mono ?_
  rintro e w1 ⟨rfl, hb⟩
  have HB := Lib.hid hb
  clear hb HT
  go_wp2_with (first | refine wpList_store_new rfl _ _ _ rfl _ tabV.toArray rfl rfl (by kernel_rfl) (by kernel_rfl) (by kernel_rfl) ?_)
  go_ret
  exact ⟨w1.heap.size, rfl, HB.out.size, heap_alloc_last w1 _, bal HB.out rfl _⟩
end Ct
namespace Vt
def tab : List Int := [800000, 2312500, 3325000, 4337500, 5350000, 6362500, 7375000, 8387500, 9400000, 10412500, 11425000, 12437500, 13450000, 14462500, 15475000, 16487500, 17500000, 18512500, 19525000, 20537500, 21550000, 22562500, 23575000, 25000000]
def tabV : List Value := tab.map (.int .i64)
def ent (i : Int) : Int := tab.getD i.toNat 0
/-- The array as it lies in memory. -/
def Tb (w : World) : Prop := w.rangeAt 1 0 tabV
theorem tab_at (i : Nat) (h : i < 24) : tabV[i]? = some (.int .i64 (ent i)) := by
  unfold tabV ent
  rw [List.getElem?_map, List.getElem?_eq_getElem (show i < tab.length from h), List.getD_eq_getElem?_getD, Int.toNat_natCast, List.getElem?_eq_getElem (show i < tab.length from h)]
  rfl
theorem Tb.at {w : World} (h : Tb w) {i : Int} (h0 : 0 ≤ i) (h1 : i < 24) : w.cell? ⟨1, i.toNat, none⟩ = some (.int .i64 (ent i)) := by
  have := h i.toNat _ (tab_at i.toNat (by omega))
  rw [Nat.zero_add, show ((i.toNat : Nat) : Int) = i by omega] at this
  exact this
theorem Tb.below {w w' : World} (h : Tb w) (hb : Below w.heap.size w w') : Tb w' := fun j v hv => by
  have h1 := h j v hv
  rw [hb.cell (World.block_lt_of_cell? w _ h1)]
  exact h1
theorem Tb.alloc {w : World} (h : Tb w) (o : Obj) : Tb (w.alloc o) := World.rangeAt_alloc h o
set_option maxRecDepth 100000 in
set_option maxHeartbeats 8000000 in
theorem table_any (w : World) (h : Tb w) : Calls Tryd.prog 68 #[] w (fun e w' => e = .returned (.agg tabV.toArray) ∧ Below w.heap.size w w') := by
  have H := Lib.hid h
  clear h
  go_enter Tryd.func68, Tryd.ntmps68
  go_wp2_with (first | refine wpList_load_row' rfl _ _ rfl 1 rfl tabV (.array 24 2) (H.out.alloc _) (by kernel_rfl) rfl (by kernel_rfl) ?_ | refine wpList_store_new rfl _ _ _ rfl _ tabV.toArray rfl rfl (by kernel_rfl) (by kernel_rfl) (by kernel_rfl) ?_)
  refine bodyPost_ret (results_cell_row rfl _ _ w.heap.size 139 tabV.toArray (0, 0) (.array 24 2) rfl (heap_alloc_last w _) (by kernel_rfl) rfl (by kernel_rfl)) rfl ?_
  exact ⟨rfl, grows' _ _⟩
theorem gtab : Tryd.prog.globalNamed "reveille/supply.table" = some 1 := by kernel_rfl
theorem tab_eq : (Rows.laid_reveille_supply_table : DataW Unit) = Lib.tabData .i64 tab := by kernel_rfl
theorem tb_of {W : World} (h : laidMet Tryd.prog [("reveille/supply.table", Rows.laid_reveille_supply_table)] W) : Tb W := by
  rw [tab_eq] at h
  have t1 := Lib.tabIs_of_head gtab (by kernel_rfl) Tryd.underlying139 Tryd.underlying2 (by kernel_rfl) (by kernel_rfl) h
  intro j v hv
  have hj : j < tab.length := by
    have := (List.getElem?_eq_some_iff.1 hv).1
    simpa [tabV] using this
  have hc := t1.cell gtab j hj
  rw [Nat.zero_add, hc, ← hv]
  unfold tabV
  rw [List.getElem?_map, List.getElem?_eq_getElem hj, List.getD_eq_getElem?_getD, List.getElem?_eq_getElem hj]
  rfl
theorem tab_new (w : World) : ∀ i : Nat, i < 24 → (w.alloc (.cells tabV.toArray 139)).cell? ⟨w.heap.size, i, none⟩ = some (.int .i64 (ent i)) := fun i h => by
  rw [World.cell?_alloc_at _ _ _ _ rfl]
  simpa using tab_at i h
set_option maxRecDepth 100000 in
set_option maxHeartbeats 8000000 in
theorem fn_any (w : World) (h : Tb w) : Calls Tryd.prog 67 #[] w (TabPost 24 tabV 139 w) := by
  have HT := Lib.hid (table_any w h)
  clear h
  go_enter Tryd.func67, Tryd.ntmps67
  go_wp2_with fail
  refine HT.out.mono ?_
  rintro e w1 ⟨rfl, hb⟩
  have HB := Lib.hid hb
  clear hb HT
  go_wp2_with (first | refine wpList_store_new rfl _ _ _ rfl _ tabV.toArray rfl rfl (by kernel_rfl) (by kernel_rfl) (by kernel_rfl) ?_)
  go_ret
  exact ⟨w1.heap.size, rfl, HB.out.size, heap_alloc_last w1 _, bal HB.out rfl _⟩
end Vt
namespace Bt
def tab : List Int := [271672320, 279750992, 284866528, 289982064, 295097600, 300213136, 305328672, 310444208, 315559744, 320675280, 325790816, 330906352, 336021888, 341137424, 346252960, 351368496, 356484032, 361599568, 366715104, 411830640]
def tabV : List Value := tab.map (.int .i64)
def ent (i : Int) : Int := tab.getD i.toNat 0
/-- The array as it lies in memory. -/
def Tb (w : World) : Prop := w.rangeAt 2 0 tabV
theorem tab_at (i : Nat) (h : i < 20) : tabV[i]? = some (.int .i64 (ent i)) := by
  unfold tabV ent
  rw [List.getElem?_map, List.getElem?_eq_getElem (show i < tab.length from h), List.getD_eq_getElem?_getD, Int.toNat_natCast, List.getElem?_eq_getElem (show i < tab.length from h)]
  rfl
theorem Tb.at {w : World} (h : Tb w) {i : Int} (h0 : 0 ≤ i) (h1 : i < 20) : w.cell? ⟨2, i.toNat, none⟩ = some (.int .i64 (ent i)) := by
  have := h i.toNat _ (tab_at i.toNat (by omega))
  rw [Nat.zero_add, show ((i.toNat : Nat) : Int) = i by omega] at this
  exact this
theorem Tb.below {w w' : World} (h : Tb w) (hb : Below w.heap.size w w') : Tb w' := fun j v hv => by
  have h1 := h j v hv
  rw [hb.cell (World.block_lt_of_cell? w _ h1)]
  exact h1
theorem Tb.alloc {w : World} (h : Tb w) (o : Obj) : Tb (w.alloc o) := World.rangeAt_alloc h o
set_option maxRecDepth 100000 in
set_option maxHeartbeats 8000000 in
theorem table_any (w : World) (h : Tb w) : Calls Tryd.prog 70 #[] w (fun e w' => e = .returned (.agg tabV.toArray) ∧ Below w.heap.size w w') := by
  have H := Lib.hid h
  clear h
  go_enter Tryd.func70, Tryd.ntmps70
  go_wp2_with (first | refine wpList_load_row' rfl _ _ rfl 2 rfl tabV (.array 20 2) (H.out.alloc _) (by kernel_rfl) rfl (by kernel_rfl) ?_ | refine wpList_store_new rfl _ _ _ rfl _ tabV.toArray rfl rfl (by kernel_rfl) (by kernel_rfl) (by kernel_rfl) ?_)
  refine bodyPost_ret (results_cell_row rfl _ _ w.heap.size 141 tabV.toArray (0, 0) (.array 20 2) rfl (heap_alloc_last w _) (by kernel_rfl) rfl (by kernel_rfl)) rfl ?_
  exact ⟨rfl, grows' _ _⟩
theorem gtab : Tryd.prog.globalNamed "reveille/bus.table" = some 2 := by kernel_rfl
theorem tab_eq : (Rows.laid_reveille_bus_table : DataW Unit) = Lib.tabData .i64 tab := by kernel_rfl
theorem tb_of {W : World} (h : laidMet Tryd.prog [("reveille/bus.table", Rows.laid_reveille_bus_table)] W) : Tb W := by
  rw [tab_eq] at h
  have t1 := Lib.tabIs_of_head gtab (by kernel_rfl) Tryd.underlying141 Tryd.underlying2 (by kernel_rfl) (by kernel_rfl) h
  intro j v hv
  have hj : j < tab.length := by
    have := (List.getElem?_eq_some_iff.1 hv).1
    simpa [tabV] using this
  have hc := t1.cell gtab j hj
  rw [Nat.zero_add, hc, ← hv]
  unfold tabV
  rw [List.getElem?_map, List.getElem?_eq_getElem hj, List.getD_eq_getElem?_getD, List.getElem?_eq_getElem hj]
  rfl
theorem tab_new (w : World) : ∀ i : Nat, i < 20 → (w.alloc (.cells tabV.toArray 141)).cell? ⟨w.heap.size, i, none⟩ = some (.int .i64 (ent i)) := fun i h => by
  rw [World.cell?_alloc_at _ _ _ _ rfl]
  simpa using tab_at i h
set_option maxRecDepth 100000 in
set_option maxHeartbeats 8000000 in
theorem fn_any (w : World) (h : Tb w) : Calls Tryd.prog 69 #[] w (TabPost 20 tabV 141 w) := by
  have HT := Lib.hid (table_any w h)
  clear h
  go_enter Tryd.func69, Tryd.ntmps69
  go_wp2_with fail
  refine HT.out.mono ?_
  rintro e w1 ⟨rfl, hb⟩
  have HB := Lib.hid hb
  clear hb HT
  go_wp2_with (first | refine wpList_store_new rfl _ _ _ rfl _ tabV.toArray rfl rfl (by kernel_rfl) (by kernel_rfl) (by kernel_rfl) ?_)
  go_ret
  exact ⟨w1.heap.size, rfl, HB.out.size, heap_alloc_last w1 _, bal HB.out rfl _⟩
end Bt
namespace St
def tab : List Int := [625000, 2122500, 3145000, 4167500, 5190000, 6212500, 7235000, 8257500, 9280000, 10302500, 11325000, 12347500, 13370000, 14392500, 15415000, 16937500]
def tabV : List Value := tab.map (.int .i64)
def ent (i : Int) : Int := tab.getD i.toNat 0
/-- The array as it lies in memory. -/
def Tb (w : World) : Prop := w.rangeAt 3 0 tabV
theorem tab_at (i : Nat) (h : i < 16) : tabV[i]? = some (.int .i64 (ent i)) := by
  unfold tabV ent
  rw [List.getElem?_map, List.getElem?_eq_getElem (show i < tab.length from h), List.getD_eq_getElem?_getD, Int.toNat_natCast, List.getElem?_eq_getElem (show i < tab.length from h)]
  rfl
theorem Tb.at {w : World} (h : Tb w) {i : Int} (h0 : 0 ≤ i) (h1 : i < 16) : w.cell? ⟨3, i.toNat, none⟩ = some (.int .i64 (ent i)) := by
  have := h i.toNat _ (tab_at i.toNat (by omega))
  rw [Nat.zero_add, show ((i.toNat : Nat) : Int) = i by omega] at this
  exact this
theorem Tb.below {w w' : World} (h : Tb w) (hb : Below w.heap.size w w') : Tb w' := fun j v hv => by
  have h1 := h j v hv
  rw [hb.cell (World.block_lt_of_cell? w _ h1)]
  exact h1
theorem Tb.alloc {w : World} (h : Tb w) (o : Obj) : Tb (w.alloc o) := World.rangeAt_alloc h o
set_option maxRecDepth 100000 in
set_option maxHeartbeats 8000000 in
theorem table_any (w : World) (h : Tb w) : Calls Tryd.prog 72 #[] w (fun e w' => e = .returned (.agg tabV.toArray) ∧ Below w.heap.size w w') := by
  have H := Lib.hid h
  clear h
  go_enter Tryd.func72, Tryd.ntmps72
  go_wp2_with (first | refine wpList_load_row' rfl _ _ rfl 3 rfl tabV (.array 16 2) (H.out.alloc _) (by kernel_rfl) rfl (by kernel_rfl) ?_ | refine wpList_store_new rfl _ _ _ rfl _ tabV.toArray rfl rfl (by kernel_rfl) (by kernel_rfl) (by kernel_rfl) ?_)
  refine bodyPost_ret (results_cell_row rfl _ _ w.heap.size 143 tabV.toArray (0, 0) (.array 16 2) rfl (heap_alloc_last w _) (by kernel_rfl) rfl (by kernel_rfl)) rfl ?_
  exact ⟨rfl, grows' _ _⟩
theorem gtab : Tryd.prog.globalNamed "reveille/sensor.table" = some 3 := by kernel_rfl
theorem tab_eq : (Rows.laid_reveille_sensor_table : DataW Unit) = Lib.tabData .i64 tab := by kernel_rfl
theorem tb_of {W : World} (h : laidMet Tryd.prog [("reveille/sensor.table", Rows.laid_reveille_sensor_table)] W) : Tb W := by
  rw [tab_eq] at h
  have t1 := Lib.tabIs_of_head gtab (by kernel_rfl) Tryd.underlying143 Tryd.underlying2 (by kernel_rfl) (by kernel_rfl) h
  intro j v hv
  have hj : j < tab.length := by
    have := (List.getElem?_eq_some_iff.1 hv).1
    simpa [tabV] using this
  have hc := t1.cell gtab j hj
  rw [Nat.zero_add, hc, ← hv]
  unfold tabV
  rw [List.getElem?_map, List.getElem?_eq_getElem hj, List.getD_eq_getElem?_getD, List.getElem?_eq_getElem hj]
  rfl
theorem tab_new (w : World) : ∀ i : Nat, i < 16 → (w.alloc (.cells tabV.toArray 143)).cell? ⟨w.heap.size, i, none⟩ = some (.int .i64 (ent i)) := fun i h => by
  rw [World.cell?_alloc_at _ _ _ _ rfl]
  simpa using tab_at i h
set_option maxRecDepth 100000 in
set_option maxHeartbeats 8000000 in
theorem fn_any (w : World) (h : Tb w) : Calls Tryd.prog 71 #[] w (TabPost 16 tabV 143 w) := by
  have HT := Lib.hid (table_any w h)
  clear h
  go_enter Tryd.func71, Tryd.ntmps71
  go_wp2_with fail
  refine HT.out.mono ?_
  rintro e w1 ⟨rfl, hb⟩
  have HB := Lib.hid hb
  clear hb HT
  go_wp2_with (first | refine wpList_store_new rfl _ _ _ rfl _ tabV.toArray rfl rfl (by kernel_rfl) (by kernel_rfl) (by kernel_rfl) ?_)
  go_ret
  exact ⟨w1.heap.size, rfl, HB.out.size, heap_alloc_last w1 _, bal HB.out rfl _⟩
end St
namespace Rt
def tab : List Int := [432920000, 444020992, 451206528, 458392064, 465577600, 472763136, 479948672, 487134208, 494319744, 501505280, 508690816, 515876352, 523061888, 530247424, 537432960, 545618496, 518134032, 526269568, 533455104, 580610000]
def tabV : List Value := tab.map (.int .i64)
def ent (i : Int) : Int := tab.getD i.toNat 0
/-- The array as it lies in memory. -/
def Tb (w : World) : Prop := w.rangeAt 4 0 tabV
theorem tab_at (i : Nat) (h : i < 20) : tabV[i]? = some (.int .i64 (ent i)) := by
  unfold tabV ent
  rw [List.getElem?_map, List.getElem?_eq_getElem (show i < tab.length from h), List.getD_eq_getElem?_getD, Int.toNat_natCast, List.getElem?_eq_getElem (show i < tab.length from h)]
  rfl
theorem Tb.at {w : World} (h : Tb w) {i : Int} (h0 : 0 ≤ i) (h1 : i < 20) : w.cell? ⟨4, i.toNat, none⟩ = some (.int .i64 (ent i)) := by
  have := h i.toNat _ (tab_at i.toNat (by omega))
  rw [Nat.zero_add, show ((i.toNat : Nat) : Int) = i by omega] at this
  exact this
theorem Tb.below {w w' : World} (h : Tb w) (hb : Below w.heap.size w w') : Tb w' := fun j v hv => by
  have h1 := h j v hv
  rw [hb.cell (World.block_lt_of_cell? w _ h1)]
  exact h1
theorem Tb.alloc {w : World} (h : Tb w) (o : Obj) : Tb (w.alloc o) := World.rangeAt_alloc h o
set_option maxRecDepth 100000 in
set_option maxHeartbeats 8000000 in
theorem table_any (w : World) (h : Tb w) : Calls Tryd.prog 74 #[] w (fun e w' => e = .returned (.agg tabV.toArray) ∧ Below w.heap.size w w') := by
  have H := Lib.hid h
  clear h
  go_enter Tryd.func74, Tryd.ntmps74
  go_wp2_with (first | refine wpList_load_row' rfl _ _ rfl 4 rfl tabV (.array 20 2) (H.out.alloc _) (by kernel_rfl) rfl (by kernel_rfl) ?_ | refine wpList_store_new rfl _ _ _ rfl _ tabV.toArray rfl rfl (by kernel_rfl) (by kernel_rfl) (by kernel_rfl) ?_)
  refine bodyPost_ret (results_cell_row rfl _ _ w.heap.size 141 tabV.toArray (0, 0) (.array 20 2) rfl (heap_alloc_last w _) (by kernel_rfl) rfl (by kernel_rfl)) rfl ?_
  exact ⟨rfl, grows' _ _⟩
theorem gtab : Tryd.prog.globalNamed "reveille/radio.table" = some 4 := by kernel_rfl
theorem tab_eq : (Rows.laid_reveille_radio_table : DataW Unit) = Lib.tabData .i64 tab := by kernel_rfl
theorem tb_of {W : World} (h : laidMet Tryd.prog [("reveille/radio.table", Rows.laid_reveille_radio_table)] W) : Tb W := by
  rw [tab_eq] at h
  have t1 := Lib.tabIs_of_head gtab (by kernel_rfl) Tryd.underlying141 Tryd.underlying2 (by kernel_rfl) (by kernel_rfl) h
  intro j v hv
  have hj : j < tab.length := by
    have := (List.getElem?_eq_some_iff.1 hv).1
    simpa [tabV] using this
  have hc := t1.cell gtab j hj
  rw [Nat.zero_add, hc, ← hv]
  unfold tabV
  rw [List.getElem?_map, List.getElem?_eq_getElem hj, List.getD_eq_getElem?_getD, List.getElem?_eq_getElem hj]
  rfl
theorem tab_new (w : World) : ∀ i : Nat, i < 20 → (w.alloc (.cells tabV.toArray 141)).cell? ⟨w.heap.size, i, none⟩ = some (.int .i64 (ent i)) := fun i h => by
  rw [World.cell?_alloc_at _ _ _ _ rfl]
  simpa using tab_at i h
set_option maxRecDepth 100000 in
set_option maxHeartbeats 8000000 in
theorem fn_any (w : World) (h : Tb w) : Calls Tryd.prog 73 #[] w (TabPost 20 tabV 141 w) := by
  have HT := Lib.hid (table_any w h)
  clear h
  go_enter Tryd.func73, Tryd.ntmps73
  go_wp2_with fail
  refine HT.out.mono ?_
  rintro e w1 ⟨rfl, hb⟩
  have HB := Lib.hid hb
  clear hb HT
  go_wp2_with (first | refine wpList_store_new rfl _ _ _ rfl _ tabV.toArray rfl rfl (by kernel_rfl) (by kernel_rfl) (by kernel_rfl) ?_)
  go_ret
  exact ⟨w1.heap.size, rfl, HB.out.size, heap_alloc_last w1 _, bal HB.out rfl _⟩
end Rt
/-- The five arrays. -/
structure T5 (w : World) : Prop where
  c : Ct.Tb w
  v : Vt.Tb w
  b : Bt.Tb w
  s : St.Tb w
  r : Rt.Tb w
theorem T5.below {w w' : World} (h : T5 w) (hb : Below w.heap.size w w') : T5 w' := ⟨h.c.below hb, h.v.below hb, h.b.below hb, h.s.below hb, h.r.below hb⟩
theorem t5_of {W : World} (h : laidMet Tryd.prog [("reveille/bus.table", Rows.laid_reveille_bus_table), ("reveille/crystal.table", Rows.laid_reveille_crystal_table), ("reveille/radio.table", Rows.laid_reveille_radio_table), ("reveille/sensor.table", Rows.laid_reveille_sensor_table), ("reveille/supply.table", Rows.laid_reveille_supply_table)] W) : T5 W :=
  ⟨Ct.tb_of (laidMet.filter (fun x => x.1 == "reveille/crystal.table") h), Vt.tb_of (laidMet.filter (fun x => x.1 == "reveille/supply.table") h), Bt.tb_of (laidMet.filter (fun x => x.1 == "reveille/bus.table") h), St.tb_of (laidMet.filter (fun x => x.1 == "reveille/sensor.table") h), Rt.tb_of (laidMet.filter (fun x => x.1 == "reveille/radio.table") h)⟩
end Go.Proofs.YtnnaoneegeenkaaDoor.Rm
