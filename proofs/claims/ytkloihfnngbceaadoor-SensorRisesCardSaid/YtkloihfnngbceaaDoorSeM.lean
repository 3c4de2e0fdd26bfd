/- The arrays of the families ahead, as their texts lay them. -/
import Derived.Test.YtkloihfnngbceaaDoorRows
import Derived.Test.YtkloihfnngbceaaDoorSeT
import Derived.Test.YtkloihfnngbceaaDoorSeC
import Derived.LaidSub
namespace Go.Proofs.YtkloihfnngbceaaDoor.Se
open Go.ChangeShapes Go.WideShapes Go.ChangeAt Go.RowKit Own Ro

namespace C
def tab : List Int := [32768, 2000000, 3000000, 4000000, 5000000, 6000000, 7000000, 8000000, 9000000, 10000000, 11000000, 12000000, 13000000, 14000000, 15000000, 16000000, 17000000, 18000000, 19000000, 20000000, 21000000, 22000000, 23000000, 24000000, 25000000, 26000000, 27000000, 28000000, 29000000, 30000000, 31000000, 100000000]
def tabV : List Value := tab.map (.int .i64)
def ent (i : Int) : Int := if i = 0 then 32768 else if i = 31 then 100000000 else 1000000 + 1000000 * i
/-- The array as it lies in memory. -/
def Tb (w : World) : Prop := w.rangeAt 2 0 tabV
theorem tab_at (i : Nat) (h : i < 32) : tabV[i]? = some (.int .i64 (ent i)) := by
  rcases i with _ | i
  · rfl
  · iterate 31 (rcases i with _ | i; · rfl)
    omega
theorem Tb.at {w : World} (h : Tb w) {i : Int} (h0 : 0 ≤ i) (h1 : i < 32) : w.cell? ⟨2, i.toNat, none⟩ = some (.int .i64 (ent i)) := by
  have := h i.toNat _ (tab_at i.toNat (by omega))
  rw [Nat.zero_add, show ((i.toNat : Nat) : Int) = i by omega] at this
  exact this
theorem Tb.below {w w' : World} (h : Tb w) (hb : Below w.heap.size w w') : Tb w' := fun j v hv => by
  have h1 := h j v hv
  rw [hb.cell (World.block_lt_of_cell? w _ h1)]
  exact h1
theorem Tb.alloc {w : World} (h : Tb w) (o : Obj) : Tb (w.alloc o) := World.rangeAt_alloc h o
set_option maxRecDepth 100000 in
set_option maxHeartbeats 8000000 in
theorem table_any (w : World) (h : Tb w) : Calls Tryd.prog 24 #[] w (fun e w' => e = .returned (.agg tabV.toArray) ∧ Below w.heap.size w w') := by
  have H := Lib.hid h
  clear h
  go_enter Tryd.func24, Tryd.ntmps24
  go_wp2_with (first | refine wpList_load_row' rfl _ _ rfl 2 rfl tabV (.array 32 2) (H.out.alloc _) (by kernel_rfl) rfl (by kernel_rfl) ?_ | refine wpList_store_new rfl _ _ _ rfl _ tabV.toArray rfl rfl (by kernel_rfl) (by kernel_rfl) (by kernel_rfl) ?_)
  refine bodyPost_ret (results_cell_row rfl _ _ w.heap.size 47 tabV.toArray (0, 0) (.array 32 2) rfl (heap_alloc_last w _) (by kernel_rfl) rfl (by kernel_rfl)) rfl ?_
  exact ⟨rfl, grows' _ _⟩
theorem gtab : Tryd.prog.globalNamed "reveille/crystal.table" = some 2 := by kernel_rfl
theorem tab_eq : (Rows.laid_reveille_crystal_table : DataW Unit) = Lib.tabData .i64 tab := by kernel_rfl
theorem tb_of {W : World} (h : laidMet Tryd.prog [("reveille/crystal.table", Rows.laid_reveille_crystal_table)] W) : Tb W := by
  rw [tab_eq] at h
  have t1 := Lib.tabIs_of_head gtab (by kernel_rfl) Tryd.underlying47 Tryd.underlying2 (by kernel_rfl) (by kernel_rfl) h
  intro j v hv
  have hj : j < tab.length := by
    have := (List.getElem?_eq_some_iff.1 hv).1
    simpa [tabV] using this
  have hc := t1.cell gtab j hj
  rw [Nat.zero_add, hc, ← hv]
  unfold tabV
  rw [List.getElem?_map, List.getElem?_eq_getElem hj, List.getD_eq_getElem?_getD, List.getElem?_eq_getElem hj]
  rfl
theorem tab_new (w : World) : ∀ i : Nat, i < 32 → (w.alloc (.cells tabV.toArray 47)).cell? ⟨w.heap.size, i, none⟩ = some (.int .i64 (ent i)) := fun i h => by
  rw [World.cell?_alloc_at _ _ _ _ rfl]
  simpa using tab_at i h
end C
namespace V
def tab : List Int := [800000, 2312500, 3325000, 4337500, 5350000, 6362500, 7375000, 8387500, 9400000, 10412500, 11425000, 12437500, 13450000, 14462500, 15475000, 16487500, 17500000, 18512500, 19525000, 20537500, 21550000, 22562500, 23575000, 25000000]
def tabV : List Value := tab.map (.int .i64)
def ent (i : Int) : Int := if i = 0 then 800000 else if i = 23 then 25000000 else 1300000 + 1012500 * i
/-- The array as it lies in memory. -/
def Tb (w : World) : Prop := w.rangeAt 3 0 tabV
theorem tab_at (i : Nat) (h : i < 24) : tabV[i]? = some (.int .i64 (ent i)) := by
  rcases i with _ | i
  · rfl
  · iterate 23 (rcases i with _ | i; · rfl)
    omega
theorem Tb.at {w : World} (h : Tb w) {i : Int} (h0 : 0 ≤ i) (h1 : i < 24) : w.cell? ⟨3, i.toNat, none⟩ = some (.int .i64 (ent i)) := by
  have := h i.toNat _ (tab_at i.toNat (by omega))
  rw [Nat.zero_add, show ((i.toNat : Nat) : Int) = i by omega] at this
  exact this
theorem Tb.below {w w' : World} (h : Tb w) (hb : Below w.heap.size w w') : Tb w' := fun j v hv => by
  have h1 := h j v hv
  rw [hb.cell (World.block_lt_of_cell? w _ h1)]
  exact h1
theorem Tb.alloc {w : World} (h : Tb w) (o : Obj) : Tb (w.alloc o) := World.rangeAt_alloc h o
set_option maxRecDepth 100000 in
set_option maxHeartbeats 8000000 in
theorem table_any (w : World) (h : Tb w) : Calls Tryd.prog 25 #[] w (fun e w' => e = .returned (.agg tabV.toArray) ∧ Below w.heap.size w w') := by
  have H := Lib.hid h
  clear h
  go_enter Tryd.func25, Tryd.ntmps25
  go_wp2_with (first | refine wpList_load_row' rfl _ _ rfl 3 rfl tabV (.array 24 2) (H.out.alloc _) (by kernel_rfl) rfl (by kernel_rfl) ?_ | refine wpList_store_new rfl _ _ _ rfl _ tabV.toArray rfl rfl (by kernel_rfl) (by kernel_rfl) (by kernel_rfl) ?_)
  refine bodyPost_ret (results_cell_row rfl _ _ w.heap.size 49 tabV.toArray (0, 0) (.array 24 2) rfl (heap_alloc_last w _) (by kernel_rfl) rfl (by kernel_rfl)) rfl ?_
  exact ⟨rfl, grows' _ _⟩
theorem gtab : Tryd.prog.globalNamed "reveille/supply.table" = some 3 := by kernel_rfl
theorem tab_eq : (Rows.laid_reveille_supply_table : DataW Unit) = Lib.tabData .i64 tab := by kernel_rfl
theorem tb_of {W : World} (h : laidMet Tryd.prog [("reveille/supply.table", Rows.laid_reveille_supply_table)] W) : Tb W := by
  rw [tab_eq] at h
  have t1 := Lib.tabIs_of_head gtab (by kernel_rfl) Tryd.underlying49 Tryd.underlying2 (by kernel_rfl) (by kernel_rfl) h
  intro j v hv
  have hj : j < tab.length := by
    have := (List.getElem?_eq_some_iff.1 hv).1
    simpa [tabV] using this
  have hc := t1.cell gtab j hj
  rw [Nat.zero_add, hc, ← hv]
  unfold tabV
  rw [List.getElem?_map, List.getElem?_eq_getElem hj, List.getD_eq_getElem?_getD, List.getElem?_eq_getElem hj]
  rfl
theorem tab_new (w : World) : ∀ i : Nat, i < 24 → (w.alloc (.cells tabV.toArray 49)).cell? ⟨w.heap.size, i, none⟩ = some (.int .i64 (ent i)) := fun i h => by
  rw [World.cell?_alloc_at _ _ _ _ rfl]
  simpa using tab_at i h
end V
/-- The three arrays. -/
structure Tb3 (w : World) : Prop where
  c : C.Tb w
  v : V.Tb w
  s : Tb w
theorem Tb3.below {w w' : World} (h : Tb3 w) (hb : Below w.heap.size w w') : Tb3 w' := ⟨h.c.below hb, h.v.below hb, h.s.below hb⟩
theorem Tb3.alloc {w : World} (h : Tb3 w) (o : Obj) : Tb3 (w.alloc o) := ⟨h.c.alloc o, h.v.alloc o, h.s.alloc o⟩
theorem tb3_of {W : World} (h : laidMet Tryd.prog [("reveille/crystal.table", Rows.laid_reveille_crystal_table), ("reveille/sensor.table", Rows.laid_reveille_sensor_table), ("reveille/supply.table", Rows.laid_reveille_supply_table)] W) : Tb3 W :=
  ⟨C.tb_of (laidMet.filter (fun x => x.1 == "reveille/crystal.table") h), V.tb_of (laidMet.filter (fun x => x.1 == "reveille/supply.table") h), tb_of (laidMet.filter (fun x => x.1 == "reveille/sensor.table") h)⟩
set_option maxRecDepth 100000 in
set_option maxHeartbeats 8000000 in
theorem awake_any (w : World) (h : Tb w) : Calls Tryd.prog 23 #[] w (fun e w' => e = .returned (.bool true) ∧ Below w.heap.size w w') := by
  have HT := Lib.hid h
  have R0 := micro_ok 0 w h (by omega) (by omega)
  have R1 := milli_any 1373750 w h
  rw [show ent 0 = 625000 from rfl] at R0
  rw [show milV 1373750 = (-35000, true) by rfl] at R1
  clear h
  go_enter Tryd.func23, Tryd.ntmps23
  go_wp2_with fail
  refine R0.mono ?_
  rintro e w1 ⟨rfl, hw⟩
  rw [hw]
  clear hw w1
  go_wp2_with fail
  refine R1.mono ?_
  rintro e w1 ⟨rfl, hb⟩
  have HB := Lib.hid hb
  clear hb
  go_wp2_with fail
  go_ret
  exact ⟨rfl, HB.out⟩
end Go.Proofs.YtkloihfnngbceaaDoor.Se
