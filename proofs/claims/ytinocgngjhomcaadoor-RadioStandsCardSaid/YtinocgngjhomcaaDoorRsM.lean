/- The arrays of the families ahead (bus and sensor), as their texts lay them. -/
import Derived.Test.YtinocgngjhomcaaDoorRows
import Derived.Test.YtinocgngjhomcaaDoorRaT
import Derived.LaidSub
namespace Go.Proofs.YtinocgngjhomcaaDoor.Ra
open Go.ChangeShapes Go.WideShapes Go.ChangeAt Go.RowKit Own Ro

namespace Bt
def tab : List Int := [271672320, 279750992, 284866528, 289982064, 295097600, 300213136, 305328672, 310444208, 315559744, 320675280, 325790816, 330906352, 336021888, 341137424, 346252960, 351368496, 356484032, 361599568, 366715104, 411830640]
def tabV : List Value := tab.map (.int .i64)
def ent (i : Int) : Int := tab.getD i.toNat 0
/-- The array as it lies in memory. -/
def Tb (w : World) : Prop := w.rangeAt 1 0 tabV
theorem tab_at (i : Nat) (h : i < 20) : tabV[i]? = some (.int .i64 (ent i)) := by
  unfold tabV ent
  rw [List.getElem?_map, List.getElem?_eq_getElem (show i < tab.length from h), List.getD_eq_getElem?_getD, Int.toNat_natCast, List.getElem?_eq_getElem (show i < tab.length from h)]
  rfl
theorem Tb.at {w : World} (h : Tb w) {i : Int} (h0 : 0 ≤ i) (h1 : i < 20) : w.cell? ⟨1, i.toNat, none⟩ = some (.int .i64 (ent i)) := by
  have := h i.toNat _ (tab_at i.toNat (by omega))
  rw [Nat.zero_add, show ((i.toNat : Nat) : Int) = i by omega] at this
  exact this
theorem Tb.below {w w' : World} (h : Tb w) (hb : Below w.heap.size w w') : Tb w' := fun j v hv => by
  have h1 := h j v hv
  rw [hb.cell (World.block_lt_of_cell? w _ h1)]
  exact h1
theorem Tb.alloc {w : World} (h : Tb w) (o : Obj) : Tb (w.alloc o) := World.rangeAt_alloc h o
set_option maxRecDepth 100000 in
set_option maxHeartbeats 8000000 in
theorem table_any (w : World) (h : Tb w) : Calls Tryd.prog 28 #[] w (fun e w' => e = .returned (.agg tabV.toArray) ∧ Below w.heap.size w w') := by
  have H := Lib.hid h
  clear h
  go_enter Tryd.func28, Tryd.ntmps28
  go_wp2_with (first | refine wpList_load_row' rfl _ _ rfl 1 rfl tabV (.array 20 2) (H.out.alloc _) (by kernel_rfl) rfl (by kernel_rfl) ?_ | refine wpList_store_new rfl _ _ _ rfl _ tabV.toArray rfl rfl (by kernel_rfl) (by kernel_rfl) (by kernel_rfl) ?_)
  refine bodyPost_ret (results_cell_row rfl _ _ w.heap.size 51 tabV.toArray (0, 0) (.array 20 2) rfl (heap_alloc_last w _) (by kernel_rfl) rfl (by kernel_rfl)) rfl ?_
  exact ⟨rfl, grows' _ _⟩
theorem gtab : Tryd.prog.globalNamed "reveille/bus.table" = some 1 := by kernel_rfl
theorem tab_eq : (Rows.laid_reveille_bus_table : DataW Unit) = Lib.tabData .i64 tab := by kernel_rfl
theorem tb_of {W : World} (h : laidMet Tryd.prog [("reveille/bus.table", Rows.laid_reveille_bus_table)] W) : Tb W := by
  rw [tab_eq] at h
  have t1 := Lib.tabIs_of_head gtab (by kernel_rfl) Tryd.underlying51 Tryd.underlying2 (by kernel_rfl) (by kernel_rfl) h
  intro j v hv
  have hj : j < tab.length := by
    have := (List.getElem?_eq_some_iff.1 hv).1
    simpa [tabV] using this
  have hc := t1.cell gtab j hj
  rw [Nat.zero_add, hc, ← hv]
  unfold tabV
  rw [List.getElem?_map, List.getElem?_eq_getElem hj, List.getD_eq_getElem?_getD, List.getElem?_eq_getElem hj]
  rfl
theorem tab_new (w : World) : ∀ i : Nat, i < 20 → (w.alloc (.cells tabV.toArray 51)).cell? ⟨w.heap.size, i, none⟩ = some (.int .i64 (ent i)) := fun i h => by
  rw [World.cell?_alloc_at _ _ _ _ rfl]
  simpa using tab_at i h
end Bt
namespace Sn
def tab : List Int := [625000, 2122500, 3145000, 4167500, 5190000, 6212500, 7235000, 8257500, 9280000, 10302500, 11325000, 12347500, 13370000, 14392500, 15415000, 16937500]
def tabV : List Value := tab.map (.int .i64)
def ent (i : Int) : Int := tab.getD i.toNat 0
/-- The array as it lies in memory. -/
def Tb (w : World) : Prop := w.rangeAt 2 0 tabV
theorem tab_at (i : Nat) (h : i < 16) : tabV[i]? = some (.int .i64 (ent i)) := by
  unfold tabV ent
  rw [List.getElem?_map, List.getElem?_eq_getElem (show i < tab.length from h), List.getD_eq_getElem?_getD, Int.toNat_natCast, List.getElem?_eq_getElem (show i < tab.length from h)]
  rfl
theorem Tb.at {w : World} (h : Tb w) {i : Int} (h0 : 0 ≤ i) (h1 : i < 16) : w.cell? ⟨2, i.toNat, none⟩ = some (.int .i64 (ent i)) := by
  have := h i.toNat _ (tab_at i.toNat (by omega))
  rw [Nat.zero_add, show ((i.toNat : Nat) : Int) = i by omega] at this
  exact this
theorem Tb.below {w w' : World} (h : Tb w) (hb : Below w.heap.size w w') : Tb w' := fun j v hv => by
  have h1 := h j v hv
  rw [hb.cell (World.block_lt_of_cell? w _ h1)]
  exact h1
theorem Tb.alloc {w : World} (h : Tb w) (o : Obj) : Tb (w.alloc o) := World.rangeAt_alloc h o
set_option maxRecDepth 100000 in
set_option maxHeartbeats 8000000 in
theorem table_any (w : World) (h : Tb w) : Calls Tryd.prog 29 #[] w (fun e w' => e = .returned (.agg tabV.toArray) ∧ Below w.heap.size w w') := by
  have H := Lib.hid h
  clear h
  go_enter Tryd.func29, Tryd.ntmps29
  go_wp2_with (first | refine wpList_load_row' rfl _ _ rfl 2 rfl tabV (.array 16 2) (H.out.alloc _) (by kernel_rfl) rfl (by kernel_rfl) ?_ | refine wpList_store_new rfl _ _ _ rfl _ tabV.toArray rfl rfl (by kernel_rfl) (by kernel_rfl) (by kernel_rfl) ?_)
  refine bodyPost_ret (results_cell_row rfl _ _ w.heap.size 53 tabV.toArray (0, 0) (.array 16 2) rfl (heap_alloc_last w _) (by kernel_rfl) rfl (by kernel_rfl)) rfl ?_
  exact ⟨rfl, grows' _ _⟩
theorem gtab : Tryd.prog.globalNamed "reveille/sensor.table" = some 2 := by kernel_rfl
theorem tab_eq : (Rows.laid_reveille_sensor_table : DataW Unit) = Lib.tabData .i64 tab := by kernel_rfl
theorem tb_of {W : World} (h : laidMet Tryd.prog [("reveille/sensor.table", Rows.laid_reveille_sensor_table)] W) : Tb W := by
  rw [tab_eq] at h
  have t1 := Lib.tabIs_of_head gtab (by kernel_rfl) Tryd.underlying53 Tryd.underlying2 (by kernel_rfl) (by kernel_rfl) h
  intro j v hv
  have hj : j < tab.length := by
    have := (List.getElem?_eq_some_iff.1 hv).1
    simpa [tabV] using this
  have hc := t1.cell gtab j hj
  rw [Nat.zero_add, hc, ← hv]
  unfold tabV
  rw [List.getElem?_map, List.getElem?_eq_getElem hj, List.getD_eq_getElem?_getD, List.getElem?_eq_getElem hj]
  rfl
theorem tab_new (w : World) : ∀ i : Nat, i < 16 → (w.alloc (.cells tabV.toArray 53)).cell? ⟨w.heap.size, i, none⟩ = some (.int .i64 (ent i)) := fun i h => by
  rw [World.cell?_alloc_at _ _ _ _ rfl]
  simpa using tab_at i h
end Sn
/-- The three arrays. -/
structure Tb3 (w : World) : Prop where
  b : Bt.Tb w
  s : Sn.Tb w
  r : Tb w
theorem Tb3.below {w w' : World} (h : Tb3 w) (hb : Below w.heap.size w w') : Tb3 w' := ⟨h.b.below hb, h.s.below hb, h.r.below hb⟩
theorem Tb3.alloc {w : World} (h : Tb3 w) (o : Obj) : Tb3 (w.alloc o) := ⟨h.b.alloc o, h.s.alloc o, h.r.alloc o⟩
theorem tb3_of {W : World} (h : laidMet Tryd.prog [("reveille/bus.table", Rows.laid_reveille_bus_table), ("reveille/radio.table", Rows.laid_reveille_radio_table), ("reveille/sensor.table", Rows.laid_reveille_sensor_table)] W) : Tb3 W :=
  ⟨Bt.tb_of (laidMet.filter (fun x => x.1 == "reveille/bus.table") h), Sn.tb_of (laidMet.filter (fun x => x.1 == "reveille/sensor.table") h), tb_of (laidMet.filter (fun x => x.1 == "reveille/radio.table") h)⟩
theorem tab_new (w : World) : ∀ i : Nat, i < 20 → (w.alloc (.cells tabV.toArray 51)).cell? ⟨w.heap.size, i, none⟩ = some (.int .i64 (ent i)) := fun i h => by
  rw [World.cell?_alloc_at _ _ _ _ rfl]
  simpa using tab_at i h
theorem r_ent : ∀ i < 20, ent (i : Nat) = 160000000 + 25000 * ((i : Nat) : Int) + Bt.ent (i : Nat) + 2 * Sn.ent ((i % 16 : Nat) : Int) - (if i = 0 then 2320 else 0) - (if i = 19 then 30640 else 0) := by decide
theorem r_lt : ∀ i < 16, 0 < i → ent ((i - 1 : Nat) : Int) < ent (i : Nat) := by decide
end Go.Proofs.YtinocgngjhomcaaDoor.Ra
