/- The cards of a family: the document's and the program's. -/
import Derived.Test.YtnnaoneegeenkaaDoorRvH
import Derived.Test.YtnnaoneegeenkaaDoorRmF
namespace Go.Proofs.YtnnaoneegeenkaaDoor.Kq
open Go.ChangeShapes Go.WideShapes Go.ChangeAt Go.RowKit Own Ro wordsNames Kc
open Ka (i64s i64s_len i64s_at)
open Rm (Fams crystalN supplyN busN sensorN radioN families_any)

def ofJ (nm : List UInt8) (k : Nat) : List Nat := (List.range k).filter fun j => decide ((SL.getD j cd0).fam = nm)
theorem ofJ_yes {nm : List UInt8} {k : Nat} (h : (SL.getD k cd0).fam = nm) : ofJ nm (k + 1) = ofJ nm k ++ [k] := by
  unfold ofJ
  rw [List.range_succ, List.filter_append]
  simp only [List.filter_cons, List.filter_nil, decide_eq_true h, if_true]
theorem ofJ_no {nm : List UInt8} {k : Nat} (h : (SL.getD k cd0).fam ≠ nm) : ofJ nm (k + 1) = ofJ nm k := by
  unfold ofJ
  rw [List.range_succ, List.filter_append]
  simp only [List.filter_cons, List.filter_nil, decide_eq_false h, if_false, List.append_nil, Bool.false_eq_true]
theorem ofJ_le (nm : List UInt8) (k : Nat) : (ofJ nm k).length ≤ k := by
  have h := List.length_filter_le (fun j => decide ((SL.getD j cd0).fam = nm)) (List.range k)
  rw [List.length_range] at h
  exact h
theorem ofJ_lt {nm : List UInt8} {k j : Nat} (h : j ∈ ofJ nm k) : j < k := List.mem_range.1 (List.mem_filter.1 h).1
def ofL (nm : List UInt8) : List Cd := if nm ∈ Fams then pkL SL (ofJ nm 22) else []
theorem pick_rows {w : World} {b n b' c c' : Nat} {A A' : Option Addr} {R : List Sl} {js : List Nat} (ho : w.ownsRow b 30 7 (.slice A n c) n (KC.rows (pkL SL js) (pkR R js))) (hn : n = js.length) (hR : RowsOwn KC w b' A' 22 c' SL R) (hj : ∀ j ∈ js, j < 22) : Ro.RowsIn KC w A n (pkL SL js) (pkR R js) := by
  refine ⟨by simp [pkL, hn], by simp [pkL, pkR], own_cells ho, fun i hi => ?_⟩
  have hi' : i < js.length := by omega
  rw [show KC.z = cd0 from rfl, pkR_at _ _ _ hi', pkL_at _ _ _ hi']
  refine hR.rows.2.2.2 _ (hj _ ?_)
  rw [List.getD_eq_getElem?_getD, List.getElem?_eq_getElem hi']
  exact List.getElem_mem _
theorem look_fams (nm : List UInt8) : lookT (tabsI 5) nm = [] ↔ nm ∉ Fams := by
  rw [tabs5]
  have e1 : Rm.Ct.tab ≠ [] := by decide +kernel
  have e2 : Rm.Vt.tab ≠ [] := by decide +kernel
  have e3 : Rm.Bt.tab ≠ [] := by decide +kernel
  have e4 : Rm.St.tab ≠ [] := by decide +kernel
  have e5 : Rm.Rt.tab ≠ [] := by decide +kernel
  simp only [lookT, Fams, List.mem_cons, List.not_mem_nil, or_false, not_or]
  by_cases h1 : crystalN = nm
  · rw [if_pos h1]; exact ⟨fun h => absurd h e1, fun h => absurd h1.symm h.1⟩
  · rw [if_neg h1]
    by_cases h2 : supplyN = nm
    · rw [if_pos h2]; exact ⟨fun h => absurd h e2, fun h => absurd h2.symm h.2.1⟩
    · rw [if_neg h2]
      by_cases h3 : busN = nm
      · rw [if_pos h3]; exact ⟨fun h => absurd h e3, fun h => absurd h3.symm h.2.2.1⟩
      · rw [if_neg h3]
        by_cases h4 : sensorN = nm
        · rw [if_pos h4]; exact ⟨fun h => absurd h e4, fun h => absurd h4.symm h.2.2.2.1⟩
        · rw [if_neg h4]
          by_cases h5 : radioN = nm
          · rw [if_pos h5]; exact ⟨fun h => absurd h e5, fun h => absurd h5.symm h.2.2.2.2⟩
          · rw [if_neg h5]; exact ⟨fun _ => ⟨fun h => h1 h.symm, fun h => h2 h.symm, fun h => h3 h.symm, fun h => h4 h.symm, fun h => h5 h.symm⟩, fun _ => rfl⟩
def OfPost (nm : List UInt8) (w : World) (e : Ending) (w' : World) : Prop :=
  ∃ A c R, e = .returned (.tuple #[.slice A (ofL nm).length c, .int .i64 (if nm ∈ Fams then 0 else 6)]) ∧ Ro.RowsIn KC w' A (ofL nm).length (ofL nm) R ∧ Below w.heap.size w w'
theorem of_none (nm : List UInt8) (hm : nm ∉ Fams) {w w' : World} (hb : Below w.heap.size w w') : OfPost nm w (.returned (.tuple #[.slice none 0 0, .int .i64 6])) w' := by
  have h : ofL nm = [] := if_neg hm
  refine ⟨none, 0, [], by rw [h, if_neg hm]; rfl, ?_, hb⟩
  rw [h]
  exact ⟨rfl, rfl, ⟨rfl, .inl rfl⟩, fun i hi => absurd hi (Nat.not_lt_zero i)⟩
theorem of_some (nm : List UInt8) (hm : nm ∈ Fams) {w w' : World} {b b' c c' : Nat} {A A' : Option Addr} {R : List Sl} (ho : w'.ownsRow b 30 7 (.slice A (ofJ nm 22).length c) (ofJ nm 22).length (KC.rows (pkL SL (ofJ nm 22)) (pkR R (ofJ nm 22)))) (hR : RowsOwn KC w' b' A' 22 c' SL R) (hb : Below w.heap.size w w') :
    OfPost nm w (.returned (.tuple #[.slice A (ofJ nm 22).length c, .int .i64 0])) w' := by
  have h : ofL nm = pkL SL (ofJ nm 22) := if_pos hm
  have hl : (ofL nm).length = (ofJ nm 22).length := by rw [h]; simp [pkL]
  refine ⟨A, c, pkR R (ofJ nm 22), by rw [hl, if_pos hm], ?_, hb⟩
  rw [hl, h]
  exact pick_rows ho rfl hR (fun j hj => ofJ_lt hj)
end Go.Proofs.YtnnaoneegeenkaaDoor.Kq
