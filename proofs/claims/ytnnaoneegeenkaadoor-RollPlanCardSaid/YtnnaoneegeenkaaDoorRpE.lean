/- The plan in memory, package by package. -/
import Derived.Test.YtnnaoneegeenkaaDoorRpD
import Derived.Test.YtnnaoneegeenkaaDoorRpF
namespace Go.Proofs.YtnnaoneegeenkaaDoor.Rp
open Go.ChangeShapes Go.WideShapes Go.ChangeAt Go.RowKit Own Ro Kc
open Kq (Tx Fm FM rdV rdV_at famRow fm0)

/-- The plan's objects stand behind h blocks. -/
def PlanAt (h : Nat) (W : World) : Prop := h + 38 ≤ W.heap.size ∧ ∀ i, i < 38 → W.heap[h + i]? = (planO h)[i]?
theorem planAt_new (w : World) : PlanAt w.heap.size (allocs w (planO w.heap.size)) := ⟨by rw [allocs_size]; exact Nat.le_refl _, fun i hi => allocs_at _ w i hi⟩
theorem PlanAt.below {h : Nat} {W V : World} (p : PlanAt h W) (hb : Below (h + 38) W V) : PlanAt h V := ⟨Nat.le_trans p.1 hb.size, fun i hi => (hb.block (h + i) (by omega)).trans (p.2 i hi)⟩
theorem PlanAt.below' {h : Nat} {W V : World} (p : PlanAt h W) (hb : Below W.heap.size W V) : PlanAt h V := ⟨Nat.le_trans p.1 hb.size, fun i hi => (hb.block (h + i) (by have := p.1; omega)).trans (p.2 i hi)⟩
theorem PlanAt.cell {h : Nat} {W : World} (p : PlanAt h W) (i : Nat) {cs : Array Value} {T : TypeId} (hi : i < 38) (ho : (planO h)[i]? = some (.cells cs T (0, 0))) (j : Nat) {u : Value} (hu : cs[j]? = some u) : W.cell? ⟨h + i, j, none⟩ = some u := by
  rw [Lib.cell_of_heap ((p.2 i hi).trans ho) j]
  exact hu
theorem PlanAt.cells {h : Nat} {W : World} (p : PlanAt h W) (i : Nat) {cs : Array Value} {T : TypeId} (hi : i < 38) (ho : (planO h)[i]? = some (.cells cs T (0, 0))) (n q : Nat) (hs : cs.size = n * q) : CellsIn W q (some ⟨h + i, 0, none⟩) n cs.toList := by
  refine ⟨by simpa using hs, .inr ⟨_, 0, rfl, ?_, fun j u hu => ?_⟩⟩
  · have := p.1
    omega
  · rw [Nat.zero_add]
    exact p.cell i hi ho j (by simpa using hu)
def impB (k : Nat) : Nat := [0, 4, 11, 21, 28, 36].getD k 0
def impV (h k : Nat) : Sl := if k = 0 then (none, 0, 0) else (some ⟨h + impB k, 0, none⟩, (impK k).length, (impK k).length)
def varB (k : Nat) : Nat := [0, 7, 15, 24, 32].getD k 0
def iniB (k : Nat) : Nat := [3, 10, 20, 27, 35].getD k 0
def rdB (k : Nat) : Nat := [0, 6, 14, 23, 31].getD k 0
def rdA (h k : Nat) : Sl := if k = 0 then (none, 0, 0) else (some ⟨h + rdB k, 0, none⟩, (FM k).reads.length, (FM k).reads.length)
def st0B (k : Nat) : Nat := [1, 8, 16, 25, 33].getD k 0
def st1B (k : Nat) : Nat := [2, 9, 19, 26, 34].getD k 0
/-- What all packages have. -/
structure PackAt (h k : Nat) (W : World) : Prop where
  path : W.cell? ⟨h + 37, k * 5, none⟩ = some (.string (str (pathK k)))
  imps : W.cell? ⟨h + 37, k * 5 + 1, none⟩ = some (slV (impV h k))
  impn : (impV h k).2.1 = (impK k).length
  impc : CellsIn W 1 (impV h k).1 (impV h k).2.1 (Kc.strs (impK k))
  funs : W.cell? ⟨h + 37, k * 5 + 3, none⟩ = some (.slice none 0 0)
theorem packAt {h : Nat} {W : World} (p : PlanAt h W) (k : Nat) (hk : k < 6) : PackAt h k W := by
  obtain rfl | rfl | rfl | rfl | rfl | rfl : k = 0 ∨ k = 1 ∨ k = 2 ∨ k = 3 ∨ k = 4 ∨ k = 5 := by omega
  · exact ⟨p.cell 37 (by decide) rfl 0 rfl, p.cell 37 (by decide) rfl 1 rfl, rfl, ⟨rfl, .inl rfl⟩, p.cell 37 (by decide) rfl 3 rfl⟩
  · exact ⟨p.cell 37 (by decide) rfl 5 rfl, p.cell 37 (by decide) rfl 6 rfl, rfl, p.cells 4 (by decide) rfl 1 1 rfl, p.cell 37 (by decide) rfl 8 rfl⟩
  · exact ⟨p.cell 37 (by decide) rfl 10 rfl, p.cell 37 (by decide) rfl 11 rfl, rfl, p.cells 11 (by decide) rfl 2 1 rfl, p.cell 37 (by decide) rfl 13 rfl⟩
  · exact ⟨p.cell 37 (by decide) rfl 15 rfl, p.cell 37 (by decide) rfl 16 rfl, rfl, p.cells 21 (by decide) rfl 2 1 rfl, p.cell 37 (by decide) rfl 18 rfl⟩
  · exact ⟨p.cell 37 (by decide) rfl 20 rfl, p.cell 37 (by decide) rfl 21 rfl, rfl, p.cells 28 (by decide) rfl 2 1 rfl, p.cell 37 (by decide) rfl 23 rfl⟩
  · exact ⟨p.cell 37 (by decide) rfl 25 rfl, p.cell 37 (by decide) rfl 26 rfl, rfl, p.cells 36 (by decide) rfl 5 1 rfl, p.cell 37 (by decide) rfl 28 rfl⟩
/-- What a family's package has. -/
structure FamPack (h k : Nat) (W : World) : Prop where
  vars : W.cell? ⟨h + 37, k * 5 + 2, none⟩ = some (.slice (some ⟨h + varB k, 0, none⟩) 1 1)
  inis : W.cell? ⟨h + 37, k * 5 + 4, none⟩ = some (.slice (some ⟨h + iniB k, 0, none⟩) 2 2)
  vnam : W.cell? ⟨h + varB k, 0, none⟩ = some (.string tableS)
  vlen : W.cell? ⟨h + varB k, 1, none⟩ = some (.int .i64 ((FM k).len : Int))
  vbas : W.cell? ⟨h + varB k, 2, none⟩ = some (.int .i64 (FM k).base)
  vstp : W.cell? ⟨h + varB k, 3, none⟩ = some (.int .i64 (FM k).step)
  vrds : W.cell? ⟨h + varB k, 4, none⟩ = some (slV (rdA h k))
  vcal : W.cell? ⟨h + varB k, 5, none⟩ = some (.slice none 0 0)
  vhid : W.cell? ⟨h + varB k, 6, none⟩ = some (.slice none 0 0)
  rdn : (rdA h k).2.1 = (FM k).reads.length
  rdc : CellsIn W 3 (rdA h k).1 (rdA h k).2.1 (rd3 (FM k).reads)
  ini0 : W.cell? ⟨h + iniB k, 0, none⟩ = some (.slice (some ⟨h + st0B k, 0, none⟩) 1 1)
  ini1 : W.cell? ⟨h + iniB k, 1, none⟩ = some (.slice (some ⟨h + st1B k, 0, none⟩) 1 1)
  stp0 : ∀ j u, (stepR ((FM k).at0 : Int) (FM k).by0 (FM k).g0)[j]? = some u → W.cell? ⟨h + st0B k, j, none⟩ = some u
  stp1 : ∀ j u, (stepR ((FM k).at1 : Int) (FM k).by1 (FM k).g1)[j]? = some u → W.cell? ⟨h + st1B k, j, none⟩ = some u
theorem famPack {h : Nat} {W : World} (p : PlanAt h W) (k : Nat) (hk : k < 5) : FamPack h k W := by
  obtain rfl | rfl | rfl | rfl | rfl : k = 0 ∨ k = 1 ∨ k = 2 ∨ k = 3 ∨ k = 4 := by omega
  · exact ⟨p.cell 37 (by decide) rfl 2 rfl, p.cell 37 (by decide) rfl 4 rfl, p.cell 0 (by decide) rfl 0 rfl, p.cell 0 (by decide) rfl 1 rfl, p.cell 0 (by decide) rfl 2 rfl, p.cell 0 (by decide) rfl 3 rfl, p.cell 0 (by decide) rfl 4 rfl, p.cell 0 (by decide) rfl 5 rfl, p.cell 0 (by decide) rfl 6 rfl, rfl, ⟨rfl, .inl rfl⟩,
      p.cell 3 (by decide) rfl 0 rfl, p.cell 3 (by decide) rfl 1 rfl, fun j u hu => p.cell 1 (by decide) rfl j (by rw [← List.getElem?_toArray] at hu; exact hu), fun j u hu => p.cell 2 (by decide) rfl j (by rw [← List.getElem?_toArray] at hu; exact hu)⟩
  · exact ⟨p.cell 37 (by decide) rfl 7 rfl, p.cell 37 (by decide) rfl 9 rfl, p.cell 7 (by decide) rfl 0 rfl, p.cell 7 (by decide) rfl 1 rfl, p.cell 7 (by decide) rfl 2 rfl, p.cell 7 (by decide) rfl 3 rfl, p.cell 7 (by decide) rfl 4 rfl, p.cell 7 (by decide) rfl 5 rfl, p.cell 7 (by decide) rfl 6 rfl, rfl, p.cells 6 (by decide) rfl 1 3 rfl,
      p.cell 10 (by decide) rfl 0 rfl, p.cell 10 (by decide) rfl 1 rfl, fun j u hu => p.cell 8 (by decide) rfl j (by rw [← List.getElem?_toArray] at hu; exact hu), fun j u hu => p.cell 9 (by decide) rfl j (by rw [← List.getElem?_toArray] at hu; exact hu)⟩
  · exact ⟨p.cell 37 (by decide) rfl 12 rfl, p.cell 37 (by decide) rfl 14 rfl, p.cell 15 (by decide) rfl 0 rfl, p.cell 15 (by decide) rfl 1 rfl, p.cell 15 (by decide) rfl 2 rfl, p.cell 15 (by decide) rfl 3 rfl, p.cell 15 (by decide) rfl 4 rfl, p.cell 15 (by decide) rfl 5 rfl, p.cell 15 (by decide) rfl 6 rfl, rfl, p.cells 14 (by decide) rfl 2 3 rfl,
      p.cell 20 (by decide) rfl 0 rfl, p.cell 20 (by decide) rfl 1 rfl, fun j u hu => p.cell 16 (by decide) rfl j (by rw [← List.getElem?_toArray] at hu; exact hu), fun j u hu => p.cell 19 (by decide) rfl j (by rw [← List.getElem?_toArray] at hu; exact hu)⟩
  · exact ⟨p.cell 37 (by decide) rfl 17 rfl, p.cell 37 (by decide) rfl 19 rfl, p.cell 24 (by decide) rfl 0 rfl, p.cell 24 (by decide) rfl 1 rfl, p.cell 24 (by decide) rfl 2 rfl, p.cell 24 (by decide) rfl 3 rfl, p.cell 24 (by decide) rfl 4 rfl, p.cell 24 (by decide) rfl 5 rfl, p.cell 24 (by decide) rfl 6 rfl, rfl, p.cells 23 (by decide) rfl 1 3 rfl,
      p.cell 27 (by decide) rfl 0 rfl, p.cell 27 (by decide) rfl 1 rfl, fun j u hu => p.cell 25 (by decide) rfl j (by rw [← List.getElem?_toArray] at hu; exact hu), fun j u hu => p.cell 26 (by decide) rfl j (by rw [← List.getElem?_toArray] at hu; exact hu)⟩
  · exact ⟨p.cell 37 (by decide) rfl 22 rfl, p.cell 37 (by decide) rfl 24 rfl, p.cell 32 (by decide) rfl 0 rfl, p.cell 32 (by decide) rfl 1 rfl, p.cell 32 (by decide) rfl 2 rfl, p.cell 32 (by decide) rfl 3 rfl, p.cell 32 (by decide) rfl 4 rfl, p.cell 32 (by decide) rfl 5 rfl, p.cell 32 (by decide) rfl 6 rfl, rfl, p.cells 31 (by decide) rfl 2 3 rfl,
      p.cell 35 (by decide) rfl 0 rfl, p.cell 35 (by decide) rfl 1 rfl, fun j u hu => p.cell 33 (by decide) rfl j (by rw [← List.getElem?_toArray] at hu; exact hu), fun j u hu => p.cell 34 (by decide) rfl j (by rw [← List.getElem?_toArray] at hu; exact hu)⟩
theorem imports_any (k : Nat) (hk : k < 6) (w : World) : Calls Tryd.prog 28 #[.string (str (pathK k))] w (ImpPost k w) := by
  obtain rfl | rfl | rfl | rfl | rfl | rfl : k = 0 ∨ k = 1 ∨ k = 2 ∨ k = 3 ∨ k = 4 ∨ k = 5 := by omega
  · exact imports_0 w
  · exact imports_1 w
  · exact imports_2 w
  · exact imports_3 w
  · exact imports_4 w
  · exact imports_5 w
end Go.Proofs.YtnnaoneegeenkaaDoor.Rp
