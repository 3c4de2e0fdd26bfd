/- The document's families: what they are made of, and what their arrays come to, one behind the other. -/
import Derived.Test.YtnnaoneegeenkaaDoorRmF
import Derived.Test.YtnnaoneegeenkaaDoorKaA
namespace Go.Proofs.YtnnaoneegeenkaaDoor.Kq
open Go.ChangeShapes Go.WideShapes Go.ChangeAt Go.RowKit Own Ro wordsNames Kc
open Rm (crystalN supplyN busN sensorN radioN)
open Ka (i64s i64s_len i64s_at entV Rt)

structure Fm where
  name : List UInt8
  len : Nat
  base : Int
  step : Int
  reads : List (List UInt8 × Int)
  at0 : Nat
  at1 : Nat
  by0 : Int
  by1 : Int
  g0 : List UInt8
  g1 : List UInt8
  L : List Cd
def fm0 : Fm := ⟨[], 0, 0, 0, [], 0, 0, 0, 0, [], [], []⟩
def FML : List Fm := [
  ⟨crystalN, 32, 1000000, 1000000, [], 0, 31, -967232, 68000000, [], [], FLc⟩,
  ⟨supplyN, 24, 300000, 12500, [(crystalN, 1)], 0, 23, 467232, 412500, [], [], FLs⟩,
  ⟨busN, 20, 268435456, 65536, [(crystalN, 1), (supplyN, 4)], 0, 19, 4096, 2, [], crystalN, FLb⟩,
  ⟨sensorN, 16, -200000, 10000, [(supplyN, 1)], 0, 15, 25000, 500000, [], [], FLe⟩,
  ⟨radioN, 20, 160000000, 25000, [(busN, 1), (sensorN, 2)], 0, 19, -2320, -30640, [], [], FLr⟩]
def FM (k : Nat) : Fm := FML.getD k fm0
abbrev Tn := List UInt8 × List Int
/-- A table by its name: the first; none is empty. -/
def lookT : List Tn → List UInt8 → List Int
  | [], _ => []
  | t :: r, nm => if t.1 = nm then t.2 else lookT r nm
def rts (f : Fm) (Ts : List Tn) : List Rt := f.reads.map fun r => (r.2, lookT Ts r.1)
def row0 (f : Fm) (Ts : List Tn) : List Int := (List.range f.len).map fun i : Nat => entV (i : Int) f.base f.step (rts f Ts)
def byG (b : Int) (g : List UInt8) (a : Nat) (Ts : List Tn) : Int := if g = [] then b else wrap64 (b * (lookT Ts g).getD (a % (lookT Ts g).length) 0)
def row1 (f : Fm) (Ts : List Tn) : List Int := (row0 f Ts).set f.at0 (wrap64 ((row0 f Ts).getD f.at0 0 + byG f.by0 f.g0 f.at0 Ts))
def row2 (f : Fm) (Ts : List Tn) : List Int := (row1 f Ts).set f.at1 (wrap64 ((row1 f Ts).getD f.at1 0 + byG f.by1 f.g1 f.at1 Ts))
/-- The arrays behind k families. -/
def tabsI : Nat → List Tn
  | 0 => []
  | k + 1 => tabsI k ++ [((FM k).name, row2 (FM k) (tabsI k))]
set_option maxRecDepth 100000 in
theorem tabs5 : tabsI 5 = [(crystalN, Rm.Ct.tab), (supplyN, Rm.Vt.tab), (busN, Rm.Bt.tab), (sensorN, Rm.St.tab), (radioN, Rm.Rt.tab)] := by decide +kernel
theorem row0_len (f : Fm) (Ts : List Tn) : (row0 f Ts).length = f.len := by simp [row0]
theorem row1_len (f : Fm) (Ts : List Tn) : (row1 f Ts).length = f.len := by simp [row1, row0_len]
theorem row2_len (f : Fm) (Ts : List Tn) : (row2 f Ts).length = f.len := by simp [row2, row1_len]
theorem tabsI_len (k : Nat) : (tabsI k).length = k := by
  induction k with
  | zero => rfl
  | succ k ih => show (tabsI k ++ _).length = _; rw [List.length_append, ih]; rfl
/-- What a family must have. -/
theorem FM_ok : ∀ k < 5, (FM k).len ≤ 32 ∧ 1 ≤ (FM k).len ∧ (FM k).at0 < (FM k).len ∧ (FM k).at1 < (FM k).len ∧ (FM k).reads.length ≤ 2 ∧ (FM k).g0 = [] ∧ ((FM k).g1 ≠ [] → k = 2 ∧ (FM k).g1 = crystalN ∧ (FM k).at1 = 19) ∧ 1 ≤ (FM k).L.length ∧ (FM k).L.length ≤ 6 := by decide +kernel
theorem look2 : lookT (tabsI 2) crystalN = Rm.Ct.tab := by decide +kernel
theorem tab_small : ∀ k < 5, ∀ i < 5, ((tabsI k).getD i ([], [])).2.length ≤ 32 := by decide +kernel
def tn0 : Tn := ([], [])
/-- Tables in memory. -/
def tnHd (a : Tn) : List Value := [.string (str a.1), .slice none 0 0]
def KT : Kd Tn where
  k := 2
  p := 1
  q := 1
  E := 96
  F := 2
  hd := tnHd
  inn := fun a => i64s a.2
  len := fun a => a.2.length
  z := tn0
  hk := fun _ => rfl
  hq := fun a => by show (i64s a.2).length = _; rw [i64s_len]; omega
  hp := by decide
  ne := by decide
  one := by intro a u hu; simp [tnHd] at hu; rcases hu with rfl | rfl <;> rfl
  oneI := by intro a u hu; simp [i64s] at hu; obtain ⟨x, _, rfl⟩ := hu; rfl
/-- A family in memory. -/
def famRow (f : Fm) (r A : Sl) : List Value := [.string (str f.name), .int .i64 (f.len : Int), .int .i64 f.base, .int .i64 f.step, slV r, .int .i64 (f.at0 : Int), .int .i64 (f.at1 : Int), .int .i64 f.by0, .int .i64 f.by1, .string (str f.g0), .string (str f.g1), slV A]
def rdV (l : List (List UInt8 × Int)) : List Value := l.flatMap fun r => [.string (str r.1), .int .i64 r.2]
structure FamAt (W : World) (ga k : Nat) (f : Fm) (r A : Sl) (R : List Sl) : Prop where
  row : ∀ j u, (famRow f r A)[j]? = some u → W.cell? ⟨ga, k * 12 + j, none⟩ = some u
  rn : r.2.1 = f.reads.length
  rc : CellsIn W 2 r.1 r.2.1 (rdV f.reads)
  an : A.2.1 = f.L.length
  ac : Ro.RowsIn KC W A.1 A.2.1 f.L R
  neat : ∀ i, Neat (R.getD i sl0) ∧ (R.getD i sl0).2.1 ≤ (R.getD i sl0).2.2
end Go.Proofs.YtnnaoneegeenkaaDoor.Kq
