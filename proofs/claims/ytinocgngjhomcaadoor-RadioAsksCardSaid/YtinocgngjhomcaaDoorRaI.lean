/- A struct of numbers that came in by value. -/
import Derived.Test.YtinocgngjhomcaaDoorRows
import Derived.WalkKit
import Derived.ProofKit
import Derived.OpenShut
import Derived.ShutString
import Derived.ChangeOld
import Derived.SliceStrings
import Derived.Below
import Derived.JoinedCond
import Derived.Deep.Slices
import Derived.Deep.SlicePairs
import Derived.Deep.Strs
namespace Go.Proofs.YtinocgngjhomcaaDoor.Cin
open Go.ChangeShapes Go.WideShapes Go.ChangeAt Go.RowKit
set_option linter.unusedVariables false

theorem agg_of {v : Value} {n : Nat} (hn : 2 ≤ n) (hl : v.cells.toList.length = n) : ∃ cs : Array Value, v = .agg cs ∧ cs.toList.length = n := by
  cases v with
  | agg cs => exact ⟨cs, rfl, hl⟩
  | _ => simp [Value.cells] at hl; omega
theorem trod_float {H : Type} {enc : TypeId × Value → H} {P : Program} {W : World} {base : Nat} {sp : Nat → Bool} {hd : Bool} {fuel : Nat} {t : TypeId} {cs : List Value} {x : DataW H × List MemPlace} {k : FloatKind} (ht : P.underlying t = some (.float k)) (h : DataW.trod enc P W base sp hd fuel t cs = some x) : ∃ n, cs = [.float k n] ∧ x = (.lit (.float k n), []) ∧ (Lit.float k n).wf = true := by
  cases fuel with
  | zero => simp [DataW.trod] at h
  | succ n =>
    unfold DataW.trod at h
    rw [ht] at h
    split at h <;> simp_all
set_option maxRecDepth 100000 in
theorem ask_of {H : Type} {enc : TypeId × Value → H} {W : World} {base : Nat} {sp : Nat → Bool} {hd : Bool} {v : Value} {d : DataW H} {p : List MemPlace}
    (h : DataW.Trod enc Tryd.prog W base sp hd 25 v d p) : ∃ (i : Int) (hz : Int) (sp : Nat) (sd : Int) (n : Int), v = .agg #[.int .i64 i, .int .i64 hz, .float .f64 sp, .int .u64 sd, .int .i64 n] ∧ d = .agg [.lit (.int .i64 i), .lit (.int .i64 hz), .lit (.float .f64 sp), .lit (.int .u64 sd), .lit (.int .i64 n)] ∧ (Lit.int .i64 i).wf = true ∧ (Lit.int .i64 hz).wf = true ∧ (Lit.float .f64 sp).wf = true ∧ (Lit.int .u64 sd).wf = true ∧ (Lit.int .i64 n).wf = true := by
  obtain ⟨fuel, h⟩ := h
  obtain ⟨xs, m, _, hx, hl, hlen, hf⟩ := DataW.trod_struct Tryd.underlying25 h
  have ce : Tryd.prog.cellsOf 25 = 5 := by kernel_rfl
  have c0 : Tryd.prog.cellsOf 22 = 1 := by kernel_rfl
  have c1 : Tryd.prog.cellsOf 3 = 1 := by kernel_rfl
  have c2 : Tryd.prog.cellsOf 2 = 1 := by kernel_rfl
  have c3 : Tryd.prog.cellsOf 23 = 1 := by kernel_rfl
  rw [ce] at hl
  obtain ⟨cs, rfl, hl2⟩ := agg_of (by decide) hl
  obtain ⟨l, rfl⟩ : ∃ l : List Value, cs = l.toArray := ⟨cs.toList, by simp⟩
  match l, hl2, xs, hlen with
  | [v0, v1, v2, v3, v4], _, [y0, y1, y2, y3, y4], _ =>
    have g0 := hf 0 _ rfl
    simp [c1] at g0
    obtain ⟨z0, e0, x0, hz0⟩ := DataW.trod_int Tryd.underlying3 g0
    injection e0 with e0
    subst e0
    have g1 := hf 1 _ rfl
    simp [c2] at g1
    obtain ⟨z1, e1, x1, hz1⟩ := DataW.trod_int Tryd.underlying2 g1
    injection e1 with e1
    subst e1
    have g2 := hf 2 _ rfl
    simp [c0] at g2
    obtain ⟨z2, e2, x2, hz2⟩ := trod_float Tryd.underlying22 g2
    injection e2 with e2
    subst e2
    have g3 := hf 3 _ rfl
    simp [c3] at g3
    obtain ⟨z3, e3, x3, hz3⟩ := DataW.trod_int Tryd.underlying23 g3
    injection e3 with e3
    subst e3
    have g4 := hf 4 _ rfl
    simp [c1] at g4
    obtain ⟨z4, e4, x4, hz4⟩ := DataW.trod_int Tryd.underlying3 g4
    injection e4 with e4
    subst e4
    refine ⟨z0, z1, z2, z3, z4, rfl, ?_, hz0, hz1, hz2, hz3, hz4⟩
    have := congrArg Prod.fst hx
    simpa [x0, x1, x2, x3, x4] using this
end Go.Proofs.YtinocgngjhomcaaDoor.Cin
