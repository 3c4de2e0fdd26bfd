/- A struct of numbers that came in by value. -/
import Derived.Test.YtinocgngjhomcaaDoorRows
import Derived.WalkKit
import Derived.ProofKit
import Derived.OpenShut
import Derived.ShutString
import Derived.ChangeOld
import Derived.SliceStrings
import Derived.Below
import Derived.JoinedCond
import Derived.Deep.Slices
import Derived.Deep.SlicePairs
import Derived.Deep.Strs
namespace Go.Proofs.YtinocgngjhomcaaDoor.Cin
open Go.ChangeShapes Go.WideShapes Go.ChangeAt Go.RowKit
set_option linter.unusedVariables false

theorem agg_of {v : Value} {n : Nat} (hn : 2 ≤ n) (hl : v.cells.toList.length = n) : ∃ cs : Array Value, v = .agg cs ∧ cs.toList.length = n := by
  cases v with
  | agg cs => exact ⟨cs, rfl, hl⟩
  | _ => simp [Value.cells] at hl; omega
theorem trod_float {H : Type} {enc : TypeId × Value → H} {P : Program} {W : World} {base : Nat} {sp : Nat → Bool} {hd : Bool} {fuel : Nat} {t : TypeId} {cs : List Value} {x : DataW H × List MemPlace} {k : FloatKind} (ht : P.underlying t = some (.float k)) (h : DataW.trod enc P W base sp hd fuel t cs = some x) : ∃ n, cs = [.float k n] ∧ x = (.lit (.float k n), []) ∧ (Lit.float k n).wf = true := by
  cases fuel with
  | zero => simp [DataW.trod] at h
  | succ n =>
    unfold DataW.trod at h
    rw [ht] at h
    split at h <;> simp_all
set_option maxRecDepth 100000 in
theorem trip_of {H : Type} {enc : TypeId × Value → H} {W : World} {base : Nat} {sp : Nat → Bool} {hd : Bool} {v : Value} {d : DataW H} {p : List MemPlace}
    (h : DataW.Trod enc Tryd.prog W base sp hd 57 v d p) : ∃ (re : Int) (im : Int) (a : Int) (b : Int), v = .agg #[.int .i32 re, .int .i32 im, .int .i64 a, .int .i64 b] ∧ d = .agg [.lit (.int .i32 re), .lit (.int .i32 im), .lit (.int .i64 a), .lit (.int .i64 b)] ∧ (Lit.int .i32 re).wf = true ∧ (Lit.int .i32 im).wf = true ∧ (Lit.int .i64 a).wf = true ∧ (Lit.int .i64 b).wf = true := by
  obtain ⟨fuel, h⟩ := h
  obtain ⟨xs, m, _, hx, hl, hlen, hf⟩ := DataW.trod_struct Tryd.underlying57 h
  have ce : Tryd.prog.cellsOf 57 = 4 := by kernel_rfl
  have c0 : Tryd.prog.cellsOf 3 = 1 := by kernel_rfl
  have c1 : Tryd.prog.cellsOf 21 = 1 := by kernel_rfl
  rw [ce] at hl
  obtain ⟨cs, rfl, hl2⟩ := agg_of (by decide) hl
  obtain ⟨l, rfl⟩ : ∃ l : List Value, cs = l.toArray := ⟨cs.toList, by simp⟩
  match l, hl2, xs, hlen with
  | [v0, v1, v2, v3], _, [y0, y1, y2, y3], _ =>
    have g0 := hf 0 _ rfl
    simp [c1] at g0
    obtain ⟨z0, e0, x0, hz0⟩ := DataW.trod_int Tryd.underlying21 g0
    injection e0 with e0
    subst e0
    have g1 := hf 1 _ rfl
    simp [c1] at g1
    obtain ⟨z1, e1, x1, hz1⟩ := DataW.trod_int Tryd.underlying21 g1
    injection e1 with e1
    subst e1
    have g2 := hf 2 _ rfl
    simp [c0] at g2
    obtain ⟨z2, e2, x2, hz2⟩ := DataW.trod_int Tryd.underlying3 g2
    injection e2 with e2
    subst e2
    have g3 := hf 3 _ rfl
    simp [c0] at g3
    obtain ⟨z3, e3, x3, hz3⟩ := DataW.trod_int Tryd.underlying3 g3
    injection e3 with e3
    subst e3
    refine ⟨z0, z1, z2, z3, rfl, ?_, hz0, hz1, hz2, hz3⟩
    have := congrArg Prod.fst hx
    simpa [x0, x1, x2, x3] using this
end Go.Proofs.YtinocgngjhomcaaDoor.Cin
