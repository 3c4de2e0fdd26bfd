/- Zone and Median answer as the document says, the lists stay, and lists asked again with other numbers in them are answered anew (P11.2): the law SensorZones returns true for every input of bulk at most 1048576. -/
import Derived.Test.YtjpimamjcckieaaRows
import Derived.Test.YtjpimamjcckieaaIe
import Derived.Test.YtjpimamjcckieaaSeQ
import Derived.WalkKit
import Derived.ProofKit
import Derived.OpenShut
import Derived.ShutString
import Derived.ChangeOld
import Derived.SliceStrings
import Derived.Below
import Derived.JoinedCond
import Derived.Deep.Slices
import Derived.Deep.SlicePairs
import Derived.Deep.Strs
namespace Go.Proofs.Ytjpimamjcckieaa.sensorZones
open Go.ChangeShapes Go.WideShapes Go.ChangeAt Go.RowKit Se
set_option linter.unusedVariables false

theorem own : ownKnob Try.prog.godebug = none := by kernel_rfl
theorem laidOut : laidOutB Try.prog = true := by kernel_rfl
set_option maxRecDepth 100000 in
theorem contract (H : Type) (enc : TypeId × Value → H) (W : World) (base : Nat) (args : Array Value) (ds gs : List (DataW H)) (before : List MemPlace)
    (hval : ∀ (j : Nat) t v, Try.f3.params[j]? = some t → args[j]? = some v → Value.okWide Try.prog W .any base t v)
    (hW : DataW.Whole enc Try.prog Try.f3.params.toList Rows.sensorZonesSpec.vars false W args.toList ds gs before) (hk : Rows.uptoSmall H (ds ++ gs) = true) :
    Calls Try.prog 3 args W fun e W' => ∃ v, e = .returned v ∧ Rows.sensorZonesSpec.post enc Try.prog Try.f3 false true false false W args v W' := by
  have hW' := hW
  obtain ⟨p, q, hA0, hV, rfl, hfz, hnd⟩ := hW
  have hA : DataW.TrodAll enc Try.prog W 0 (fun _ => true) true Try.f3.params.toList args.toList ds p := hA0
  rw [Try.params3] at hA hval
  obtain ⟨v0, vs0, d0, ds0, p0, q0, hargs, rfl, rfl, h0, r0⟩ := trodAll_cons hA
  obtain ⟨v1, vs1, d1, ds1, p1, q1, rfl, rfl, rfl, h1, r1⟩ := trodAll_cons r0
  obtain ⟨v2, vs2, d2, ds2, p2, q2, rfl, rfl, rfl, h2, r2⟩ := trodAll_cons r1
  obtain ⟨rfl, rfl, rfl⟩ := trodAll_nil r2
  obtain rfl : args = #[v0, v1, v2] := by cases args; simp_all
  obtain ⟨rfl, rfl⟩ := trodVars_none hV
  obtain ⟨a0, len0, cap0, rfl⟩ := okWide_slice Try.underlying22 (hval 0 22 v0 rfl rfl)
  have k0 := h0
  have lt0 : ∀ x ∈ p0, x.block < W.heap.size := by obtain ⟨m, hm⟩ := k0; exact DataW.trod_lt m _ _ _ hm
  obtain ⟨a1, rfl, rfl, rfl, w1⟩ := open_int Try.underlying23 (hval 1 23 v1 rfl rfl) h1
  have b1 := w1
  simp [Lit.wf, IntKind.min, IntKind.max, IntKind.signed, IntKind.bits] at b1
  obtain ⟨a2, len2, cap2, rfl⟩ := okWide_slice Try.underlying22 (hval 2 22 v2 rfl rfl)
  have k2 := h2
  have lt2 : ∀ x ∈ p2, x.block < W.heap.size := by obtain ⟨m, hm⟩ := k2; exact DataW.trod_lt m _ _ _ hm
  clear hA0
  have hk2 : Rows.uptoBulkAll [d0, DataW.lit (H := H) (.int .i8 a1), d2] ≤ 1048576 := by
    simp only [List.append_nil] at hk
    exact of_decide_eq_true hk
  simp only [Rows.uptoBulkAll] at hk2
  obtain ⟨y0, hy00, hy01, hy02, hy03, hy04, hy05⟩ : ∃ y : Ro.Sl × List Int, Value.slice a0 len0 cap0 = Ro.slV y.1 ∧ y.1.2.1 = y.2.length ∧ Ro.CellsIn W 1 y.1.1 y.1.2.1 (Se.i8s y.2) ∧ Ro.Neat y.1 ∧ y.2.length ≤ Rows.uptoBulk d0 ∧ ∀ n, n ∈ y.2 → -128 ≤ n ∧ n ≤ 127 := by
    obtain ⟨fuel, hf⟩ := h0
    exact Cin.i8s_of hf
  obtain ⟨⟨y0a, y0n, y0c⟩, L0⟩ := y0
  simp only [Ro.slV] at hy00
  injection hy00 with e1 e2 e3
  subst e1 e2 e3
  obtain ⟨y2, hy20, hy21, hy22, hy23, hy24, hy25⟩ : ∃ y : Ro.Sl × List Int, Value.slice a2 len2 cap2 = Ro.slV y.1 ∧ y.1.2.1 = y.2.length ∧ Ro.CellsIn W 1 y.1.1 y.1.2.1 (Se.i8s y.2) ∧ Ro.Neat y.1 ∧ y.2.length ≤ Rows.uptoBulk d2 ∧ ∀ n, n ∈ y.2 → -128 ≤ n ∧ n ≤ 127 := by
    obtain ⟨fuel, hf⟩ := h2
    exact Cin.i8s_of hf
  obtain ⟨⟨y2a, y2n, y2c⟩, L2⟩ := y2
  simp only [Ro.slV] at hy20
  injection hy20 with e1 e2 e3
  subst e1 e2 e3
  refine (Se.zones_any a1 a0 cap0 len0 L0 a2 cap2 len2 L2 W hy01 hy21 (by have : len0 = L0.length := hy01; have : L0.length ≤ Rows.uptoBulk d0 := hy04; omega) (by have : len2 = L2.length := hy21; have : L2.length ≤ Rows.uptoBulk d2 := hy24; omega) hy02 hy03 hy22 hy23 hy25).mono fun e W' ⟨he, bel⟩ => ?_
  subst he
  exact ⟨_, rfl, _, _, _, [], _, [], hW', trodAll_mk1 (shut_bool Try.underlying4 _), (trodAll_cons_mk (Below.trod laidOut (by kernel_rfl) (of_decide_eq_true (by kernel_rfl)) k0 bel lt0) (trodAll_cons_mk (shut_int Try.underlying23 w1) (trodAll_cons_mk (Below.trod laidOut (by kernel_rfl) (of_decide_eq_true (by kernel_rfl)) k2 bel lt2) trodAll_mk0))), rfl, bel.frame _, fun h => by cases h⟩
set_option maxRecDepth 100000 in
theorem lifted (os : Os) (started : os.Started) (H : Type) (enc : TypeId × Value → H) (F : Stop.Interp) :
    ReturnsInHanded {} Try.checked os 3 .any ((Rows.OpenSpec.upto Rows.sensorZonesSpec).pre6 enc Try.prog Try.f3 Rows.sensorZonesUptoRow.domain false) (((Rows.OpenSpec.upto Rows.sensorZonesSpec).at F).post enc Try.prog Try.f3 false true false false) := by
  refine returnsInHanded_of_cond (C := Try.checked) (s := Rows.OpenSpec.upto Rows.sensorZonesSpec) (k := Rows.uptoSmall) rfl own started (by kernel_rfl) Try.func3
    (OpenSpec.witness (enc := enc) (C := Try.checked) (s := Rows.OpenSpec.upto Rows.sensorZonesSpec) (k := Rows.uptoSmall) rfl false ⟨#[], #[.slice none 0 0, .int .i8 0, .slice none 0 0], []⟩ 8 (by kernel_rfl) (by kernel_rfl) (by kernel_rfl)
      (x := ([.nil, .lit (.int .i8 0), .nil], [], [])) (by kernel_rfl) rfl (by kernel_rfl)) ?_
  intro W base args ds gs before hval hW _ hk _
  exact contract H enc W base args ds gs before hval hW hk

/-- THE STATEMENT -/
theorem proved : Rows.SensorZonesUptoSaid :=
  OpenClaim.holds_of_cond 3 Try.f3 rfl rfl rfl rfl rfl rfl rfl ⟨rfl, rfl, rfl, rfl, rfl⟩ rfl rfl rfl rfl rfl (by kernel_rfl) Try.func3 (by kernel_rfl)
    (of_decide_eq_true (by kernel_rfl)) (by unfold Func.isWrapper; first | (rw [if_pos (by decide +kernel)]; kernel_rfl) | (rw [if_neg (by decide +kernel)]; exact ⟨rfl, rfl⟩))
    (fun os started H enc _ F => lifted os started H enc F)
#print axioms proved
end Go.Proofs.Ytjpimamjcckieaa.sensorZones
