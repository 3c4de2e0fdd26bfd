/- What is reached parts the marks, and of fewer marks it is the lesser; half of the readings are at the median or below, half at it or above, and turned around they have the same median (P11.4): the law SensorParts returns true. Conditions: the family's array holds what its text lays (the card ties it). -/
import Derived.Test.YtjpimamjcckieaaDoorRows
import Derived.Test.YtjpimamjcckieaaDoorCards
import Derived.Test.YtjpimamjcckieaaDoorTie
import Derived.Test.YtjpimamjcckieaaDoorSeT
import Derived.Test.YtjpimamjcckieaaDoorIf
import Derived.Test.YtjpimamjcckieaaDoorSePa
import Derived.WalkKit
import Derived.ProofKit
import Derived.OpenShut
import Derived.ShutString
import Derived.Below
import Derived.SizedLaws
import Derived.JoinedCond
import Derived.Deep.DeepHandedRow
import Derived.Deep.DeepWitnessRowRef
import Derived.Lay
import Derived.LaidMore
import Derived.Stop.Joined
import Derived.Stop.LaidErr
import Derived.Lib.LaidTab
import Derived.Shelf.Vars
namespace Go.Proofs.YtjpimamjcckieaaDoor.sensorParts
open Go.ChangeShapes Go.WideShapes Go.ChangeAt Go.RowKit Se
set_option linter.unusedVariables false

theorem own : ownKnob Tryd.prog.godebug = none := by kernel_rfl
theorem laidOut : laidOutB Tryd.prog = true := by kernel_rfl
theorem env_of {W : World} (h : laidMetH Tryd.prog Rows.sensorPartsRow.laid W) : Se.Tb W := by
  rw [MakeChecks.laidMetH_plain _ _ _ (by kernel_rfl)] at h
  exact Se.tb_of h
noncomputable def home (os : Os) : World := World.laidAll Tryd.prog os Rows.sensorPartsRow.laid
theorem home_met (os : Os) : laidMetH Tryd.prog Rows.sensorPartsRow.laid ((home os).forCall (fun _ _ => 0) ⟨#[], #[.slice none 0 0, .int .i8 0, .slice none 0 0], []⟩).memory := by
  rw [MakeChecks.laidMetH_plain _ _ _ (by kernel_rfl)]
  exact laidMet_laidAll _ (by kernel_rfl) (by kernel_rfl)
theorem home_shaped (os : Os) : ((home os).forCall (fun _ _ => 0) ⟨#[], #[.slice none 0 0, .int .i8 0, .slice none 0 0], []⟩).Shaped Tryd.prog := World.shaped_of_ZipB (by kernel_rfl) (by kernel_rfl)
set_option maxRecDepth 100000 in
theorem contract (H : Type) (enc : TypeId × Value → H) (W : World) (base : Nat) (args : Array Value) (ds gs : List (DataW H)) (before : List MemPlace)
    (hval : ∀ (j : Nat) t v, Tryd.f3.params[j]? = some t → args[j]? = some v → Value.okWide Tryd.prog W .any base t v)
    (hW : DataW.Whole enc Tryd.prog Tryd.f3.params.toList Rows.sensorPartsSpec.vars false W args.toList ds gs before) (hE : Se.Tb W) :
    Calls Tryd.prog 3 args W fun e W' => ∃ v, e = .returned v ∧ Rows.sensorPartsSpec.post enc Tryd.prog Tryd.f3 false true false false W args v W' := by
  have hW' := hW
  obtain ⟨p, q, hA0, hV, rfl, hfz, hnd⟩ := hW
  have hA : DataW.TrodAll enc Tryd.prog W 0 (fun _ => true) true Tryd.f3.params.toList args.toList ds p := hA0
  rw [Tryd.params3] at hA hval
  obtain ⟨v0, vs0, d0, ds0, p0, q0, hargs, rfl, rfl, h0, r0⟩ := trodAll_cons hA
  obtain ⟨v1, vs1, d1, ds1, p1, q1, rfl, rfl, rfl, h1, r1⟩ := trodAll_cons r0
  obtain ⟨v2, vs2, d2, ds2, p2, q2, rfl, rfl, rfl, h2, r2⟩ := trodAll_cons r1
  obtain ⟨rfl, rfl, rfl⟩ := trodAll_nil r2
  obtain rfl : args = #[v0, v1, v2] := by cases args; simp_all
  obtain ⟨rfl, rfl⟩ := trodVars_none hV
  obtain ⟨a0, len0, cap0, rfl⟩ := okWide_slice Tryd.underlying22 (hval 0 22 v0 rfl rfl)
  have k0 := h0
  have lt0 : ∀ x ∈ p0, x.block < W.heap.size := by obtain ⟨m, hm⟩ := k0; exact DataW.trod_lt m _ _ _ hm
  obtain ⟨a1, rfl, rfl, rfl, w1⟩ := open_int Tryd.underlying23 (hval 1 23 v1 rfl rfl) h1
  have b1 := w1
  simp [Lit.wf, IntKind.min, IntKind.max, IntKind.signed, IntKind.bits] at b1
  obtain ⟨a2, len2, cap2, rfl⟩ := okWide_slice Tryd.underlying22 (hval 2 22 v2 rfl rfl)
  have k2 := h2
  have lt2 : ∀ x ∈ p2, x.block < W.heap.size := by obtain ⟨m, hm⟩ := k2; exact DataW.trod_lt m _ _ _ hm
  clear hA0
  have hcap0 : len0 ≤ cap0 := by
    obtain ⟨fuel, hf⟩ := h0
    exact Cin.i8s_le hf
  obtain ⟨y0, hy00, hy01, hy02, hy03, _, _⟩ : ∃ y : Ro.Sl × List Int, Value.slice a0 len0 cap0 = Ro.slV y.1 ∧ y.1.2.1 = y.2.length ∧ Ro.CellsIn W 1 y.1.1 y.1.2.1 (Se.i8s y.2) ∧ Ro.Neat y.1 ∧ y.2.length ≤ Rows.uptoBulk d0 ∧ ∀ n, n ∈ y.2 → -128 ≤ n ∧ n ≤ 127 := by
    obtain ⟨fuel, hf⟩ := h0
    exact Cin.i8s_of hf
  obtain ⟨⟨y0a, y0n, y0c⟩, L0⟩ := y0
  simp only [Ro.slV] at hy00
  injection hy00 with e1 e2 e3
  subst e1 e2 e3
  obtain ⟨y2, hy20, hy21, hy22, hy23, _, _⟩ : ∃ y : Ro.Sl × List Int, Value.slice a2 len2 cap2 = Ro.slV y.1 ∧ y.1.2.1 = y.2.length ∧ Ro.CellsIn W 1 y.1.1 y.1.2.1 (Se.i8s y.2) ∧ Ro.Neat y.1 ∧ y.2.length ≤ Rows.uptoBulk d2 ∧ ∀ n, n ∈ y.2 → -128 ≤ n ∧ n ≤ 127 := by
    obtain ⟨fuel, hf⟩ := h2
    exact Cin.i8s_of hf
  obtain ⟨⟨y2a, y2n, y2c⟩, L2⟩ := y2
  simp only [Ro.slV] at hy20
  injection hy20 with e1 e2 e3
  subst e1 e2 e3
  refine (Se.parts_any a1 a0 cap0 len0 L0 a2 cap2 len2 L2 W hy01 hy21 hy02 hy22 hcap0 hE).mono fun e W' ⟨he, bel⟩ => ?_
  subst he
  exact ⟨_, rfl, _, _, _, [], _, [], hW', trodAll_mk1 (shut_bool Tryd.underlying4 _), (trodAll_cons_mk (Below.trod laidOut (by kernel_rfl) (of_decide_eq_true (by kernel_rfl)) k0 bel lt0) (trodAll_cons_mk (shut_int Tryd.underlying23 w1) (trodAll_cons_mk (Below.trod laidOut (by kernel_rfl) (of_decide_eq_true (by kernel_rfl)) k2 bel lt2) trodAll_mk0))), rfl, bel.frame _, fun h => by cases h⟩
theorem home_ok (os : Os) : Input.okWideB Tryd.prog ((home os).forCall (fun _ _ => 0) ⟨#[], #[.slice none 0 0, .int .i8 0, .slice none 0 0], []⟩) 3 ⟨#[], #[.slice none 0 0, .int .i8 0, .slice none 0 0], []⟩ = true := by kernel_rfl
theorem reads (os : Os) {H : Type} (enc : TypeId × Value → H) : ∃ places, DataW.whole enc Tryd.prog ((home os).forCall (fun _ _ => 0) ⟨#[], #[.slice none 0 0, .int .i8 0, .slice none 0 0], []⟩).memory Tryd.f3.params.toList Rows.sensorPartsSpec.vars false (#[.slice none 0 0, .int .i8 0, .slice none 0 0] : Array Value).toList 8 = some ([.nil, .lit (.int .i8 0), .nil], [], places) :=
  ⟨[], by kernel_rfl⟩

set_option maxRecDepth 100000 in
theorem lifted (os : Os) (started : os.Started) (H : Type) (enc : TypeId × Value → H) (F : Stop.Interp) :
    ReturnsInHanded {} Tryd.checked os 3 .any ((OpenSpec.ofChange Rows.sensorPartsSpec).preRow enc Tryd.prog Tryd.f3 Rows.sensorPartsRow.domain false Rows.sensorPartsRow.laid) (((OpenSpec.ofChange Rows.sensorPartsSpec).at F).post enc Tryd.prog Tryd.f3 false true false false) := by
  obtain ⟨places, hx⟩ := reads os enc
  have hm : ({ modest := false } : Assume).holds Tryd.prog (lone (Frame.enter Tryd.prog 3 #[.slice none 0 0, .int .i8 0, .slice none 0 0] .normal) [] ((home os).forCall (fun _ _ => 0) ⟨#[], #[.slice none 0 0, .int .i8 0, .slice none 0 0], []⟩)) := by
    simp only [Assume.holds]
    exact ⟨by simp, by simp, fun _ => Modest.zero, by simp, by simp⟩
  refine returnsInHanded_of_row (C := Tryd.checked) (s := OpenSpec.ofChange Rows.sensorPartsSpec) own started (by kernel_rfl) Tryd.func3
    ⟨home os, fun _ _ => 0, ⟨#[], #[.slice none 0 0, .int .i8 0, .slice none 0 0], []⟩, World.laidAll_os _ _ _, home_shaped os, (Input.okWide_of_okWideB (base := 0) (home_ok os)).1, (Input.okWide_of_okWideB (home_ok os)).2,
      OpenSpec.preRow_of_cond 8 hx (by kernel_rfl) (fun k hk => by cases hk) (by kernel_rfl) (home_met os), hm⟩ ?_
  intro W base args ds gs before hval hW _ hcond _ hL hs _
  exact contract H enc W base args ds gs before hval hW (env_of hL)

theorem rowProved : Rows.SensorPartsSaid :=
  OpenClaim.holds_of_cond 3 Tryd.f3 rfl rfl rfl rfl rfl rfl rfl ⟨rfl, rfl, rfl, rfl, rfl⟩ rfl rfl rfl rfl rfl (by kernel_rfl) Tryd.func3 (by kernel_rfl)
    (of_decide_eq_true (by kernel_rfl)) (by unfold Func.isWrapper; first | (rw [if_pos (by decide +kernel)]; kernel_rfl) | (rw [if_neg (by decide +kernel)]; exact ⟨rfl, rfl⟩))
    (fun os started H enc _ F => by rw [OpenClaim.pre_eq_preRow]; exact lifted os started H enc F)

/-- THE STATEMENT -/
theorem proved : Rows.SensorPartsCardSaid :=
  Claim7.holds_tied_plain_at .later [] _ _ _ _
    rowProved (fun _ h => by cases h) (by kernel_rfl) (fun _ h => by cases h) sensorParts_row_tie rfl ⟨rfl, rfl⟩ (by kernel_rfl) rfl
    (fun f fn hf hfn => by
      obtain rfl : f = 3 := Option.some.inj ((show Tryd.prog.funcNamed Rows.sensorPartsRow.func = some 3 by kernel_rfl).symm.trans hf) |>.symm
      obtain rfl : fn = Tryd.f3 := (Option.some.inj (Tryd.func3.symm.trans hfn)).symm
      exact ⟨by kernel_rfl, fun j t ht => by
        rw [Tryd.params3] at ht
        have h3 : t = 22 ∨ t = 23 ∨ t = 22 := by
          rcases j with _ | _ | _ | j
          · exact (.inl (by simpa using ht.symm))
          · exact (.inr (.inl (by simpa using ht.symm)))
          · exact (.inr (.inr (by simpa using ht.symm)))
          · simp at ht
        rcases h3 with rfl | rfl | rfl
        · exact (show Tryd.prog.wantsStandIn 22 = false by kernel_rfl)
        · exact (show Tryd.prog.wantsStandIn 23 = false by kernel_rfl)
        · exact (show Tryd.prog.wantsStandIn 22 = false by kernel_rfl)⟩)
    (by kernel_rfl)
#print axioms proved
end Go.Proofs.YtjpimamjcckieaaDoor.sensorParts
