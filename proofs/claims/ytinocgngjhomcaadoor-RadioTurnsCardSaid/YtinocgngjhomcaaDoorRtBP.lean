/- Four quarters are none, and quarters one behind the other are quarters together; the Power stays; the Mix with turned signals of 1 is the signal turned (P12.6): the law RadioTurns returns true for every signal in eighths and all quarters. Conditions: the family's array holds what its text lays (the card ties it). -/
import Derived.Test.YtinocgngjhomcaaDoorRows
import Derived.Test.YtinocgngjhomcaaDoorCards
import Derived.Test.YtinocgngjhomcaaDoorTie
import Derived.Test.YtinocgngjhomcaaDoorRaT
import Derived.Test.YtinocgngjhomcaaDoorRtB
import Derived.Test.YtinocgngjhomcaaDoorRtI
import Derived.WalkKit
import Derived.ProofKit
import Derived.OpenShut
import Derived.ShutString
import Derived.Below
import Derived.SizedLaws
import Derived.JoinedCond
import Derived.Deep.DeepHandedRow
import Derived.Deep.DeepWitnessRowRef
import Derived.Lay
import Derived.LaidMore
import Derived.Stop.Joined
import Derived.Stop.LaidErr
import Derived.Lib.LaidTab
import Derived.Shelf.Vars
namespace Go.Proofs.YtinocgngjhomcaaDoor.radioTurns
open Go.ChangeShapes Go.WideShapes Go.ChangeAt Go.RowKit Rt
set_option linter.unusedVariables false

theorem own : ownKnob Tryd.prog.godebug = none := by kernel_rfl
theorem laidOut : laidOutB Tryd.prog = true := by kernel_rfl
theorem env_of {W : World} (h : laidMetH Tryd.prog Rows.radioTurnsRow.laid W) : Ra.Tb W := by
  rw [MakeChecks.laidMetH_plain _ _ _ (by kernel_rfl)] at h
  exact Ra.tb_of h
noncomputable def home (os : Os) : World := World.laidAll Tryd.prog os Rows.radioTurnsRow.laid
theorem home_met (os : Os) : laidMetH Tryd.prog Rows.radioTurnsRow.laid ((home os).forCall (fun _ _ => 0) ⟨#[], #[.agg #[.int .i32 0, .int .i32 0, .int .i64 0, .int .i64 0]], []⟩).memory := by
  rw [MakeChecks.laidMetH_plain _ _ _ (by kernel_rfl)]
  exact laidMet_laidAll _ (by kernel_rfl) (by kernel_rfl)
theorem home_shaped (os : Os) : ((home os).forCall (fun _ _ => 0) ⟨#[], #[.agg #[.int .i32 0, .int .i32 0, .int .i64 0, .int .i64 0]], []⟩).Shaped Tryd.prog := World.shaped_of_ZipB (by kernel_rfl) (by kernel_rfl)
set_option maxRecDepth 100000 in
theorem contract (H : Type) (enc : TypeId × Value → H) (W : World) (base : Nat) (args : Array Value) (ds gs : List (DataW H)) (before : List MemPlace)
    (hval : ∀ (j : Nat) t v, Tryd.f7.params[j]? = some t → args[j]? = some v → Value.okWide Tryd.prog W .any base t v)
    (hW : DataW.Whole enc Tryd.prog Tryd.f7.params.toList Rows.radioTurnsSpec.vars false W args.toList ds gs before) (hE : Ra.Tb W) :
    Calls Tryd.prog 7 args W fun e W' => ∃ v, e = .returned v ∧ Rows.radioTurnsSpec.post enc Tryd.prog Tryd.f7 false true false false W args v W' := by
  have hW' := hW
  obtain ⟨p, q, hA0, hV, rfl, hfz, hnd⟩ := hW
  have hA : DataW.TrodAll enc Tryd.prog W 0 (fun _ => true) true Tryd.f7.params.toList args.toList ds p := hA0
  rw [Tryd.params7] at hA hval
  obtain ⟨v0, vs0, d0, ds0, p0, q0, hargs, rfl, rfl, h0, r0⟩ := trodAll_cons hA
  obtain ⟨rfl, rfl, rfl⟩ := trodAll_nil r0
  obtain rfl : args = #[v0] := by cases args; simp_all
  obtain ⟨rfl, rfl⟩ := trodVars_none hV
  have k0 := h0
  have lt0 : ∀ x ∈ p0, x.block < W.heap.size := by obtain ⟨m, hm⟩ := k0; exact DataW.trod_lt m _ _ _ hm
  obtain ⟨re, im, a, b, rfl, rfl, wf0⟩ := Cin.trip_of h0
  clear hA0
  obtain ⟨wr, wi, _, _⟩ := wf0
  have br := wr
  have bi := wi
  simp [Lit.wf, IntKind.min, IntKind.max, IntKind.signed, IntKind.bits] at br bi
  refine (Rt.turns_any re im a b (by omega) (by omega) W hE).mono fun e W' ⟨he, bel⟩ => ?_
  subst he
  exact ⟨_, rfl, _, _, _, [], _, [], hW', trodAll_mk1 (shut_bool Tryd.underlying4 _), (trodAll_cons_mk (Below.trod laidOut (by kernel_rfl) (of_decide_eq_true (by kernel_rfl)) k0 bel lt0) trodAll_mk0), rfl, bel.frame _, fun h => by cases h⟩
theorem home_ok (os : Os) : Input.okWideB Tryd.prog ((home os).forCall (fun _ _ => 0) ⟨#[], #[.agg #[.int .i32 0, .int .i32 0, .int .i64 0, .int .i64 0]], []⟩) 7 ⟨#[], #[.agg #[.int .i32 0, .int .i32 0, .int .i64 0, .int .i64 0]], []⟩ = true := by kernel_rfl
theorem reads (os : Os) {H : Type} (enc : TypeId × Value → H) : ∃ places, DataW.whole enc Tryd.prog ((home os).forCall (fun _ _ => 0) ⟨#[], #[.agg #[.int .i32 0, .int .i32 0, .int .i64 0, .int .i64 0]], []⟩).memory Tryd.f7.params.toList Rows.radioTurnsSpec.vars false (#[.agg #[.int .i32 0, .int .i32 0, .int .i64 0, .int .i64 0]] : Array Value).toList 8 = some ([.agg [.lit (.int .i32 0), .lit (.int .i32 0), .lit (.int .i64 0), .lit (.int .i64 0)]], [], places) :=
  ⟨[], by kernel_rfl⟩

set_option maxRecDepth 100000 in
theorem lifted (os : Os) (started : os.Started) (H : Type) (enc : TypeId × Value → H) (F : Stop.Interp) :
    ReturnsInHanded {} Tryd.checked os 7 .any ((OpenSpec.ofChange Rows.radioTurnsSpec).preRow enc Tryd.prog Tryd.f7 Rows.radioTurnsRow.domain false Rows.radioTurnsRow.laid) (((OpenSpec.ofChange Rows.radioTurnsSpec).at F).post enc Tryd.prog Tryd.f7 false true false false) := by
  obtain ⟨places, hx⟩ := reads os enc
  have hm : ({ modest := false } : Assume).holds Tryd.prog (lone (Frame.enter Tryd.prog 7 #[.agg #[.int .i32 0, .int .i32 0, .int .i64 0, .int .i64 0]] .normal) [] ((home os).forCall (fun _ _ => 0) ⟨#[], #[.agg #[.int .i32 0, .int .i32 0, .int .i64 0, .int .i64 0]], []⟩)) := by
    simp only [Assume.holds]
    exact ⟨by simp, by simp, fun _ => Modest.zero, by simp, by simp⟩
  refine returnsInHanded_of_row (C := Tryd.checked) (s := OpenSpec.ofChange Rows.radioTurnsSpec) own started (by kernel_rfl) Tryd.func7
    ⟨home os, fun _ _ => 0, ⟨#[], #[.agg #[.int .i32 0, .int .i32 0, .int .i64 0, .int .i64 0]], []⟩, World.laidAll_os _ _ _, home_shaped os, (Input.okWide_of_okWideB (base := 0) (home_ok os)).1, (Input.okWide_of_okWideB (home_ok os)).2,
      OpenSpec.preRow_of_cond 8 hx (by kernel_rfl) (fun k hk => by cases hk) (by kernel_rfl) (home_met os), hm⟩ ?_
  intro W base args ds gs before hval hW _ hcond _ hL hs _
  exact contract H enc W base args ds gs before hval hW (env_of hL)

theorem rowProved : Rows.RadioTurnsSaid :=
  OpenClaim.holds_of_cond 7 Tryd.f7 rfl rfl rfl rfl rfl rfl rfl ⟨rfl, rfl, rfl, rfl, rfl⟩ rfl rfl rfl rfl rfl (by kernel_rfl) Tryd.func7 (by kernel_rfl)
    (of_decide_eq_true (by kernel_rfl)) (by unfold Func.isWrapper; first | (rw [if_pos (by decide +kernel)]; kernel_rfl) | (rw [if_neg (by decide +kernel)]; exact ⟨rfl, rfl⟩))
    (fun os started H enc _ F => by rw [OpenClaim.pre_eq_preRow]; exact lifted os started H enc F)

/-- THE STATEMENT -/
theorem proved : Rows.RadioTurnsCardSaid :=
  Claim7.holds_tied_plain_at .later [] _ _ _ _
    rowProved (fun _ h => by cases h) (by kernel_rfl) (fun _ h => by cases h) radioTurns_row_tie rfl ⟨rfl, rfl⟩ (by kernel_rfl) rfl
    (fun f fn hf hfn => by
      obtain rfl : f = 7 := Option.some.inj ((show Tryd.prog.funcNamed Rows.radioTurnsRow.func = some 7 by kernel_rfl).symm.trans hf) |>.symm
      obtain rfl : fn = Tryd.f7 := (Option.some.inj (Tryd.func7.symm.trans hfn)).symm
      exact ⟨by kernel_rfl, fun j t ht => by
        rw [Tryd.params7] at ht
        have h3 : t = 57 := by
          rcases j with _ | j
          · exact (by simpa using ht.symm)
          · simp at ht
        rcases h3 with rfl
        · exact (show Tryd.prog.wantsStandIn 57 = false by kernel_rfl)⟩)
    (by kernel_rfl)
#print axioms proved
end Go.Proofs.YtinocgngjhomcaaDoor.radioTurns
