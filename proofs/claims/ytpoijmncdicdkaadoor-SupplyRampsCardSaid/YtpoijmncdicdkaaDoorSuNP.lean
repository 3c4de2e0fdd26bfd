/- Ramps are the same both ways, those of the way sum to the whole one but for rounding, and Code of as many steps is that many (P9.6, P9.4): the law SupplyRamps returns true for every trip. Conditions: the family's array holds what its text lays (the card ties it). -/
import Derived.Test.YtpoijmncdicdkaaDoorRows
import Derived.Test.YtpoijmncdicdkaaDoorCards
import Derived.Test.YtpoijmncdicdkaaDoorTie
import Derived.Test.YtpoijmncdicdkaaDoorSuT
import Derived.Test.YtpoijmncdicdkaaDoorSuN
import Derived.Test.YtpoijmncdicdkaaDoorSuJ
import Derived.WalkKit
import Derived.ProofKit
import Derived.OpenShut
import Derived.ShutString
import Derived.Below
import Derived.SizedLaws
import Derived.JoinedCond
import Derived.Deep.DeepHandedRow
import Derived.Deep.DeepWitnessRowRef
import Derived.Lay
import Derived.LaidMore
import Derived.Stop.Joined
import Derived.Stop.LaidErr
import Derived.Lib.LaidTab
import Derived.Shelf.Vars
namespace Go.Proofs.YtpoijmncdicdkaaDoor.supplyRamps
open Go.ChangeShapes Go.WideShapes Go.ChangeAt Go.RowKit Su
set_option linter.unusedVariables false

theorem own : ownKnob Tryd.prog.godebug = none := by kernel_rfl
theorem laidOut : laidOutB Tryd.prog = true := by kernel_rfl
theorem env_of {W : World} (h : laidMetH Tryd.prog Rows.supplyRampsRow.laid W) : Su.Tb W := by
  rw [MakeChecks.laidMetH_plain _ _ _ (by kernel_rfl)] at h
  exact Su.tb_of h
noncomputable def home (os : Os) : World := World.laidAll Tryd.prog os Rows.supplyRampsRow.laid
theorem home_met (os : Os) : laidMetH Tryd.prog Rows.supplyRampsRow.laid ((home os).forCall (fun _ _ => 0) ⟨#[], #[.agg #[.int .i64 0, .int .i64 0, .int .u16 0, .int .i16 0]], []⟩).memory := by
  rw [MakeChecks.laidMetH_plain _ _ _ (by kernel_rfl)]
  exact laidMet_laidAll _ (by kernel_rfl) (by kernel_rfl)
theorem home_shaped (os : Os) : ((home os).forCall (fun _ _ => 0) ⟨#[], #[.agg #[.int .i64 0, .int .i64 0, .int .u16 0, .int .i16 0]], []⟩).Shaped Tryd.prog := World.shaped_of_ZipB (by kernel_rfl) (by kernel_rfl)
set_option maxRecDepth 100000 in
theorem contract (H : Type) (enc : TypeId × Value → H) (W : World) (base : Nat) (args : Array Value) (ds gs : List (DataW H)) (before : List MemPlace)
    (hval : ∀ (j : Nat) t v, Tryd.f8.params[j]? = some t → args[j]? = some v → Value.okWide Tryd.prog W .any base t v)
    (hW : DataW.Whole enc Tryd.prog Tryd.f8.params.toList Rows.supplyRampsSpec.vars false W args.toList ds gs before) (hE : Su.Tb W) :
    Calls Tryd.prog 8 args W fun e W' => ∃ v, e = .returned v ∧ Rows.supplyRampsSpec.post enc Tryd.prog Tryd.f8 false true false false W args v W' := by
  have hW' := hW
  obtain ⟨p, q, hA0, hV, rfl, hfz, hnd⟩ := hW
  have hA : DataW.TrodAll enc Tryd.prog W 0 (fun _ => true) true Tryd.f8.params.toList args.toList ds p := hA0
  rw [Tryd.params8] at hA hval
  obtain ⟨v0, vs0, d0, ds0, p0, q0, hargs, rfl, rfl, h0, r0⟩ := trodAll_cons hA
  obtain ⟨rfl, rfl, rfl⟩ := trodAll_nil r0
  obtain rfl : args = #[v0] := by cases args; simp_all
  obtain ⟨rfl, rfl⟩ := trodVars_none hV
  have k0 := h0
  have lt0 : ∀ x ∈ p0, x.block < W.heap.size := by obtain ⟨m, hm⟩ := k0; exact DataW.trod_lt m _ _ _ hm
  obtain ⟨i, k, u, t, rfl, rfl, wf0⟩ := Cin.trip_of h0
  clear hA0
  obtain ⟨_, _, wu, wt⟩ := wf0
  have bu := bounds_u16 wu
  have bt := bounds_i16 wt
  refine (Su.ramps_any i k u t W hE bu.1 bu.2 bt.1 bt.2).mono fun e W' ⟨he, bel⟩ => ?_
  subst he
  exact ⟨_, rfl, _, _, _, [], _, [], hW', trodAll_mk1 (shut_bool Tryd.underlying4 _), (trodAll_cons_mk (Below.trod laidOut (by kernel_rfl) (of_decide_eq_true (by kernel_rfl)) k0 bel lt0) trodAll_mk0), rfl, bel.frame _, fun h => by cases h⟩
theorem home_ok (os : Os) : Input.okWideB Tryd.prog ((home os).forCall (fun _ _ => 0) ⟨#[], #[.agg #[.int .i64 0, .int .i64 0, .int .u16 0, .int .i16 0]], []⟩) 8 ⟨#[], #[.agg #[.int .i64 0, .int .i64 0, .int .u16 0, .int .i16 0]], []⟩ = true := by kernel_rfl
theorem reads (os : Os) {H : Type} (enc : TypeId × Value → H) : ∃ places, DataW.whole enc Tryd.prog ((home os).forCall (fun _ _ => 0) ⟨#[], #[.agg #[.int .i64 0, .int .i64 0, .int .u16 0, .int .i16 0]], []⟩).memory Tryd.f8.params.toList Rows.supplyRampsSpec.vars false (#[.agg #[.int .i64 0, .int .i64 0, .int .u16 0, .int .i16 0]] : Array Value).toList 8 = some ([.agg [.lit (.int .i64 0), .lit (.int .i64 0), .lit (.int .u16 0), .lit (.int .i16 0)]], [], places) :=
  ⟨[], by kernel_rfl⟩

set_option maxRecDepth 100000 in
theorem lifted (os : Os) (started : os.Started) (H : Type) (enc : TypeId × Value → H) (F : Stop.Interp) :
    ReturnsInHanded {} Tryd.checked os 8 .any ((OpenSpec.ofChange Rows.supplyRampsSpec).preRow enc Tryd.prog Tryd.f8 Rows.supplyRampsRow.domain false Rows.supplyRampsRow.laid) (((OpenSpec.ofChange Rows.supplyRampsSpec).at F).post enc Tryd.prog Tryd.f8 false true false false) := by
  obtain ⟨places, hx⟩ := reads os enc
  have hm : ({ modest := false } : Assume).holds Tryd.prog (lone (Frame.enter Tryd.prog 8 #[.agg #[.int .i64 0, .int .i64 0, .int .u16 0, .int .i16 0]] .normal) [] ((home os).forCall (fun _ _ => 0) ⟨#[], #[.agg #[.int .i64 0, .int .i64 0, .int .u16 0, .int .i16 0]], []⟩)) := by
    simp only [Assume.holds]
    exact ⟨by simp, by simp, fun _ => Modest.zero, by simp, by simp⟩
  refine returnsInHanded_of_row (C := Tryd.checked) (s := OpenSpec.ofChange Rows.supplyRampsSpec) own started (by kernel_rfl) Tryd.func8
    ⟨home os, fun _ _ => 0, ⟨#[], #[.agg #[.int .i64 0, .int .i64 0, .int .u16 0, .int .i16 0]], []⟩, World.laidAll_os _ _ _, home_shaped os, (Input.okWide_of_okWideB (base := 0) (home_ok os)).1, (Input.okWide_of_okWideB (home_ok os)).2,
      OpenSpec.preRow_of_cond 8 hx (by kernel_rfl) (fun k hk => by cases hk) (by kernel_rfl) (home_met os), hm⟩ ?_
  intro W base args ds gs before hval hW _ hcond _ hL hs _
  exact contract H enc W base args ds gs before hval hW (env_of hL)

theorem rowProved : Rows.SupplyRampsSaid :=
  OpenClaim.holds_of_cond 8 Tryd.f8 rfl rfl rfl rfl rfl rfl rfl ⟨rfl, rfl, rfl, rfl, rfl⟩ rfl rfl rfl rfl rfl (by kernel_rfl) Tryd.func8 (by kernel_rfl)
    (of_decide_eq_true (by kernel_rfl)) (by unfold Func.isWrapper; first | (rw [if_pos (by decide +kernel)]; kernel_rfl) | (rw [if_neg (by decide +kernel)]; exact ⟨rfl, rfl⟩))
    (fun os started H enc _ F => by rw [OpenClaim.pre_eq_preRow]; exact lifted os started H enc F)

/-- THE STATEMENT -/
theorem proved : Rows.SupplyRampsCardSaid :=
  Claim7.holds_tied_plain_at .later [] _ _ _ _
    rowProved (fun _ h => by cases h) (by kernel_rfl) (fun _ h => by cases h) supplyRamps_row_tie rfl ⟨rfl, rfl⟩ (by kernel_rfl) rfl
    (fun f fn hf hfn => by
      obtain rfl : f = 8 := Option.some.inj ((show Tryd.prog.funcNamed Rows.supplyRampsRow.func = some 8 by kernel_rfl).symm.trans hf) |>.symm
      obtain rfl : fn = Tryd.f8 := (Option.some.inj (Tryd.func8.symm.trans hfn)).symm
      exact ⟨by kernel_rfl, fun j t ht => by
        rw [Tryd.params8] at ht
        have h3 : t = 83 := by
          rcases j with _ | j
          · exact (by simpa using ht.symm)
          · simp at ht
        rcases h3 with rfl
        · exact (show Tryd.prog.wantsStandIn 83 = false by kernel_rfl)⟩)
    (by kernel_rfl)
#print axioms proved
end Go.Proofs.YtpoijmncdicdkaaDoor.supplyRamps
