/- Order answers as the document says, its lists are new memory, the list that came in stays, and a list asked again with other numbers in it is answered anew (P10.4): the law BusOrders returns true for every list and direction of bulk at most 1048576. Conditions: the family's array holds what its text lays (the card ties it). -/
import Derived.Test.YtjffemeeomogaaaDoorRows
import Derived.Test.YtjffemeeomogaaaDoorCards
import Derived.Test.YtjffemeeomogaaaDoorTie
import Derived.Test.YtjffemeeomogaaaDoorBuT
import Derived.Test.YtjffemeeomogaaaDoorBuI
import Derived.Test.YtjffemeeomogaaaDoorBuV
import Derived.WalkKit
import Derived.ProofKit
import Derived.OpenShut
import Derived.ShutString
import Derived.Below
import Derived.SizedLaws
import Derived.JoinedCond
import Derived.Deep.DeepHandedRow
import Derived.Deep.DeepWitnessRowRef
import Derived.Lay
import Derived.LaidMore
import Derived.Stop.Joined
import Derived.Stop.LaidErr
import Derived.Lib.LaidTab
import Derived.Shelf.Vars
namespace Go.Proofs.YtjffemeeomogaaaDoor.busOrders
open Go.ChangeShapes Go.WideShapes Go.ChangeAt Go.RowKit Bu
set_option linter.unusedVariables false

theorem own : ownKnob Tryd.prog.godebug = none := by kernel_rfl
theorem laidOut : laidOutB Tryd.prog = true := by kernel_rfl
theorem env_of {W : World} (h : laidMetH Tryd.prog Rows.busOrdersUptoRow.laid W) : Bu.Tb W := by
  rw [MakeChecks.laidMetH_plain _ _ _ (by kernel_rfl)] at h
  exact Bu.tb_of h
noncomputable def home (os : Os) : World := World.laidAll Tryd.prog os Rows.busOrdersUptoRow.laid
theorem home_met (os : Os) : laidMetH Tryd.prog Rows.busOrdersUptoRow.laid ((home os).forCall (fun _ _ => 0) ⟨#[], #[.slice none 0 0, .bool false], []⟩).memory := by
  rw [MakeChecks.laidMetH_plain _ _ _ (by kernel_rfl)]
  exact laidMet_laidAll _ (by kernel_rfl) (by kernel_rfl)
theorem home_shaped (os : Os) : ((home os).forCall (fun _ _ => 0) ⟨#[], #[.slice none 0 0, .bool false], []⟩).Shaped Tryd.prog := World.shaped_of_ZipB (by kernel_rfl) (by kernel_rfl)
set_option maxRecDepth 100000 in
theorem contract (H : Type) (enc : TypeId × Value → H) (W : World) (base : Nat) (args : Array Value) (ds gs : List (DataW H)) (before : List MemPlace)
    (hval : ∀ (j : Nat) t v, Tryd.f8.params[j]? = some t → args[j]? = some v → Value.okWide Tryd.prog W .any base t v)
    (hW : DataW.Whole enc Tryd.prog Tryd.f8.params.toList Rows.busOrdersSpec.vars false W args.toList ds gs before) (hk : Rows.uptoSmall H (ds ++ gs) = true) (hE : Bu.Tb W) :
    Calls Tryd.prog 8 args W fun e W' => ∃ v, e = .returned v ∧ Rows.busOrdersSpec.post enc Tryd.prog Tryd.f8 false true false false W args v W' := by
  have hW' := hW
  obtain ⟨p, q, hA0, hV, rfl, hfz, hnd⟩ := hW
  have hA : DataW.TrodAll enc Tryd.prog W 0 (fun _ => true) true Tryd.f8.params.toList args.toList ds p := hA0
  rw [Tryd.params8] at hA hval
  obtain ⟨v0, vs0, d0, ds0, p0, q0, hargs, rfl, rfl, h0, r0⟩ := trodAll_cons hA
  obtain ⟨v1, vs1, d1, ds1, p1, q1, rfl, rfl, rfl, h1, r1⟩ := trodAll_cons r0
  obtain ⟨rfl, rfl, rfl⟩ := trodAll_nil r1
  obtain rfl : args = #[v0, v1] := by cases args; simp_all
  obtain ⟨rfl, rfl⟩ := trodVars_none hV
  obtain ⟨a0, len0, cap0, rfl⟩ := okWide_slice Tryd.underlying70 (hval 0 70 v0 rfl rfl)
  have k0 := h0
  have lt0 : ∀ x ∈ p0, x.block < W.heap.size := by obtain ⟨m, hm⟩ := k0; exact DataW.trod_lt m _ _ _ hm
  obtain ⟨a1, rfl, rfl, rfl⟩ := open_bool Tryd.underlying4 (hval 1 4 v1 rfl rfl) h1
  clear hA0
  have hk2 : Rows.uptoBulkAll [d0, DataW.lit (H := H) (.bool a1)] ≤ 1048576 := by
    simp only [List.append_nil] at hk
    exact of_decide_eq_true hk
  simp only [Rows.uptoBulkAll] at hk2
  obtain ⟨y, hy0, hy1, hy2, hy3, hy4⟩ : ∃ y : Ro.Sl × List Int, Value.slice a0 len0 cap0 = Ro.slV y.1 ∧ y.1.2.1 = y.2.length ∧ Ro.CellsIn W 1 y.1.1 y.1.2.1 (Bu.ints y.2) ∧ Ro.Neat y.1 ∧ y.2.length ≤ Rows.uptoBulk d0 := by
    obtain ⟨fuel, hf⟩ := h0
    exact BCin.ints_of hf
  obtain ⟨⟨ya, yn, yc⟩, L⟩ := y
  simp only [Ro.slV] at hy0
  injection hy0 with e1 e2 e3
  subst e1 e2 e3
  refine (Bu.orders_any a0 cap0 len0 L a1 W hE hy1 (by have : len0 = L.length := hy1; have : L.length ≤ Rows.uptoBulk d0 := hy4; omega) hy2 hy3).mono fun e W' ⟨he, bel⟩ => ?_
  subst he
  exact ⟨_, rfl, _, _, _, [], _, [], hW', trodAll_mk1 (shut_bool Tryd.underlying4 _), (trodAll_cons_mk (Below.trod laidOut (by kernel_rfl) (of_decide_eq_true (by kernel_rfl)) k0 bel lt0) (trodAll_cons_mk (shut_bool Tryd.underlying4 a1) trodAll_mk0)), rfl, bel.frame _, fun h => by cases h⟩
theorem home_ok (os : Os) : Input.okWideB Tryd.prog ((home os).forCall (fun _ _ => 0) ⟨#[], #[.slice none 0 0, .bool false], []⟩) 8 ⟨#[], #[.slice none 0 0, .bool false], []⟩ = true := by kernel_rfl
theorem reads (os : Os) {H : Type} (enc : TypeId × Value → H) : ∃ places, DataW.whole enc Tryd.prog ((home os).forCall (fun _ _ => 0) ⟨#[], #[.slice none 0 0, .bool false], []⟩).memory Tryd.f8.params.toList Rows.busOrdersSpec.vars false (#[.slice none 0 0, .bool false] : Array Value).toList 8 = some ([.nil, .lit (.bool false)], [], places) :=
  ⟨[], by kernel_rfl⟩

set_option maxRecDepth 100000 in
theorem lifted (os : Os) (started : os.Started) (H : Type) (enc : TypeId × Value → H) (F : Stop.Interp) :
    ReturnsInHanded {} Tryd.checked os 8 .any ((Rows.OpenSpec.upto Rows.busOrdersSpec).preRow enc Tryd.prog Tryd.f8 Rows.busOrdersUptoRow.domain false Rows.busOrdersUptoRow.laid) (((Rows.OpenSpec.upto Rows.busOrdersSpec).at F).post enc Tryd.prog Tryd.f8 false true false false) := by
  obtain ⟨places, hx⟩ := reads os enc
  have hm : ({ modest := false } : Assume).holds Tryd.prog (lone (Frame.enter Tryd.prog 8 #[.slice none 0 0, .bool false] .normal) [] ((home os).forCall (fun _ _ => 0) ⟨#[], #[.slice none 0 0, .bool false], []⟩)) := by
    simp only [Assume.holds]
    exact ⟨by simp, by simp, fun _ => Modest.zero, by simp, by simp⟩
  refine returnsInHanded_of_row (C := Tryd.checked) (s := Rows.OpenSpec.upto Rows.busOrdersSpec) own started (by kernel_rfl) Tryd.func8
    ⟨home os, fun _ _ => 0, ⟨#[], #[.slice none 0 0, .bool false], []⟩, World.laidAll_os _ _ _, home_shaped os, (Input.okWide_of_okWideB (base := 0) (home_ok os)).1, (Input.okWide_of_okWideB (home_ok os)).2,
      OpenSpec.preRow_of_cond 8 hx (by kernel_rfl) (fun k hk => by cases hk; kernel_rfl) (by kernel_rfl) (home_met os), hm⟩ ?_
  intro W base args ds gs before hval hW _ hcond _ hL hs _
  exact contract H enc W base args ds gs before hval hW (hcond _ rfl) (env_of hL)

theorem rowProved : Rows.BusOrdersUptoSaid :=
  OpenClaim.holds_of_cond 8 Tryd.f8 rfl rfl rfl rfl rfl rfl rfl ⟨rfl, rfl, rfl, rfl, rfl⟩ rfl rfl rfl rfl rfl (by kernel_rfl) Tryd.func8 (by kernel_rfl)
    (of_decide_eq_true (by kernel_rfl)) (by unfold Func.isWrapper; first | (rw [if_pos (by decide +kernel)]; kernel_rfl) | (rw [if_neg (by decide +kernel)]; exact ⟨rfl, rfl⟩))
    (fun os started H enc _ F => by rw [OpenClaim.pre_eq_preRow]; exact lifted os started H enc F)

/-- THE STATEMENT -/
theorem proved : Rows.BusOrdersUptoCardSaid :=
  Claim7.holds_tied_plain_at .later [] _ _ _ _
    rowProved (fun _ h => by cases h) (by kernel_rfl) (fun _ h => by cases h) busOrdersUpto_row_tie rfl ⟨rfl, rfl⟩ (by kernel_rfl) rfl
    (fun f fn hf hfn => by
      obtain rfl : f = 8 := Option.some.inj ((show Tryd.prog.funcNamed Rows.busOrdersUptoRow.func = some 8 by kernel_rfl).symm.trans hf) |>.symm
      obtain rfl : fn = Tryd.f8 := (Option.some.inj (Tryd.func8.symm.trans hfn)).symm
      exact ⟨by kernel_rfl, fun j t ht => by
        rw [Tryd.params8] at ht
        have h3 : t = 70 ∨ t = 4 := by
          rcases j with _ | _ | j
          · exact (.inl (by simpa using ht.symm))
          · exact (.inr (by simpa using ht.symm))
          · simp at ht
        rcases h3 with rfl | rfl
        · exact (show Tryd.prog.wantsStandIn 70 = false by kernel_rfl)
        · exact (show Tryd.prog.wantsStandIn 4 = false by kernel_rfl)⟩)
    (by kernel_rfl)
#print axioms proved
end Go.Proofs.YtjffemeeomogaaaDoor.busOrders
