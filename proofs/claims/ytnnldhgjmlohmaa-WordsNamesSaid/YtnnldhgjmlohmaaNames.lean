/- For every text s, words.Name and words.Unit answer as the document's own functions do (P1.1): the law WordsNames returns true for every input. Conditions: none. -/
import Derived.Test.YtnnldhgjmlohmaaRows
import Derived.Test.YtnnldhgjmlohmaaNm4
import Derived.WalkKit
import Derived.ProofKit
import Derived.OpenShut
import Derived.ShutString
namespace Go.Proofs.Ytnnldhgjmlohmaa.wordsNames
open Go.ChangeShapes Go.WideShapes Go.ChangeAt Go.RowKit
open Go.ChangeMaps (open_string shut_string)
set_option linter.unusedVariables false      -- a walk need not use every 'w<i>' (that an integer argument fits its kind)

theorem own : ownKnob Try.prog.godebug = none := by kernel_rfl

/-! ### STEP 1: THE WALK: the Go text returns true. 'Grown w w'': the world has at most new blocks (Derived/RowKit3.lean). Part the cases AHEAD of 'go_enter' where a test parts the walk; take each callee by a contract of your own. -/
theorem grown_drawn {W w w' : World} (h : Grown W w) (d : Drawn w w') : Grown W w' := by
  obtain ⟨n, rfl⟩ := d; exact h

set_option maxHeartbeats 1000000 in
theorem walk_no (s : ByteArray) (w0 : s.size ≤ maxLen) (w : World) (hn : isName s.data.toList = false) :
    Calls Try.prog 3 #[.string s] w fun e w' => e = .returned (.bool true) ∧ Grown w w' := by
  have HN := Lib.hid hn
  clear hn
  go_enter Try.func3, Try.ntmps3
  go_wp2_with (first
    | (go_at_call 5; refine (unit_no _ _ w0 HN.out).mono ?_; unfold unitNo; rintro e w1 ⟨rfl, n1, rfl⟩)
    | (go_at_call 6; refine (refUnit_no _ _ w0 HN.out).mono ?_; unfold unitNo; rintro e w1 ⟨rfl, n1, rfl⟩)
    | (go_at_call 7; refine (name_any _ _ w0).mono ?_; rintro e w1 ⟨rfl, rfl⟩; rw [nameE_no HN.out])
    | (go_at_call 8; refine (refName_any _ _ w0).mono ?_; rintro e w1 ⟨rfl, rfl⟩; rw [HN.out]))
  go_ret
  exact ⟨rfl, Grown.refl _⟩

set_option maxHeartbeats 1000000 in
theorem walk_all (s : ByteArray) (w0 : s.size ≤ maxLen) (w : World) (hn : isName s.data.toList = true) (hv : unitV s = unitAll s) :
    Calls Try.prog 3 #[.string s] w fun e w' => e = .returned (.bool true) ∧ Grown w w' := by
  have HN := Lib.hid hn
  have HV := Lib.hid hv
  have h31 := name_len hn
  clear hn hv
  go_enter Try.func3, Try.ntmps3
  go_wp2_with (first
    | (go_at_call 5; refine (unit_yes _ _ w0 HN.out h31).mono ?_; rw [HV.out]; unfold unitAll; rintro e w1 ⟨rfl, n1, rfl⟩)
    | (go_at_call 6; refine (refUnit_yes _ _ w0 HN.out h31).mono ?_; rw [HV.out]; unfold unitAll; rintro e w1 ⟨rfl, n1, rfl⟩)
    | (go_at_call 7; refine (name_any _ _ w0).mono ?_; rintro e w1 ⟨rfl, rfl⟩; rw [nameE_yes HN.out])
    | (go_at_call 8; refine (refName_any _ _ w0).mono ?_; rintro e w1 ⟨rfl, rfl⟩; rw [HN.out]))
  go_ret
  exact ⟨rfl, Grown.refl _⟩

set_option maxHeartbeats 1000000 in
theorem walk_at (s : ByteArray) (w0 : s.size ≤ maxLen) (w : World) (hn : isName s.data.toList = true) (i : Nat) (hv : unitV s = unitAt s i) :
    Calls Try.prog 3 #[.string s] w fun e w' => e = .returned (.bool true) ∧ Grown w w' := by
  have HN := Lib.hid hn
  have HV := Lib.hid hv
  have h31 := name_len hn
  clear hn hv
  generalize hx : s.extract 0 i = x
  generalize hy : s.extract (i + 1) s.size = y
  go_enter Try.func3, Try.ntmps3
  go_wp2_with (first
    | (go_at_call 5; refine (unit_yes _ _ w0 HN.out h31).mono ?_; rw [HV.out]; unfold unitAt; rintro e w1 ⟨rfl, n1, rfl⟩)
    | (go_at_call 6; refine (refUnit_yes _ _ w0 HN.out h31).mono ?_; rw [HV.out]; unfold unitAt; rintro e w1 ⟨rfl, n1, rfl⟩)
    | (go_at_call 7; refine (name_any _ _ w0).mono ?_; rintro e w1 ⟨rfl, rfl⟩; rw [nameE_yes HN.out])
    | (go_at_call 8; refine (refName_any _ _ w0).mono ?_; rintro e w1 ⟨rfl, rfl⟩; rw [HN.out]))
  go_ret
  exact ⟨rfl, Grown.refl _⟩

theorem walk (a0 : ByteArray) (w0 : a0.size ≤ maxLen) (w : World) :
    Calls Try.prog 3 #[.string a0] w fun e w' => e = .returned (.bool true) ∧ Grown w w' := by
  cases hn : isName a0.data.toList
  · exact walk_no a0 w0 w hn
  · by_cases hl : Lib.lastIndexByte a0 64 = -1
    · exact walk_all a0 w0 w hn (by unfold unitV; rw [if_pos hl])
    · exact walk_at a0 w0 w hn _ (by unfold unitV; rw [if_neg hl])

/-! ### THE ROW's STEP: WRITTEN OUT: LEAVE IT -/
set_option maxRecDepth 100000 in
theorem lifted (os : Os) (started : os.Started) (H : Type) (enc : TypeId × Value → H) :
    ReturnsInHanded {} Try.checked os 3 .any (Rows.wordsNamesSpec.pre6 enc Try.prog Try.f3 Rows.wordsNamesRow.domain false) (Rows.wordsNamesSpec.post enc Try.prog Try.f3 false true false false) := by
  refine returnsInHanded_of_change (C := Try.checked) own started (by kernel_rfl) Try.func3
    (ChangeSpec.witness6 (enc := enc) (C := Try.checked) false ⟨#[], #[.string ByteArray.empty], []⟩ 8 (by kernel_rfl) (by kernel_rfl) (by kernel_rfl) (by kernel_rfl)) ?_
  intro W base args ds gs before hval0 hW hcnd _
  have hval : ∀ (j : Nat) t v, Try.f3.params[j]? = some t → args[j]? = some v → Value.okWide Try.prog W .any base t v := hval0
  have hW' := hW
  obtain ⟨p, q, hA0, hV, rfl, hfz, hnd⟩ := hW
  have hA : DataW.TrodAll enc Try.prog W 0 (fun _ => true) true Try.f3.params.toList args.toList ds p := hA0
  rw [Try.params3] at hA hval
  obtain ⟨v0, vs0, d0, ds0, p0, q0, hargs, rfl, rfl, h0, r0⟩ := trodAll_cons hA
  obtain ⟨rfl, rfl, rfl⟩ := trodAll_nil r0
  obtain rfl : args = #[v0] := by cases args; simp_all
  obtain ⟨rfl, rfl⟩ := trodVars_none hV
  obtain ⟨a0, rfl, rfl, rfl, w0⟩ := open_string Try.underlying9 (hval 0 9 v0 rfl rfl) h0
  clear hA0 hval0
  simp only [List.append_nil] at hW'
  refine (walk a0 w0 W).mono fun e W' ⟨he, hg⟩ => ?_
  subst he
  exact ⟨_, rfl, post_of_same (pa := []) (pv := []) hW' (fun _ _ _ => (trodAll_cons_mk (shut_bool Try.underlying4 _) trodAll_mk0)) (fun sp _ => (trodAll_cons_mk (shut_string Try.underlying9 w0) trodAll_mk0)) (fun _ _ => rfl) rfl
    (hg.frame _) hg.2.1 (ok_one (by kernel_rfl) rfl (okWide_bool_mk Try.underlying4 _))⟩

theorem over : Rows.wordsNamesRow.holds Try.pinned (OpenSpec.ofChange Rows.wordsNamesSpec) :=
  OpenClaim.holds_of_wide 3 Try.f3 rfl rfl rfl rfl rfl rfl rfl ⟨rfl, rfl, rfl, rfl, rfl⟩ rfl rfl rfl rfl rfl (by kernel_rfl) Try.func3 (by kernel_rfl)
    (of_decide_eq_true (by kernel_rfl)) (by unfold Func.isWrapper; first | (rw [if_pos (by decide +kernel)]; kernel_rfl) | (rw [if_neg (by decide +kernel)]; exact ⟨rfl, rfl⟩))
    (fun os started H enc _ => lifted os started H enc)

/-- ████ THE STATEMENT ████ -/
theorem proved : Rows.WordsNamesSaid :=
  over
#print axioms proved
end Go.Proofs.Ytnnldhgjmlohmaa.wordsNames
