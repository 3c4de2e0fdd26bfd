/- For any cards, any two cards and any level, the program's Check, Level and Same answer as the document's, what was handed in stays, and the same cards with other things written into them are checked as the document checks them (P7.1): the law CardChecks returns true for every input of bulk at most 1048576. -/
import Derived.Test.YtcbjmmehnfakkaaKcI
import Derived.Test.YtcbjmmehnfakkaaKcZ
namespace Go.Proofs.Ytcbjmmehnfakkaa.cardChecks
open Go.ChangeShapes Go.WideShapes Go.ChangeAt Go.RowKit Ro Kc Kin Kcin
set_option linter.unusedVariables false

theorem agg_of {cs : Array Value} {y : Cd × Sl} (h : cs.toList = KC.row y) : Value.agg cs = cardV y.1 y.2 := by
  have : cs = ⟨KC.row y⟩ := Array.ext' h
  rw [this]
  rfl
set_option maxRecDepth 100000 in
theorem contract (H : Type) (enc : TypeId × Value → H) (W : World) (base : Nat) (args : Array Value) (ds gs : List (DataW H)) (before : List MemPlace)
    (hval : ∀ (j : Nat) t v, Try.f4.params[j]? = some t → args[j]? = some v → Value.okWide Try.prog W .any base t v)
    (hW : DataW.Whole enc Try.prog Try.f4.params.toList Rows.cardChecksSpec.vars false W args.toList ds gs before) (hk : Rows.uptoSmall H (ds ++ gs) = true) :
    Calls Try.prog 4 args W fun e W' => ∃ v, e = .returned v ∧ Rows.cardChecksSpec.post enc Try.prog Try.f4 false true false false W args v W' := by
  have hW' := hW
  obtain ⟨p, q, hA0, hV, rfl, hfz, hnd⟩ := hW
  have hA : DataW.TrodAll enc Try.prog W 0 (fun _ => true) true Try.f4.params.toList args.toList ds p := hA0
  rw [Try.params4] at hA hval
  obtain ⟨v0, vs0, d0, ds0, p0, q0, hargs, rfl, rfl, h0, r0⟩ := trodAll_cons hA
  obtain ⟨v1, vs1, d1, ds1, p1, q1, rfl, rfl, rfl, h1, r1⟩ := trodAll_cons r0
  obtain ⟨v2, vs2, d2, ds2, p2, q2, rfl, rfl, rfl, h2, r2⟩ := trodAll_cons r1
  obtain ⟨v3, vs3, d3, ds3, p3, q3, rfl, rfl, rfl, h3, r3⟩ := trodAll_cons r2
  obtain ⟨rfl, rfl, rfl⟩ := trodAll_nil r3
  obtain rfl : args = #[v0, v1, v2, v3] := by cases args; simp_all
  obtain ⟨rfl, rfl⟩ := trodVars_none hV
  obtain ⟨a0, len0, cap0, rfl⟩ := okWide_slice Try.underlying25 (hval 0 25 v0 rfl rfl)
  obtain ⟨cs1, rfl, hsz1⟩ := okWide_struct Try.underlying30 (hval 1 30 v1 rfl rfl)
  obtain ⟨cs2, rfl, hsz2⟩ := okWide_struct Try.underlying30 (hval 2 30 v2 rfl rfl)
  obtain ⟨lv, rfl, rfl, rfl, wl⟩ := open_int Try.underlying5 (hval 3 5 v3 rfl rfl) h3
  have ce : Try.prog.cellsOf 30 = 7 := by kernel_rfl
  rw [ce] at hsz1 hsz2
  have k0 := h0
  have k1 := h1
  have k2 := h2
  have lt0 : ∀ x ∈ p0, x.block < W.heap.size := by obtain ⟨m, hm⟩ := k0; exact DataW.trod_lt m _ _ _ hm
  have lt1 : ∀ x ∈ p1, x.block < W.heap.size := by obtain ⟨m, hm⟩ := k1; exact DataW.trod_lt m _ _ _ hm
  have lt2 : ∀ x ∈ p2, x.block < W.heap.size := by obtain ⟨m, hm⟩ := k2; exact DataW.trod_lt m _ _ _ hm
  clear hA0
  have hk2 : Rows.uptoBulkAll [d0, d1, d2, DataW.lit (H := H) (.int .u8 lv)] ≤ 1048576 := by
    simp only [List.append_nil] at hk
    exact of_decide_eq_true hk
  simp only [Rows.uptoBulkAll] at hk2
  obtain ⟨L, R0, hr1, hr2, hr3, hr4⟩ : ∃ (L : List Cd) (R : List Sl), Ro.RowsIn KC W a0 len0 L R ∧ (∀ k, Neat (R.getD k sl0)) ∧ len0 ≤ cap0 ∧ MildL (Rows.uptoBulk d0) L := by
    obtain ⟨fuel, hf⟩ := h0
    exact cards_of hf
  obtain ⟨⟨a, r⟩, ya0, ya1, ya2, ya3, ya4, ya5, _⟩ : ∃ y : Cd × Sl, cs1.toList = KC.row y ∧ y.2.2.1 = y.1.compat.length ∧ CellsIn W 1 y.2.1 y.2.2.1 (strs y.1.compat) ∧ Neat y.2 ∧ y.2.2.1 ≤ y.2.2.2 ∧ MildC (Rows.uptoBulk d1) y.1 ∧ 1 ≤ Rows.uptoBulk d1 := by
    obtain ⟨fuel, hf⟩ := h1
    exact card_of hf hsz1
  obtain ⟨⟨b, s⟩, yb0, yb1, yb2, yb3, yb4, yb5, _⟩ : ∃ y : Cd × Sl, cs2.toList = KC.row y ∧ y.2.2.1 = y.1.compat.length ∧ CellsIn W 1 y.2.1 y.2.2.1 (strs y.1.compat) ∧ Neat y.2 ∧ y.2.2.1 ≤ y.2.2.2 ∧ MildC (Rows.uptoBulk d2) y.1 ∧ 1 ≤ Rows.uptoBulk d2 := by
    obtain ⟨fuel, hf⟩ := h2
    exact card_of hf hsz2
  have hlv : 0 ≤ lv := by
    simp [Lit.wf, IntKind.min, IntKind.max, IntKind.signed, IntKind.bits] at wl
    omega
  have ea := agg_of ya0
  have eb := agg_of yb0
  have hcall := walkChecks a0 cap0 len0 L R0 a b r s lv W hlv hr3 (hr4.mono (by omega)) (ya5.mono (by omega)) (yb5.mono (by omega)) hr1 hr2 ya1 yb1 ya2 yb2 ya3
  rw [← ea, ← eb] at hcall
  refine hcall.mono fun e W' ⟨he, bel⟩ => ?_
  subst he
  exact ⟨_, rfl, _, _, _, [], _, [], hW', trodAll_mk1 (shut_bool Try.underlying4 _), (trodAll_cons_mk (Below.trod Kin.laidOut (by kernel_rfl) (of_decide_eq_true (by kernel_rfl)) k0 bel lt0) (trodAll_cons_mk (Below.trod Kin.laidOut (by kernel_rfl) (of_decide_eq_true (by kernel_rfl)) k1 bel lt1)
    (trodAll_cons_mk (Below.trod Kin.laidOut (by kernel_rfl) (of_decide_eq_true (by kernel_rfl)) k2 bel lt2) (trodAll_cons_mk (shut_int Try.underlying5 wl) trodAll_mk0)))), rfl, bel.frame _, fun h => by cases h⟩

set_option maxRecDepth 100000 in
theorem lifted (os : Os) (started : os.Started) (H : Type) (enc : TypeId × Value → H) (F : Stop.Interp) :
    ReturnsInHanded {} Try.checked os 4 .any ((Rows.OpenSpec.upto Rows.cardChecksSpec).pre6 enc Try.prog Try.f4 Rows.cardChecksUptoRow.domain false) (((Rows.OpenSpec.upto Rows.cardChecksSpec).at F).post enc Try.prog Try.f4 false true false false) := by
  refine returnsInHanded_of_cond (C := Try.checked) (s := Rows.OpenSpec.upto Rows.cardChecksSpec) (k := Rows.uptoSmall) rfl own started (by kernel_rfl) Try.func4
    (OpenSpec.witness (enc := enc) (C := Try.checked) (s := Rows.OpenSpec.upto Rows.cardChecksSpec) (k := Rows.uptoSmall) rfl false ⟨#[], #[.slice none 0 0, .agg #[.string ⟨#[]⟩, .string ⟨#[]⟩, .int .u8 0, .slice none 0 0, .int .i8 0, .string ⟨#[]⟩, .int .i16 0], .agg #[.string ⟨#[]⟩, .string ⟨#[]⟩, .int .u8 0, .slice none 0 0, .int .i8 0, .string ⟨#[]⟩, .int .i16 0], .int .u8 0], []⟩ 8 (by kernel_rfl) (by kernel_rfl) (by kernel_rfl)
      (x := ([.nil, .agg [.lit (.string []), .lit (.string []), .lit (.int .u8 0), .nil, .lit (.int .i8 0), .lit (.string []), .lit (.int .i16 0)], .agg [.lit (.string []), .lit (.string []), .lit (.int .u8 0), .nil, .lit (.int .i8 0), .lit (.string []), .lit (.int .i16 0)], .lit (.int .u8 0)], [], [])) (by kernel_rfl) rfl (by kernel_rfl)) ?_
  intro W base args ds gs before hval hW _ hk _
  exact contract H enc W base args ds gs before hval hW hk

/-- THE STATEMENT -/
theorem proved : Rows.CardChecksUptoSaid :=
  OpenClaim.holds_of_cond 4 Try.f4 rfl rfl rfl rfl rfl rfl rfl ⟨rfl, rfl, rfl, rfl, rfl⟩ rfl rfl rfl rfl rfl (by kernel_rfl) Try.func4 (by kernel_rfl)
    (of_decide_eq_true (by kernel_rfl)) (by unfold Func.isWrapper; first | (rw [if_pos (by decide +kernel)]; kernel_rfl) | (rw [if_neg (by decide +kernel)]; exact ⟨rfl, rfl⟩))
    (fun os started H enc _ F => lifted os started H enc F)
#print axioms proved
end Go.Proofs.Ytcbjmmehnfakkaa.cardChecks
