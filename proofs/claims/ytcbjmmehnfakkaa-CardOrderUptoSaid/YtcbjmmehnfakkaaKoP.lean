/- For any cards, any picks and any moment: entered in whatever order, each card stands, or is refused, or was answered another error; what stands may be a list of cards, is in order, and where no two have one name and each may be all stand; a registry frozen in the midst keeps what it had (P7.4, the stage's theorem): the law CardOrder returns true for every input of bulk at most 1048576. -/
import Derived.Test.YtcbjmmehnfakkaaKcI
import Derived.Test.YtcbjmmehnfakkaaKoA
namespace Go.Proofs.Ytcbjmmehnfakkaa.cardOrder
open Go.ChangeShapes Go.WideShapes Go.ChangeAt Go.RowKit Ro Kc Kin Kcin Ko
set_option linter.unusedVariables false

/-- Numbers that came in. -/
theorem ints_of {H : Type} {enc : TypeId × Value → H} {W : World} {base : Nat} {sp : Nat → Bool} {hd : Bool} {fuel : Nat} {v : Value} {x : DataW H × List MemPlace}
    (h : DataW.trod enc Try.prog W base sp hd fuel 70 [v] = some x) : ∃ y : Sl × List Int, v = slV y.1 ∧ y.1.2.1 = y.2.length ∧ CellsIn W 1 y.1.1 y.1.2.1 (Ka.i64s y.2) ∧ Neat y.1 ∧ y.2.length ≤ Rows.uptoBulk x.1 := by
  rcases open_ints Try.underlying70 Try.underlying3 (by kernel_rfl) h with ⟨hcs, hx⟩ | ⟨a, len, cap, zs, hcs, _, hl, hm, hz, hx, hcell, hwf⟩
  · exact ⟨((none, 0, 0), []), by simpa [slV] using hcs, rfl, ⟨rfl, .inl rfl⟩, fun _ => rfl, Nat.zero_le _⟩
  · have hlz : len ≤ zs.length := by rw [hz]; split <;> omega
    have hL : (zs.take len).length = len := by simp; omega
    refine ⟨((some a, len, cap), zs.take len), by simpa [slV] using hcs, hL.symm, cells_of (by decide) (by rw [Ka.i64s_len, hL]; show len = len * 1; omega) fun j u hu => ?_, (fun e => by cases e), ?_⟩
    · have hj : j < len := by
        have := (List.getElem?_eq_some_iff.1 hu).1
        rw [Ka.i64s_len, hL] at this
        exact this
      rw [Ka.i64s_at (zs.take len) j (by rw [hL]; exact hj), getD_take _ _ _ _ hj] at hu
      injection hu with hu
      rw [← hu]
      exact hcell j (by omega)
    · rw [hx]
      simp only [Rows.uptoBulk, bulk_lits]
      omega
theorem mildL_up {M N : Nat} {L : List Cd} (h : MildL M L) (hn : M ≤ N) : MildL N L := ⟨Nat.le_trans h.1 hn, fun k =>
  have h := h.2 k
  ⟨Nat.le_trans h.1 hn, Nat.le_trans h.2.1 hn, Nat.le_trans h.2.2.1 hn, Nat.le_trans h.2.2.2.1 hn, fun k => Nat.le_trans (h.2.2.2.2 k) hn⟩⟩
set_option maxRecDepth 100000 in
theorem contract (H : Type) (enc : TypeId × Value → H) (W : World) (base : Nat) (args : Array Value) (ds gs : List (DataW H)) (before : List MemPlace)
    (hval : ∀ (j : Nat) t v, Try.f7.params[j]? = some t → args[j]? = some v → Value.okWide Try.prog W .any base t v)
    (hW : DataW.Whole enc Try.prog Try.f7.params.toList Rows.cardOrderSpec.vars false W args.toList ds gs before) (hk : Rows.uptoSmall H (ds ++ gs) = true) :
    Calls Try.prog 7 args W fun e W' => ∃ v, e = .returned v ∧ Rows.cardOrderSpec.post enc Try.prog Try.f7 false true false false W args v W' := by
  have hW' := hW
  obtain ⟨p, q, hA0, hV, rfl, hfz, hnd⟩ := hW
  have hA : DataW.TrodAll enc Try.prog W 0 (fun _ => true) true Try.f7.params.toList args.toList ds p := hA0
  rw [Try.params7] at hA hval
  obtain ⟨v0, vs0, d0, ds0, p0, q0, hargs, rfl, rfl, h0, r0⟩ := trodAll_cons hA
  obtain ⟨v1, vs1, d1, ds1, p1, q1, rfl, rfl, rfl, h1, r1⟩ := trodAll_cons r0
  obtain ⟨v2, vs2, d2, ds2, p2, q2, rfl, rfl, rfl, h2, r2⟩ := trodAll_cons r1
  obtain ⟨rfl, rfl, rfl⟩ := trodAll_nil r2
  obtain rfl : args = #[v0, v1, v2] := by cases args; simp_all
  obtain ⟨rfl, rfl⟩ := trodVars_none hV
  obtain ⟨a0, len0, cap0, rfl⟩ := okWide_slice Try.underlying25 (hval 0 25 v0 rfl rfl)
  obtain ⟨a1, len1, cap1, rfl⟩ := okWide_slice Try.underlying70 (hval 1 70 v1 rfl rfl)
  obtain ⟨z, rfl, rfl, rfl, wz⟩ := open_int Try.underlying3 (hval 2 3 v2 rfl rfl) h2
  have k0 := h0
  have k1 := h1
  have lt0 : ∀ x ∈ p0, x.block < W.heap.size := by obtain ⟨m, hm⟩ := k0; exact DataW.trod_lt m _ _ _ hm
  have lt1 : ∀ x ∈ p1, x.block < W.heap.size := by obtain ⟨m, hm⟩ := k1; exact DataW.trod_lt m _ _ _ hm
  clear hA0
  have hk2 : Rows.uptoBulkAll [d0, d1, DataW.lit (H := H) (.int .i64 z)] ≤ 1048576 := by
    simp only [List.append_nil] at hk
    exact of_decide_eq_true hk
  simp only [Rows.uptoBulkAll] at hk2
  obtain ⟨L, R0, hr1, hr2, hr3, hr4⟩ : ∃ (L : List Cd) (R : List Sl), Ro.RowsIn KC W a0 len0 L R ∧ (∀ k, Neat (R.getD k sl0)) ∧ len0 ≤ cap0 ∧ MildL (Rows.uptoBulk d0) L := by
    obtain ⟨fuel, hf⟩ := h0
    exact cards_of hf
  obtain ⟨y, hy0, hy1, hy2, hy3, hy4⟩ : ∃ y : Sl × List Int, Value.slice a1 len1 cap1 = slV y.1 ∧ y.1.2.1 = y.2.length ∧ CellsIn W 1 y.1.1 y.1.2.1 (Ka.i64s y.2) ∧ Neat y.1 ∧ y.2.length ≤ Rows.uptoBulk d1 := by
    obtain ⟨fuel, hf⟩ := h1
    exact ints_of hf
  obtain ⟨⟨ya, yn, yc⟩, l⟩ := y
  simp only [slV] at hy0 hy1 hy2 hy3 hy4
  injection hy0 with e1 e2 e3
  subst e1 e2 e3
  have hn : len0 = L.length := hr1.1
  have hl := hr4.1
  refine (order_any a0 a1 cap0 cap1 len0 len1 z L R0 l W (mildL_up hr4 (by omega)) hr3 (by omega) hr1 hr2 hy1 (by omega) hy2).mono fun e W' ⟨he, bel⟩ => ?_
  subst he
  exact ⟨_, rfl, _, _, _, [], _, [], hW', trodAll_mk1 (shut_bool Try.underlying4 _), (trodAll_cons_mk (Below.trod Kin.laidOut (by kernel_rfl) (of_decide_eq_true (by kernel_rfl)) k0 bel lt0) (trodAll_cons_mk (Below.trod Kin.laidOut (by kernel_rfl) (of_decide_eq_true (by kernel_rfl)) k1 bel lt1)
    (trodAll_cons_mk (shut_int Try.underlying3 wz) trodAll_mk0))), rfl, bel.frame _, fun h => by cases h⟩

set_option maxRecDepth 100000 in
theorem lifted (os : Os) (started : os.Started) (H : Type) (enc : TypeId × Value → H) (F : Stop.Interp) :
    ReturnsInHanded {} Try.checked os 7 .any ((Rows.OpenSpec.upto Rows.cardOrderSpec).pre6 enc Try.prog Try.f7 Rows.cardOrderUptoRow.domain false) (((Rows.OpenSpec.upto Rows.cardOrderSpec).at F).post enc Try.prog Try.f7 false true false false) := by
  refine returnsInHanded_of_cond (C := Try.checked) (s := Rows.OpenSpec.upto Rows.cardOrderSpec) (k := Rows.uptoSmall) rfl own started (by kernel_rfl) Try.func7
    (OpenSpec.witness (enc := enc) (C := Try.checked) (s := Rows.OpenSpec.upto Rows.cardOrderSpec) (k := Rows.uptoSmall) rfl false ⟨#[], #[.slice none 0 0, .slice none 0 0, .int .i64 0], []⟩ 8 (by kernel_rfl) (by kernel_rfl) (by kernel_rfl)
      (x := ([.nil, .nil, .lit (.int .i64 0)], [], [])) (by kernel_rfl) rfl (by kernel_rfl)) ?_
  intro W base args ds gs before hval hW _ hk _
  exact contract H enc W base args ds gs before hval hW hk

/-- THE STATEMENT -/
theorem proved : Rows.CardOrderUptoSaid :=
  OpenClaim.holds_of_cond 7 Try.f7 rfl rfl rfl rfl rfl rfl rfl ⟨rfl, rfl, rfl, rfl, rfl⟩ rfl rfl rfl rfl rfl (by kernel_rfl) Try.func7 (by kernel_rfl)
    (of_decide_eq_true (by kernel_rfl)) (by unfold Func.isWrapper; first | (rw [if_pos (by decide +kernel)]; kernel_rfl) | (rw [if_neg (by decide +kernel)]; exact ⟨rfl, rfl⟩))
    (fun os started H enc _ F => lifted os started H enc F)
#print axioms proved
end Go.Proofs.Ytcbjmmehnfakkaa.cardOrder
