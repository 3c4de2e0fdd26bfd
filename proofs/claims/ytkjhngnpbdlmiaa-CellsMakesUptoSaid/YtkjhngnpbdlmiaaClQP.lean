/- For all lists of cells, of pairs and of texts, cells.OfU32s, OfU64s and OfTexts answer as the document's own functions do, and the lists stay (P2.1): the law CellsMakes returns true for every input of bulk at most 1048576. -/
import Derived.Test.YtkjhngnpbdlmiaaRows
import Derived.Test.YtkjhngnpbdlmiaaClQ
import Derived.WalkKit
import Derived.ProofKit
import Derived.OpenShut
import Derived.ShutString
import Derived.ChangeOld
import Derived.SliceStrings
import Derived.Below
import Derived.JoinedCond
namespace Go.Proofs.Ytkjhngnpbdlmiaa.cellsMakes
open Go.ChangeShapes Go.WideShapes Go.ChangeAt Go.RowKit
set_option linter.unusedVariables false

theorem own : ownKnob Try.prog.godebug = none := by kernel_rfl
theorem laidOut : laidOutB Try.prog = true := by kernel_rfl

theorem bulk_len {H : Type} (l : List (DataW H)) : l.length ≤ Rows.uptoBulkAll l := by
  induction l with
  | nil => simp [Rows.uptoBulkAll]
  | cons d r ih =>
    have h1 : 1 ≤ Rows.uptoBulk d := by
      cases d with
      | lit x => cases x <;> simp [Rows.uptoBulk]
      | nil => simp [Rows.uptoBulk]
      | ptr d => simp [Rows.uptoBulk]
      | slice a b => simp [Rows.uptoBulk]
      | agg a => simp [Rows.uptoBulk]
      | iface a b => simp [Rows.uptoBulk]
      | map a => simp [Rows.uptoBulk]
      | held a => simp [Rows.uptoBulk]
    simp only [Rows.uptoBulkAll, List.length_cons]
    omega
theorem bulk_strs {H : Type} : ∀ ss : List ByteArray, (Cl.vT ss).length ≤ Rows.uptoBulkAll (H := H) (Go.ChangeShapes.strs ss)
  | [] => by simp [Cl.vT]
  | s :: ss => by
    have ih := bulk_strs (H := H) ss
    have e : s.data.toList.length = s.size := rfl
    have h2 : (Cl.vT (s :: ss)).length = s.size + 1 + (Cl.vT ss).length := by
      simp only [Cl.vT, List.flatMap_cons, List.length_append, List.length_cons, List.length_nil]
      omega
    have h3 : Rows.uptoBulkAll (H := H) (Go.ChangeShapes.strs (s :: ss)) = s.size + 1 + Rows.uptoBulkAll (H := H) (Go.ChangeShapes.strs ss) := by
      simp only [Go.ChangeShapes.strs, List.map_cons, Rows.uptoBulkAll, Rows.uptoBulk]
      omega
    omega

/-- A slice of numbers that came in. -/
theorem ints_of {H : Type} {enc : TypeId × Value → H} {W : World} {base : Nat} {sp : Nat → Bool} {hd : Bool} {fuel : Nat} {A : Option Addr} {len cap : Nat} {x : DataW H × List MemPlace} {t e : TypeId} {k : IntKind} {b : Nat}
    (ht : Try.prog.underlying t = some (.slice e)) (he : Try.prog.underlying e = some (.int k)) (hc : Try.prog.cellsOf e = 1) (hk : ∀ n : Int, (Lit.int k n).wf = true → 0 ≤ n ∧ n < b)
    (h : DataW.trod enc Try.prog W base sp hd fuel t [.slice A len cap] = some x) : ∃ xs : List Nat, len = xs.length ∧ len ≤ Rows.uptoBulk x.1 ∧ Cl.Lim b xs ∧ Own.Src W A len cap (Cl.nats k xs) := by
  rcases open_ints ht he hc h with ⟨hcs, _⟩ | ⟨a, l, c, zs, hcs, _, hl, hm, hz, hx, hcell, hwf⟩
  · simp at hcs
    obtain ⟨rfl, rfl, rfl⟩ := hcs
    exact ⟨[], rfl, Nat.zero_le _, fun i hi => by simp at hi, .inl ⟨rfl, rfl, rfl, rfl⟩⟩
  · simp at hcs
    obtain ⟨rfl, rfl, rfl⟩ := hcs
    have hlz : len ≤ zs.length := by rw [hz]; split <;> omega
    have hnn : ∀ i, i < len → 0 ≤ zs.getD i 0 ∧ zs.getD i 0 < b := fun i hi => by
      have hi' : i < zs.length := by omega
      refine hk _ (hwf _ ?_)
      rw [List.getD_eq_getElem?_getD, List.getElem?_eq_getElem hi']
      exact List.getElem_mem hi'
    have hlen : ((zs.take len).map Int.toNat).length = len := by simp; omega
    have hat : ∀ i, i < len → ((zs.take len).map Int.toNat).getD i 0 = (zs.getD i 0).toNat := fun i hi => by
      have hi' : i < zs.length := by omega
      rw [List.getD_eq_getElem?_getD, List.getElem?_map, List.getElem?_take, if_pos hi, List.getElem?_eq_getElem hi', List.getD_eq_getElem?_getD, List.getElem?_eq_getElem hi']
      rfl
    refine ⟨(zs.take len).map Int.toNat, hlen.symm, ?_, fun i hi => ?_, .inr ⟨a, rfl, by rw [Cl.nats_len, hlen], fun j u hu => ?_⟩⟩
    · rw [hx]
      have h1 := bulk_len (H := H) (lits k (zs.take len))
      simp only [Rows.uptoBulk]
      simp only [lits, List.length_map, List.length_take] at h1
      simp only [lits]
      omega
    · rw [hat i (by omega)]
      have := hnn i (by omega)
      omega
    · have hj : j < len := by
        have := (List.getElem?_eq_some_iff.1 hu).1
        rw [Cl.nats_len, hlen] at this
        exact this
      rw [Cl.nats_at k _ j (by omega), hat j hj] at hu
      injection hu with hu
      subst hu
      have h1 := hnn j hj
      rw [Int.toNat_of_nonneg h1.1]
      exact hcell j (by omega)
theorem strs_of {H : Type} {enc : TypeId × Value → H} {W : World} {base : Nat} {sp : Nat → Bool} {hd : Bool} {fuel : Nat} {A : Option Addr} {len cap : Nat} {x : DataW H × List MemPlace}
    (h : DataW.trod enc Try.prog W base sp hd fuel 29 [.slice A len cap] = some x) : ∃ ls : List ByteArray, len = ls.length ∧ len ≤ Rows.uptoBulk x.1 ∧ (Cl.vT ls).length ≤ Rows.uptoBulk x.1 ∧ Own.Src W A len cap (Cl.strs ls) := by
  rcases open_strings Try.underlying29 Try.underlying9 (by kernel_rfl) h with ⟨hcs, _⟩ | ⟨a, l, c, ss, hcs, _, hl, hm, hz, hx, hcell, hwf⟩
  · simp at hcs
    obtain ⟨rfl, rfl, rfl⟩ := hcs
    exact ⟨[], rfl, Nat.zero_le _, Nat.zero_le _, .inl ⟨rfl, rfl, rfl, rfl⟩⟩
  · simp at hcs
    obtain ⟨rfl, rfl, rfl⟩ := hcs
    have hlz : len ≤ ss.length := by rw [hz]; split <;> omega
    have hlen : (ss.take len).length = len := by simp; omega
    refine ⟨ss.take len, hlen.symm, ?_, ?_, .inr ⟨a, rfl, by rw [Cl.strs_len, hlen], fun j u hu => ?_⟩⟩
    · rw [hx]
      have h1 := bulk_len (H := H) (Go.ChangeShapes.strs (ss.take len))
      simp only [Go.ChangeShapes.strs, List.length_map, List.length_take] at h1
      simp only [Rows.uptoBulk, Go.ChangeShapes.strs]
      omega
    · rw [hx]
      have h1 := bulk_strs (H := H) (ss.take len)
      simp only [Rows.uptoBulk]
      omega
    · have hj : j < len := by
        have := (List.getElem?_eq_some_iff.1 hu).1
        rw [Cl.strs_len, hlen] at this
        exact this
      have hj' : j < ss.length := by omega
      rw [Cl.strs_at _ j (by omega)] at hu
      injection hu with hu
      subst hu
      have h1 := hcell j hj'
      rw [h1]
      congr 2
      rw [List.getD_eq_getElem?_getD, List.getD_eq_getElem?_getD, List.getElem?_take, if_pos hj]

theorem contract (H : Type) (enc : TypeId × Value → H) (W : World) (base : Nat) (args : Array Value) (ds gs : List (DataW H)) (before : List MemPlace)
    (hval : ∀ (j : Nat) t v, Try.f4.params[j]? = some t → args[j]? = some v → Value.okWide Try.prog W .any base t v)
    (hW : DataW.Whole enc Try.prog Try.f4.params.toList Rows.cellsMakesSpec.vars false W args.toList ds gs before) (hk : Rows.uptoSmall H (ds ++ gs) = true) :
    Calls Try.prog 4 args W fun e W' => ∃ v, e = .returned v ∧ Rows.cellsMakesSpec.post enc Try.prog Try.f4 false true false false W args v W' := by
  have hW' := hW
  obtain ⟨p, q, hA0, hV, rfl, hfz, hnd⟩ := hW
  have hA : DataW.TrodAll enc Try.prog W 0 (fun _ => true) true Try.f4.params.toList args.toList ds p := hA0
  rw [Try.params4] at hA hval
  obtain ⟨v0, vs0, d0, ds0, p0, q0, hargs, rfl, rfl, h0, r0⟩ := trodAll_cons hA
  obtain ⟨v1, vs1, d1, ds1, p1, q1, rfl, rfl, rfl, h1, r1⟩ := trodAll_cons r0
  obtain ⟨v2, vs2, d2, ds2, p2, q2, rfl, rfl, rfl, h2, r2⟩ := trodAll_cons r1
  obtain ⟨rfl, rfl, rfl⟩ := trodAll_nil r2
  obtain rfl : args = #[v0, v1, v2] := by cases args; simp_all
  obtain ⟨rfl, rfl⟩ := trodVars_none hV
  obtain ⟨a0, len0, cap0, rfl⟩ := okWide_slice Try.underlying22 (hval 0 22 v0 rfl rfl)
  obtain ⟨a1, len1, cap1, rfl⟩ := okWide_slice Try.underlying26 (hval 1 26 v1 rfl rfl)
  obtain ⟨a2, len2, cap2, rfl⟩ := okWide_slice Try.underlying29 (hval 2 29 v2 rfl rfl)
  have k0 := h0
  have k1 := h1
  have k2 := h2
  have lt0 : ∀ x ∈ p0, x.block < W.heap.size := by obtain ⟨m, hm⟩ := k0; exact DataW.trod_lt m _ _ _ hm
  have lt1 : ∀ x ∈ p1, x.block < W.heap.size := by obtain ⟨m, hm⟩ := k1; exact DataW.trod_lt m _ _ _ hm
  have lt2 : ∀ x ∈ p2, x.block < W.heap.size := by obtain ⟨m, hm⟩ := k2; exact DataW.trod_lt m _ _ _ hm
  clear hA0
  have hk2 : Rows.uptoBulkAll [d0, d1, d2] ≤ 1048576 := by
    simp only [List.append_nil] at hk
    exact of_decide_eq_true hk
  simp only [Rows.uptoBulkAll] at hk2
  obtain ⟨xs, hx, bx, lx, sx⟩ : ∃ xs : List Nat, len0 = xs.length ∧ len0 ≤ Rows.uptoBulk d0 ∧ Cl.Lim 4294967296 xs ∧ Own.Src W a0 len0 cap0 (Cl.nats .u32 xs) := by
    obtain ⟨fuel, hf⟩ := h0
    exact ints_of Try.underlying22 Try.underlying35 (by kernel_rfl) (fun n hn => by have := bounds_u32 hn; omega) hf
  obtain ⟨ys, hy, by', ly, sy⟩ : ∃ xs : List Nat, len1 = xs.length ∧ len1 ≤ Rows.uptoBulk d1 ∧ Cl.Lim 18446744073709551616 xs ∧ Own.Src W a1 len1 cap1 (Cl.nats .u64 xs) := by
    obtain ⟨fuel, hf⟩ := h1
    exact ints_of Try.underlying26 Try.underlying36 (by kernel_rfl) (fun n hn => by have := bounds_u64 hn; omega) hf
  obtain ⟨ls, hl, bl, bv, sl⟩ : ∃ ls : List ByteArray, len2 = ls.length ∧ len2 ≤ Rows.uptoBulk d2 ∧ (Cl.vT ls).length ≤ Rows.uptoBulk d2 ∧ Own.Src W a2 len2 cap2 (Cl.strs ls) := by
    obtain ⟨fuel, hf⟩ := h2
    exact strs_of hf
  refine (Cl.walkMakes a0 a1 a2 cap0 cap1 cap2 xs ys ls len0 len1 len2 W hx hy hl (by omega) (by omega) (by omega) (by omega) lx ly sx sy sl).mono fun e W' ⟨he, bel⟩ => ?_
  subst he
  exact ⟨_, rfl, _, _, _, [], _, [], hW', trodAll_mk1 (shut_bool Try.underlying4 _), (trodAll_cons_mk (Below.trod laidOut (by kernel_rfl) (of_decide_eq_true (by kernel_rfl)) k0 bel lt0) (trodAll_cons_mk (Below.trod laidOut (by kernel_rfl) (of_decide_eq_true (by kernel_rfl)) k1 bel lt1) (trodAll_cons_mk (Below.trod laidOut (by kernel_rfl) (of_decide_eq_true (by kernel_rfl)) k2 bel lt2) trodAll_mk0))), rfl, bel.frame _, fun h => by cases h⟩

set_option maxRecDepth 100000 in
theorem lifted (os : Os) (started : os.Started) (H : Type) (enc : TypeId × Value → H) (F : Stop.Interp) :
    ReturnsInHanded {} Try.checked os 4 .any ((Rows.OpenSpec.upto Rows.cellsMakesSpec).pre6 enc Try.prog Try.f4 Rows.cellsMakesUptoRow.domain false) (((Rows.OpenSpec.upto Rows.cellsMakesSpec).at F).post enc Try.prog Try.f4 false true false false) := by
  refine returnsInHanded_of_cond (C := Try.checked) (s := Rows.OpenSpec.upto Rows.cellsMakesSpec) (k := Rows.uptoSmall) rfl own started (by kernel_rfl) Try.func4
    (OpenSpec.witness (enc := enc) (C := Try.checked) (s := Rows.OpenSpec.upto Rows.cellsMakesSpec) (k := Rows.uptoSmall) rfl false ⟨#[], #[.slice none 0 0, .slice none 0 0, .slice none 0 0], []⟩ 8 (by kernel_rfl) (by kernel_rfl) (by kernel_rfl)
      (x := ([.nil, .nil, .nil], [], [])) (by kernel_rfl) rfl (by kernel_rfl)) ?_
  intro W base args ds gs before hval hW _ hk _
  exact contract H enc W base args ds gs before hval hW hk

/-- THE STATEMENT -/
theorem proved : Rows.CellsMakesUptoSaid :=
  OpenClaim.holds_of_cond 4 Try.f4 rfl rfl rfl rfl rfl rfl rfl ⟨rfl, rfl, rfl, rfl, rfl⟩ rfl rfl rfl rfl rfl (by kernel_rfl) Try.func4 (by kernel_rfl)
    (of_decide_eq_true (by kernel_rfl)) (by unfold Func.isWrapper; first | (rw [if_pos (by decide +kernel)]; kernel_rfl) | (rw [if_neg (by decide +kernel)]; exact ⟨rfl, rfl⟩))
    (fun os started H enc _ F => lifted os started H enc F)
#print axioms proved
end Go.Proofs.Ytkjhngnpbdlmiaa.cellsMakes
