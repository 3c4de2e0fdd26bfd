/- Cells, pairs and texts come back from the values made of them, and values from what is read of them (P2.4): the law CellsBack returns true for every input of bulk at most 1048576. Conditions: the library's variables that are read hold what their text lays (the card ties them). -/
import Derived.Test.YtomhfmcmjcghoaaGreatDoorRows
import Derived.Test.YtomhfmcmjcghoaaGreatDoorCards
import Derived.Test.YtomhfmcmjcghoaaGreatDoorTie
import Derived.Test.YtomhfmcmjcghoaaGreatDoorCbW
import Derived.WalkKit
import Derived.ProofKit
import Derived.OpenShut
import Derived.ShutString
import Derived.ChangeOld
import Derived.SliceStrings
import Derived.Below
import Derived.JoinedCond
import Derived.Deep.DeepHandedRow
import Derived.Deep.DeepWitnessRowRef
import Derived.Lay
import Derived.LaidMore
import Derived.Stop.Joined
import Derived.Stop.LaidErr
import Derived.Lib.LaidTab
import Derived.Shelf.Vars
namespace Go.Proofs.YtomhfmcmjcghoaaGreatDoor.cellsBack
open Go.ChangeShapes Go.WideShapes Go.ChangeAt Go.RowKit
open Go.ChangeMaps (open_string shut_string)
set_option linter.unusedVariables false

theorem own : ownKnob Tryz.prog.godebug = none := by kernel_rfl
def deb64 : List Int := [0, 1, 56, 2, 57, 49, 28, 3, 61, 58, 42, 50, 38, 29, 17, 4, 62, 47, 59, 36, 45, 43, 51, 22, 53, 39, 33, 30, 24, 18, 12, 5, 63, 55, 48, 27, 60, 41, 37, 16, 46, 35, 44, 21, 52, 32, 23, 11, 54, 26, 40, 15, 34, 20, 31, 10, 25, 14, 19, 9, 13, 8, 7, 6]
theorem deb64_eq : (Rows.laid_math_bits_deBruijn64tab : DataW Unit) = Lib.tabData .u8 deb64 := by kernel_rfl
theorem gdeb : Tryz.prog.globalNamed "math/bits.deBruijn64tab" = some 7 := by kernel_rfl

theorem vars_of {W : World} (h : laidMetH Tryz.prog Rows.cellsBackUptoRow.laid W) : W.cell? ⟨7, 15, none⟩ = some (.int .u8 4) := by
  rw [MakeChecks.laidMetH_plain _ _ _ (by kernel_rfl)] at h
  have h1 : laidMet Tryz.prog (("math/bits.deBruijn64tab", Rows.laid_math_bits_deBruijn64tab) :: Rows.cellsBackUptoRow.laid.tail.tail) W := h.tail
  rw [deb64_eq] at h1
  have t1 := Lib.tabIs_of_head gdeb (by kernel_rfl) Tryz.underlying149 Tryz.underlying5 (by kernel_rfl) (by kernel_rfl) h1
  exact t1.cell gdeb 15 (by decide)

theorem laidOut : laidOutB Tryz.prog = true := by kernel_rfl

theorem bulk_len {H : Type} (l : List (DataW H)) : l.length ≤ Rows.uptoBulkAll l := by
  induction l with
  | nil => simp [Rows.uptoBulkAll]
  | cons d r ih =>
    have h1 : 1 ≤ Rows.uptoBulk d := by
      cases d with
      | lit x => cases x <;> simp [Rows.uptoBulk]
      | nil => simp [Rows.uptoBulk]
      | ptr d => simp [Rows.uptoBulk]
      | slice a b => simp [Rows.uptoBulk]
      | agg a => simp [Rows.uptoBulk]
      | iface a b => simp [Rows.uptoBulk]
      | map a => simp [Rows.uptoBulk]
      | held a => simp [Rows.uptoBulk]
    simp only [Rows.uptoBulkAll, List.length_cons]
    omega
theorem bulk_strs {H : Type} : ∀ ss : List ByteArray, (Cl.vT ss).length ≤ Rows.uptoBulkAll (H := H) (Go.ChangeShapes.strs ss)
  | [] => by simp [Cl.vT]
  | s :: ss => by
    have ih := bulk_strs (H := H) ss
    have e : s.data.toList.length = s.size := rfl
    have h2 : (Cl.vT (s :: ss)).length = s.size + 1 + (Cl.vT ss).length := by
      simp only [Cl.vT, List.flatMap_cons, List.length_append, List.length_cons, List.length_nil]
      omega
    have h3 : Rows.uptoBulkAll (H := H) (Go.ChangeShapes.strs (s :: ss)) = s.size + 1 + Rows.uptoBulkAll (H := H) (Go.ChangeShapes.strs ss) := by
      simp only [Go.ChangeShapes.strs, List.map_cons, Rows.uptoBulkAll, Rows.uptoBulk]
      omega
    omega

set_option maxRecDepth 100000 in
/-- A slice of numbers that came in. -/
theorem ints_of {H : Type} {enc : TypeId × Value → H} {W : World} {base : Nat} {sp : Nat → Bool} {hd : Bool} {fuel : Nat} {A : Option Addr} {len cap : Nat} {x : DataW H × List MemPlace} {t e : TypeId} {k : IntKind} {b : Nat}
    (ht : Tryz.prog.underlying t = some (.slice e)) (he : Tryz.prog.underlying e = some (.int k)) (hc : Tryz.prog.cellsOf e = 1) (hk : ∀ n : Int, (Lit.int k n).wf = true → 0 ≤ n ∧ n < b)
    (h : DataW.trod enc Tryz.prog W base sp hd fuel t [.slice A len cap] = some x) : ∃ xs : List Nat, len = xs.length ∧ len ≤ Rows.uptoBulk x.1 ∧ Cl.Lim b xs ∧ Own.Src W A len cap (Cl.nats k xs) := by
  rcases open_ints ht he hc h with ⟨hcs, _⟩ | ⟨a, l, c, zs, hcs, _, hl, hm, hz, hx, hcell, hwf⟩
  · simp at hcs
    obtain ⟨rfl, rfl, rfl⟩ := hcs
    exact ⟨[], rfl, Nat.zero_le _, fun i hi => by simp at hi, .inl ⟨rfl, rfl, rfl, rfl⟩⟩
  · simp at hcs
    obtain ⟨rfl, rfl, rfl⟩ := hcs
    have hlz : len ≤ zs.length := by rw [hz]; split <;> omega
    have hnn : ∀ i, i < len → 0 ≤ zs.getD i 0 ∧ zs.getD i 0 < b := fun i hi => by
      have hi' : i < zs.length := by omega
      refine hk _ (hwf _ ?_)
      rw [List.getD_eq_getElem?_getD, List.getElem?_eq_getElem hi']
      exact List.getElem_mem hi'
    have hlen : ((zs.take len).map Int.toNat).length = len := by simp; omega
    have hat : ∀ i, i < len → ((zs.take len).map Int.toNat).getD i 0 = (zs.getD i 0).toNat := fun i hi => by
      have hi' : i < zs.length := by omega
      rw [List.getD_eq_getElem?_getD, List.getElem?_map, List.getElem?_take, if_pos hi, List.getElem?_eq_getElem hi', List.getD_eq_getElem?_getD, List.getElem?_eq_getElem hi']
      rfl
    refine ⟨(zs.take len).map Int.toNat, hlen.symm, ?_, fun i hi => ?_, .inr ⟨a, rfl, by rw [Cl.nats_len, hlen], fun j u hu => ?_⟩⟩
    · rw [hx]
      have h1 := bulk_len (H := H) (lits k (zs.take len))
      simp only [Rows.uptoBulk]
      simp only [lits, List.length_map, List.length_take] at h1
      simp only [lits]
      omega
    · rw [hat i (by omega)]
      have := hnn i (by omega)
      omega
    · have hj : j < len := by
        have := (List.getElem?_eq_some_iff.1 hu).1
        rw [Cl.nats_len, hlen] at this
        exact this
      rw [Cl.nats_at k _ j (by omega), hat j hj] at hu
      injection hu with hu
      subst hu
      have h1 := hnn j hj
      rw [Int.toNat_of_nonneg h1.1]
      exact hcell j (by omega)
theorem strs_of {H : Type} {enc : TypeId × Value → H} {W : World} {base : Nat} {sp : Nat → Bool} {hd : Bool} {fuel : Nat} {A : Option Addr} {len cap : Nat} {x : DataW H × List MemPlace}
    (h : DataW.trod enc Tryz.prog W base sp hd fuel 29 [.slice A len cap] = some x) : ∃ ls : List ByteArray, len = ls.length ∧ len ≤ Rows.uptoBulk x.1 ∧ (Cl.vT ls).length ≤ Rows.uptoBulk x.1 ∧ Own.Src W A len cap (Cl.strs ls) := by
  rcases open_strings Tryz.underlying29 Tryz.underlying9 (by kernel_rfl) h with ⟨hcs, _⟩ | ⟨a, l, c, ss, hcs, _, hl, hm, hz, hx, hcell, hwf⟩
  · simp at hcs
    obtain ⟨rfl, rfl, rfl⟩ := hcs
    exact ⟨[], rfl, Nat.zero_le _, Nat.zero_le _, .inl ⟨rfl, rfl, rfl, rfl⟩⟩
  · simp at hcs
    obtain ⟨rfl, rfl, rfl⟩ := hcs
    have hlz : len ≤ ss.length := by rw [hz]; split <;> omega
    have hlen : (ss.take len).length = len := by simp; omega
    refine ⟨ss.take len, hlen.symm, ?_, ?_, .inr ⟨a, rfl, by rw [Cl.strs_len, hlen], fun j u hu => ?_⟩⟩
    · rw [hx]
      have h1 := bulk_len (H := H) (Go.ChangeShapes.strs (ss.take len))
      simp only [Go.ChangeShapes.strs, List.length_map, List.length_take] at h1
      simp only [Rows.uptoBulk, Go.ChangeShapes.strs]
      omega
    · rw [hx]
      have h1 := bulk_strs (H := H) (ss.take len)
      simp only [Rows.uptoBulk]
      omega
    · have hj : j < len := by
        have := (List.getElem?_eq_some_iff.1 hu).1
        rw [Cl.strs_len, hlen] at this
        exact this
      have hj' : j < ss.length := by omega
      rw [Cl.strs_at _ j (by omega)] at hu
      injection hu with hu
      subst hu
      have h1 := hcell j hj'
      rw [h1]
      congr 2
      rw [List.getD_eq_getElem?_getD, List.getD_eq_getElem?_getD, List.getElem?_take, if_pos hj]

set_option maxRecDepth 100000 in
theorem contract (H : Type) (enc : TypeId × Value → H) (W : World) (base : Nat) (args : Array Value) (ds gs : List (DataW H)) (before : List MemPlace)
    (hval : ∀ (j : Nat) t v, Tryz.f4.params[j]? = some t → args[j]? = some v → Value.okWide Tryz.prog W .any base t v)
    (hW : DataW.Whole enc Tryz.prog Tryz.f4.params.toList Rows.cellsBackSpec.vars false W args.toList ds gs before) (hk : Rows.uptoSmall H (ds ++ gs) = true) (he : Cl.Env W) :
    Calls Tryz.prog 4 args W fun e W' => ∃ v, e = .returned v ∧ Rows.cellsBackSpec.post enc Tryz.prog Tryz.f4 false true false false W args v W' := by
  have hW' := hW
  obtain ⟨p, q, hA0, hV, rfl, hfz, hnd⟩ := hW
  have hA : DataW.TrodAll enc Tryz.prog W 0 (fun _ => true) true Tryz.f4.params.toList args.toList ds p := hA0
  rw [Tryz.params4] at hA hval
  obtain ⟨v9, vs9, d9, ds9, p9, q9, hargs, rfl, rfl, h9, r9⟩ := trodAll_cons hA
  obtain ⟨v0, vs0, d0, ds0, p0, q0, rfl, rfl, rfl, h0, r0⟩ := trodAll_cons r9
  obtain ⟨v1, vs1, d1, ds1, p1, q1, rfl, rfl, rfl, h1, r1⟩ := trodAll_cons r0
  obtain ⟨v2, vs2, d2, ds2, p2, q2, rfl, rfl, rfl, h2, r2⟩ := trodAll_cons r1
  obtain ⟨rfl, rfl, rfl⟩ := trodAll_nil r2
  obtain rfl : args = #[v9, v0, v1, v2] := by cases args; simp_all
  obtain ⟨rfl, rfl⟩ := trodVars_none hV
  obtain ⟨s, rfl, rfl, rfl, hmax⟩ := open_string Tryz.underlying9 (hval 0 9 v9 rfl rfl) h9
  obtain ⟨a0, len0, cap0, rfl⟩ := okWide_slice Tryz.underlying27 (hval 1 27 v0 rfl rfl)
  obtain ⟨a1, len1, cap1, rfl⟩ := okWide_slice Tryz.underlying28 (hval 2 28 v1 rfl rfl)
  obtain ⟨a2, len2, cap2, rfl⟩ := okWide_slice Tryz.underlying29 (hval 3 29 v2 rfl rfl)
  have k0 := h0
  have k1 := h1
  have k2 := h2
  have lt0 : ∀ x ∈ p0, x.block < W.heap.size := by obtain ⟨m, hm⟩ := k0; exact DataW.trod_lt m _ _ _ hm
  have lt1 : ∀ x ∈ p1, x.block < W.heap.size := by obtain ⟨m, hm⟩ := k1; exact DataW.trod_lt m _ _ _ hm
  have lt2 : ∀ x ∈ p2, x.block < W.heap.size := by obtain ⟨m, hm⟩ := k2; exact DataW.trod_lt m _ _ _ hm
  clear hA0
  have hk2 : Rows.uptoBulkAll [DataW.lit (H := H) (.string s.data.toList), d0, d1, d2] ≤ 1048576 := by
    simp only [List.append_nil] at hk
    exact of_decide_eq_true hk
  simp only [Rows.uptoBulkAll, Rows.uptoBulk] at hk2
  have es : s.data.toList.length = s.size := rfl
  obtain ⟨xs, hx, bx, lx, sx⟩ : ∃ xs : List Nat, len0 = xs.length ∧ len0 ≤ Rows.uptoBulk d0 ∧ Cl.Lim 4294967296 xs ∧ Own.Src W a0 len0 cap0 (Cl.nats .u32 xs) := by
    obtain ⟨fuel, hf⟩ := h0
    exact ints_of Tryz.underlying27 Tryz.underlying51 (by kernel_rfl) (fun n hn => by have := bounds_u32 hn; omega) hf
  obtain ⟨ys, hy, by', ly, sy⟩ : ∃ xs : List Nat, len1 = xs.length ∧ len1 ≤ Rows.uptoBulk d1 ∧ Cl.Lim 18446744073709551616 xs ∧ Own.Src W a1 len1 cap1 (Cl.nats .u64 xs) := by
    obtain ⟨fuel, hf⟩ := h1
    exact ints_of Tryz.underlying28 Tryz.underlying57 (by kernel_rfl) (fun n hn => by have := bounds_u64 hn; omega) hf
  obtain ⟨ls, hl, bl, bv, sl⟩ : ∃ ls : List ByteArray, len2 = ls.length ∧ len2 ≤ Rows.uptoBulk d2 ∧ (Cl.vT ls).length ≤ Rows.uptoBulk d2 ∧ Own.Src W a2 len2 cap2 (Cl.strs ls) := by
    obtain ⟨fuel, hf⟩ := h2
    exact strs_of hf
  refine (Cl.walkBack s a0 a1 a2 cap0 cap1 cap2 xs ys ls len0 len1 len2 W (by omega) hx hy hl (by omega) (by omega) (by omega) (by omega) lx ly sx sy sl he).mono fun e W' ⟨he, bel⟩ => ?_
  subst he
  exact ⟨_, rfl, _, _, _, [], _, [], hW', trodAll_mk1 (shut_bool Tryz.underlying4 _), (trodAll_cons_mk (shut_string Tryz.underlying9 hmax) (trodAll_cons_mk (Below.trod laidOut (by kernel_rfl) (of_decide_eq_true (by kernel_rfl)) k0 bel lt0) (trodAll_cons_mk (Below.trod laidOut (by kernel_rfl) (of_decide_eq_true (by kernel_rfl)) k1 bel lt1) (trodAll_cons_mk (Below.trod laidOut (by kernel_rfl) (of_decide_eq_true (by kernel_rfl)) k2 bel lt2) trodAll_mk0)))), rfl, bel.frame _, fun h => by cases h⟩
theorem mx_of {W : World} (h : W.ShapedOpen Tryz.prog) : ∃ m, W.cell? ⟨0, 0, none⟩ = some (.int .i64 m) :=
  cell_of_shapedOpen_int (t := 3) (zero := #[.int .i64 0]) h (of_decide_eq_true (by kernel_rfl)) (by kernel_rfl) rfl (by kernel_rfl) (by kernel_rfl) Tryz.underlying3
theorem env_of {W : World} (h : laidMetH Tryz.prog Rows.cellsBackUptoRow.laid W) (hs : W.ShapedOpen Tryz.prog) : Cl.Env W := ⟨mx_of hs, vars_of h⟩

noncomputable def home (os : Os) : World := World.laidAll Tryz.prog os Rows.cellsBackUptoRow.laid
theorem home_met (os : Os) : laidMetH Tryz.prog Rows.cellsBackUptoRow.laid ((home os).forCall (fun _ _ => 0) ⟨#[], #[.string ByteArray.empty, .slice none 0 0, .slice none 0 0, .slice none 0 0], []⟩).memory := by
  rw [MakeChecks.laidMetH_plain _ _ _ (by kernel_rfl)]
  exact laidMet_laidAll _ (by kernel_rfl) (by kernel_rfl)
theorem home_shaped (os : Os) : ((home os).forCall (fun _ _ => 0) ⟨#[], #[.string ByteArray.empty, .slice none 0 0, .slice none 0 0, .slice none 0 0], []⟩).Shaped Tryz.prog := World.shaped_of_ZipB (by kernel_rfl) (by kernel_rfl)
theorem home_ok (os : Os) : Input.okWideB Tryz.prog ((home os).forCall (fun _ _ => 0) ⟨#[], #[.string ByteArray.empty, .slice none 0 0, .slice none 0 0, .slice none 0 0], []⟩) 4 ⟨#[], #[.string ByteArray.empty, .slice none 0 0, .slice none 0 0, .slice none 0 0], []⟩ = true := by kernel_rfl
theorem reads (os : Os) {H : Type} (enc : TypeId × Value → H) : ∃ places, DataW.whole enc Tryz.prog ((home os).forCall (fun _ _ => 0) ⟨#[], #[.string ByteArray.empty, .slice none 0 0, .slice none 0 0, .slice none 0 0], []⟩).memory Tryz.f4.params.toList Rows.cellsBackSpec.vars false #[Value.string ByteArray.empty, .slice none 0 0, .slice none 0 0, .slice none 0 0].toList 8 = some ([.lit (.string []), .nil, .nil, .nil], [], places) :=
  ⟨[], by kernel_rfl⟩

set_option maxRecDepth 100000 in
theorem lifted (os : Os) (started : os.Started) (H : Type) (enc : TypeId × Value → H) (F : Stop.Interp) :
    ReturnsInHanded {} Tryz.checked os 4 .any ((Rows.OpenSpec.upto Rows.cellsBackSpec).preRow enc Tryz.prog Tryz.f4 Rows.cellsBackUptoRow.domain false Rows.cellsBackUptoRow.laid) (((Rows.OpenSpec.upto Rows.cellsBackSpec).at F).post enc Tryz.prog Tryz.f4 false true false false) := by
  obtain ⟨places, hx⟩ := reads os enc
  have hm : ({ modest := false } : Assume).holds Tryz.prog (lone (Frame.enter Tryz.prog 4 #[.string ByteArray.empty, .slice none 0 0, .slice none 0 0, .slice none 0 0] .normal) [] ((home os).forCall (fun _ _ => 0) ⟨#[], #[.string ByteArray.empty, .slice none 0 0, .slice none 0 0, .slice none 0 0], []⟩)) := by
    simp only [Assume.holds]
    exact ⟨by simp, by simp, fun _ => Modest.zero, by simp, by simp⟩
  refine returnsInHanded_of_row (C := Tryz.checked) (s := Rows.OpenSpec.upto Rows.cellsBackSpec) own started (by kernel_rfl) Tryz.func4
    ⟨home os, fun _ _ => 0, ⟨#[], #[.string ByteArray.empty, .slice none 0 0, .slice none 0 0, .slice none 0 0], []⟩, World.laidAll_os _ _ _, home_shaped os, (Input.okWide_of_okWideB (base := 0) (home_ok os)).1, (Input.okWide_of_okWideB (home_ok os)).2,
      OpenSpec.preRow_of_cond 8 hx (by kernel_rfl) (fun k hk => by cases hk; kernel_rfl) (by kernel_rfl) (home_met os), hm⟩ ?_
  intro W base args ds gs before hval hW _ hcond _ hL hs _
  exact contract H enc W base args ds gs before hval hW (hcond _ rfl) (env_of hL hs)

theorem rowProved : Rows.CellsBackUptoSaid :=
  OpenClaim.holds_of_cond 4 Tryz.f4 rfl rfl rfl rfl rfl rfl rfl ⟨rfl, rfl, rfl, rfl, rfl⟩ rfl rfl rfl rfl rfl (by kernel_rfl) Tryz.func4 (by kernel_rfl)
    (of_decide_eq_true (by kernel_rfl)) (by unfold Func.isWrapper; first | (rw [if_pos (by decide +kernel)]; kernel_rfl) | (rw [if_neg (by decide +kernel)]; exact ⟨rfl, rfl⟩))
    (fun os started H enc _ F => by rw [OpenClaim.pre_eq_preRow]; exact lifted os started H enc F)

/-- THE STATEMENT -/
theorem proved : Rows.CellsBackUptoCardSaid :=
  Claim7.holds_tied_plain_at .later [] _ _ _ _
    rowProved (fun _ h => by cases h) (by kernel_rfl) (fun _ h => by cases h) cellsBackUpto_row_tie rfl ⟨rfl, rfl⟩ (by kernel_rfl) rfl
    (fun f fn hf hfn => by
      obtain rfl : f = 4 := Option.some.inj ((show Tryz.prog.funcNamed Rows.cellsBackUptoRow.func = some 4 by kernel_rfl).symm.trans hf) |>.symm
      obtain rfl : fn = Tryz.f4 := (Option.some.inj (Tryz.func4.symm.trans hfn)).symm
      exact ⟨by kernel_rfl, fun j t ht => by
        rw [Tryz.params4] at ht
        have hm : t = 9 ∨ t = 27 ∨ t = 28 ∨ t = 29 := by simpa using Array.mem_of_getElem? ht
        rcases hm with rfl | rfl | rfl | rfl
        · exact (show Tryz.prog.wantsStandIn 9 = false by kernel_rfl)
        · exact (show Tryz.prog.wantsStandIn 27 = false by kernel_rfl)
        · exact (show Tryz.prog.wantsStandIn 28 = false by kernel_rfl)
        · exact (show Tryz.prog.wantsStandIn 29 = false by kernel_rfl)⟩)
    (by kernel_rfl)
#print axioms proved
end Go.Proofs.YtomhfmcmjcghoaaGreatDoor.cellsBack
