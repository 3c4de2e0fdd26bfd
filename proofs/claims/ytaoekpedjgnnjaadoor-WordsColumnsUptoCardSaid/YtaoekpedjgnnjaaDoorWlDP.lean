/- The program lays any rows out in any widths as the document's own function does, refuses what it must, leaves what it is handed and tells lines in memory of its own (P1.3): the law WordsColumns returns true for every input of bulk at most 1048576. Conditions: the library's variables that are read hold what their text lays (the card ties them). -/
import Derived.Test.YtaoekpedjgnnjaaDoorRows
import Derived.Test.YtaoekpedjgnnjaaDoorCards
import Derived.Test.YtaoekpedjgnnjaaDoorTie
import Derived.Test.YtaoekpedjgnnjaaDoorWlD
import Derived.SliceStrings
import Derived.Deep.Slices
import Derived.WalkKit
import Derived.ProofKit
import Derived.OpenShut
import Derived.ShutString
import Derived.Below
import Derived.SizedLaws
import Derived.JoinedCond
import Derived.Deep.DeepHandedRow
import Derived.Deep.DeepWitnessRowRef
import Derived.Lay
import Derived.LaidMore
import Derived.Stop.Joined
import Derived.Lib.LaidTab
import Derived.Lib.LaidU8T
import Derived.PinnedBridge
import Derived.Shelf.Vars
namespace Go.Proofs.YtaoekpedjgnnjaaDoor.wordsColumns
open Go.ChangeShapes Go.WideShapes Go.ChangeAt Go.RowKit Wd
open Go.ChangeMaps (open_string shut_string)
open Own
set_option linter.unusedVariables false

theorem own : ownKnob Tryd.prog.godebug = none := by kernel_rfl
theorem accept_eq : (Rows.laid_unicode_utf8_acceptRanges : DataW Unit) = Lib.acceptData := by kernel_rfl
theorem first_eq : Rows.laid_unicode_utf8_first = Lib.firstData := Go.Pinned.utf8First_eq
def rho : Go.Shelf.Ren := ⟨fun n => n, fun | 5 => 5 | 119 => 107 | 138 => 109 | 139 => 110 | n => n, fun | 3 => 1 | 4 => 2 | n => n⟩
theorem u8types : U8Types Tryd.prog rho := ⟨by kernel_rfl, by kernel_rfl, by kernel_rfl, by kernel_rfl⟩
theorem u8extra : U8Extra Tryd.prog rho := ⟨by kernel_rfl, by kernel_rfl, by kernel_rfl, by kernel_rfl, by kernel_rfl, by kernel_rfl, by kernel_rfl⟩
def laid0 : List (String × DataW Unit) := [("unicode/utf8.acceptRanges", Rows.laid_unicode_utf8_acceptRanges), ("unicode/utf8.first", Rows.laid_unicode_utf8_first)]
theorem env_of {W : World} (h : laidMet Tryd.prog laid0 W) : U8 W := by
  have r1 := Lib.laidMet.reads h (.tail _ (.head _))
  have r2 := Lib.laidMet.reads h (.head _)
  rw [first_eq] at r1
  rw [accept_eq] at r2
  exact utf8Tabs_of_readsT u8types u8extra r1 r2

theorem laidOut : laidOutB Tryd.prog = true := by kernel_rfl
def bulk1 (x : List (List UInt8)) : Nat := x.foldr (fun t n => t.length + 1 + n) 0
theorem bulk1_len (x : List (List UInt8)) : x.length ≤ bulk1 x := by
  induction x with
  | nil => exact Nat.zero_le _
  | cons t x ih =>
    have e : bulk1 (t :: x) = t.length + 1 + bulk1 x := rfl
    rw [List.length_cons]
    omega
theorem bulk1_at (x : List (List UInt8)) : ∀ k, (x.getD k []).length ≤ bulk1 x := by
  induction x with
  | nil => intro k; simp
  | cons t x ih =>
    intro k
    have e : bulk1 (t :: x) = t.length + 1 + bulk1 x := rfl
    match k with
    | 0 => show t.length ≤ _; omega
    | k + 1 =>
      have := ih k
      show (x.getD k []).length ≤ _
      omega
theorem bulk_strs {H : Type} : ∀ ls : List ByteArray, bulk1 (ls.map fun s => s.data.toList) ≤ Rows.uptoBulkAll (Go.ChangeShapes.strs (H := H) ls)
  | [] => Nat.zero_le _
  | s :: ls => by
    have h := bulk_strs (H := H) ls
    have e : Rows.uptoBulkAll (Go.ChangeShapes.strs (H := H) (s :: ls)) = (s.data.toList.length + 1) + Rows.uptoBulkAll (Go.ChangeShapes.strs (H := H) ls) := rfl
    rw [e]
    show s.data.toList.length + 1 + bulk1 (ls.map fun s => s.data.toList) ≤ _
    omega
theorem bulk_lits {H : Type} (k : IntKind) : ∀ zs : List Int, Rows.uptoBulkAll (lits (H := H) k zs) = zs.length
  | [] => rfl
  | z :: zs => by
    have h := bulk_lits (H := H) k zs
    have e : Rows.uptoBulkAll (lits (H := H) k (z :: zs)) = 1 + Rows.uptoBulkAll (lits (H := H) k zs) := rfl
    rw [e, h, List.length_cons]
    omega
/-- One row that came in. -/
theorem row_of {H : Type} {enc : TypeId × Value → H} {W : World} {base : Nat} {sp : Nat → Bool} {hd : Bool} {fuel : Nat} {v : Value} {x : DataW H × List MemPlace}
    (h : DataW.trod enc Tryd.prog W base sp hd fuel 25 [v] = some x) : ∃ y : (Option Addr × Nat × Nat) × List (List UInt8), v = .slice y.1.1 y.1.2.1 y.1.2.2 ∧ y.1.2.1 = y.2.length ∧ Own.Src W y.1.1 y.1.2.1 y.1.2.2 (Wd.strs y.2) ∧ bulk1 y.2 + 1 ≤ Rows.uptoBulk x.1 := by
  rcases open_strings Tryd.underlying25 Tryd.underlying9 (by kernel_rfl) h with ⟨hcs, hx⟩ | ⟨a, len, cap, ss, hcs, _, hl, hm, hz, hx, hcell, hwf⟩
  · exact ⟨((none, 0, 0), []), by simpa using hcs, rfl, .inl ⟨rfl, rfl, rfl, rfl⟩, by rw [hx]; exact Nat.le_refl _⟩
  · have hlz : len ≤ ss.length := by rw [hz]; split <;> omega
    have hlen : ((ss.take len).map fun s => s.data.toList).length = len := by simp; omega
    refine ⟨((some a, len, cap), (ss.take len).map fun s => s.data.toList), by simpa using hcs, hlen.symm, .inr ⟨a, rfl, by rw [Wd.strs_len, hlen], fun j u hu => ?_⟩, ?_⟩
    · have hj : j < len := by
        have := (List.getElem?_eq_some_iff.1 hu).1
        rw [Wd.strs_len, hlen] at this
        exact this
      have hj' : j < ss.length := by omega
      have hj2 : j < ((ss.take len).map fun s => s.data.toList).length := by omega
      rw [Wd.strs_at _ j hj2] at hu
      injection hu with hu
      subst hu
      have h1 := hcell j hj'
      rw [h1]
      congr 2
      rw [List.getD_eq_getElem?_getD, List.getD_eq_getElem?_getD, List.getElem?_map, List.getElem?_take, if_pos hj, List.getElem?_eq_getElem hj']
      rfl
    · rw [hx]
      have h1 := bulk_strs (H := H) (ss.take len)
      simp only [Rows.uptoBulk]
      omega
theorem bulk_range {H : Type} (D : Nat → DataW H) : ∀ n, (∀ i, i < n → Rows.uptoBulk (D i) ≤ Rows.uptoBulkAll ((List.range n).map D)) ∧ ((∀ i, i < n → 1 ≤ Rows.uptoBulk (D i)) → n ≤ Rows.uptoBulkAll ((List.range n).map D)) := by
  have app : ∀ (a b : List (DataW H)), Rows.uptoBulkAll (a ++ b) = Rows.uptoBulkAll a + Rows.uptoBulkAll b := by
    intro a b
    induction a with
    | nil => simp [Rows.uptoBulkAll]
    | cons d a ih =>
      show Rows.uptoBulk d + Rows.uptoBulkAll (a ++ b) = Rows.uptoBulk d + Rows.uptoBulkAll a + Rows.uptoBulkAll b
      omega
  intro n
  induction n with
  | zero => exact ⟨fun i hi => absurd hi (by omega), fun _ => Nat.zero_le _⟩
  | succ n ih =>
    have e : Rows.uptoBulkAll ((List.range (n + 1)).map D) = Rows.uptoBulkAll ((List.range n).map D) + Rows.uptoBulk (D n) := by
      rw [List.range_succ, List.map_append, app]
      rfl
    rw [e]
    refine ⟨fun i hi => ?_, fun h => ?_⟩
    · by_cases hin : i < n
      · have := ih.1 i hin
        omega
      · obtain rfl : i = n := by omega
        omega
    · have h1 := ih.2 fun i hi => h i (by omega)
      have h2 := h n (by omega)
      omega
theorem rows_of {H : Type} {enc : TypeId × Value → H} {W : World} {base : Nat} {sp : Nat → Bool} {hd : Bool} {fuel : Nat} {A : Option Addr} {len cap : Nat} {x : DataW H × List MemPlace}
    (h : DataW.trod enc Tryd.prog W base sp hd fuel 22 [.slice A len cap] = some x) (hb : Rows.uptoBulk x.1 ≤ 1048576) : ∃ (R : List (Option Addr × Nat × Nat)) (X : List (List (List UInt8))), len = R.length ∧ Wd.RowsIn W R X ∧ Own.Src W A len cap (Wd.slcs R) ∧ Wd.Fine1 X := by
  rcases Go.Deep.open_slice1 Tryd.underlying22 (by kernel_rfl) h with ⟨hcs, _⟩ | ⟨a, l, c, m, n, V, D, Pl, hcs, _, hl, hm, hmm, hx, hcell⟩
  · simp at hcs
    obtain ⟨rfl, rfl, rfl⟩ := hcs
    exact ⟨[], [], rfl, ⟨rfl, fun k hk => absurd hk (by simp)⟩, .inl ⟨rfl, rfl, rfl, rfl⟩, ⟨Nat.zero_le _, fun k => ⟨by simp, fun j => by simp⟩⟩⟩
  · simp at hcs
    obtain ⟨rfl, rfl, rfl⟩ := hcs
    have hlm : len ≤ m := by rw [hmm]; split <;> omega
    obtain ⟨y, hy⟩ := Go.Deep.choose_lt (n := len) (p := fun i (y : (Option Addr × Nat × Nat) × List (List UInt8)) => V i = .slice y.1.1 y.1.2.1 y.1.2.2 ∧ y.1.2.1 = y.2.length ∧ Own.Src W y.1.1 y.1.2.1 y.1.2.2 (Wd.strs y.2) ∧ bulk1 y.2 + 1 ≤ Rows.uptoBulk (D i)) fun i hi => row_of (hcell i (by omega)).2
    have hR : ((List.range len).map fun i => (y i).1).length = len := by simp
    have hX : ((List.range len).map fun i => (y i).2).length = len := by simp
    have gR : ∀ i, i < len → ((List.range len).map fun i => (y i).1).getD i (none, 0, 0) = (y i).1 := fun i hi => by
      rw [List.getD_eq_getElem?_getD, List.getElem?_map, List.getElem?_range hi]
      rfl
    have gX : ∀ i, i < len → ((List.range len).map fun i => (y i).2).getD i [] = (y i).2 := fun i hi => by
      rw [List.getD_eq_getElem?_getD, List.getElem?_map, List.getElem?_range hi]
      rfl
    have gXo : ∀ i, ¬ i < len → ((List.range len).map fun i => (y i).2).getD i [] = [] := fun i hi => by
      rw [List.getD_eq_getElem?_getD, List.getElem?_eq_none (by rw [hX]; omega)]
      rfl
    have hbl : Rows.uptoBulkAll ((List.range len).map D) ≤ 1048576 := by
      rw [hx] at hb
      simp only [Rows.uptoBulk] at hb
      omega
    obtain ⟨b1, b2⟩ := bulk_range D len
    have b3 := b2 fun i hi => by have := (hy i hi).2.2.2; omega
    refine ⟨_, _, hR.symm, ⟨by rw [hR, hX], fun k hk => ?_⟩, .inr ⟨a, rfl, by rw [show (Wd.slcs ((List.range len).map fun i => (y i).1)).length = _ from List.length_map .., hR], fun j u hu => ?_⟩, ⟨by rw [hX]; omega, fun k => ?_⟩⟩
    · rw [hR] at hk
      rw [gR k hk, gX k hk]
      exact ⟨(hy k hk).2.1, (hy k hk).2.2.1⟩
    · have hj : j < len := by
        have := (List.getElem?_eq_some_iff.1 hu).1
        rw [show (Wd.slcs ((List.range len).map fun i => (y i).1)).length = _ from List.length_map .., hR] at this
        exact this
      rw [Wd.slcs_at _ j (by rw [hR]; exact hj), gR j hj] at hu
      injection hu with hu
      subst hu
      rw [(hcell j (by omega)).1, (hy j hj).1]
    · by_cases hk : k < len
      · rw [gX k hk]
        have h1 := b1 k hk
        have h2 := (hy k hk).2.2.2
        have h3 := bulk1_len (y k).2
        refine ⟨by omega, fun j => ?_⟩
        have h4 := bulk1_at (y k).2 j
        omega
      · rw [gXo k hk]
        exact ⟨Nat.zero_le _, fun j => by simp⟩
theorem ints_of {H : Type} {enc : TypeId × Value → H} {W : World} {base : Nat} {sp : Nat → Bool} {hd : Bool} {fuel : Nat} {A : Option Addr} {len cap : Nat} {x : DataW H × List MemPlace}
    (h : DataW.trod enc Tryd.prog W base sp hd fuel 23 [.slice A len cap] = some x) (hb : Rows.uptoBulk x.1 ≤ 1048576) : ∃ ws : List Int, len = ws.length ∧ len ≤ 1048576 ∧ (∀ k, k < ws.length → -9223372036854775808 ≤ ws.getD k 0 ∧ ws.getD k 0 ≤ 9223372036854775807) ∧ Own.Src W A len cap (Wd.ints ws) := by
  rcases open_ints Tryd.underlying23 Tryd.underlying3 (by kernel_rfl) h with ⟨hcs, _⟩ | ⟨a, l, c, zs, hcs, _, hl, hm, hz, hx, hcell, hwz⟩
  · simp at hcs
    obtain ⟨rfl, rfl, rfl⟩ := hcs
    exact ⟨[], rfl, Nat.zero_le _, fun k hk => absurd hk (by simp), .inl ⟨rfl, rfl, rfl, rfl⟩⟩
  · simp at hcs
    obtain ⟨rfl, rfl, rfl⟩ := hcs
    have hlz : len ≤ zs.length := by rw [hz]; split <;> omega
    have ht : (zs.take len).length = len := by rw [List.length_take]; omega
    have hg : ∀ i, i < len → (zs.take len).getD i 0 = zs.getD i 0 := fun i hi => by
      rw [List.getD_eq_getElem?_getD, List.getElem?_take, if_pos hi, ← List.getD_eq_getElem?_getD]
    refine ⟨zs.take len, ht.symm, ?_, fun k hk => ?_, .inr ⟨a, rfl, by show ((zs.take len).map _).length = _; rw [List.length_map, ht], fun j u hu => ?_⟩⟩
    · rw [hx] at hb
      simp only [Rows.uptoBulk, bulk_lits, List.length_take, List.length_drop] at hb
      omega
    · rw [ht] at hk
      rw [hg k hk]
      have hk' : k < zs.length := by omega
      have hmem : zs.getD k 0 ∈ zs := by
        rw [List.getD_eq_getElem?_getD, List.getElem?_eq_getElem hk']
        exact List.getElem_mem hk'
      exact bounds_i64 (hwz _ hmem)
    · have hj : j < (zs.take len).length := by
        have h1 := (List.getElem?_eq_some_iff.1 hu).1
        have h2 : (Wd.ints (zs.take len)).length = (zs.take len).length := List.length_map ..
        omega
      rw [Wd.intsZ_at _ j hj, hg j (by omega)] at hu
      injection hu with hu
      subst hu
      exact hcell j (by omega)

set_option maxRecDepth 100000 in
theorem contract (H : Type) (enc : TypeId × Value → H) (W : World) (base : Nat) (args : Array Value) (ds gs : List (DataW H)) (before : List MemPlace)
    (hval : ∀ (j : Nat) t v, Tryd.f3.params[j]? = some t → args[j]? = some v → Value.okWide Tryd.prog W .any base t v)
    (hW : DataW.Whole enc Tryd.prog Tryd.f3.params.toList Rows.wordsColumnsSpec.vars false W args.toList ds gs before) (hk : Rows.uptoSmall H (ds ++ gs) = true) (he : U8 W) :
    Calls Tryd.prog 3 args W fun e W' => ∃ v, e = .returned v ∧ Rows.wordsColumnsSpec.post enc Tryd.prog Tryd.f3 false true false false W args v W' := by
  have hW' := hW
  obtain ⟨p, q, hA0, hV, rfl, hfz, hnd⟩ := hW
  have hA : DataW.TrodAll enc Tryd.prog W 0 (fun _ => true) true Tryd.f3.params.toList args.toList ds p := hA0
  rw [Tryd.params3] at hA hval
  obtain ⟨v0, vs0, d0, ds0, p0, q0, hargs, rfl, rfl, h0, r0⟩ := trodAll_cons hA
  obtain ⟨v1, vs1, d1, ds1, p1, q1, rfl, rfl, rfl, h1, r1⟩ := trodAll_cons r0
  obtain ⟨rfl, rfl, rfl⟩ := trodAll_nil r1
  obtain rfl : args = #[v0, v1] := by cases args; simp_all
  obtain ⟨rfl, rfl⟩ := trodVars_none hV
  obtain ⟨a0, len0, cap0, rfl⟩ := okWide_slice Tryd.underlying22 (hval 0 22 v0 rfl rfl)
  obtain ⟨a1, len1, cap1, rfl⟩ := okWide_slice Tryd.underlying23 (hval 1 23 v1 rfl rfl)
  have k0 := h0
  have lt0 : ∀ x ∈ p0, x.block < W.heap.size := by obtain ⟨m, hm⟩ := k0; exact DataW.trod_lt m _ _ _ hm
  have k1 := h1
  have lt1 : ∀ x ∈ p1, x.block < W.heap.size := by obtain ⟨m, hm⟩ := k1; exact DataW.trod_lt m _ _ _ hm
  clear hA0
  have hk2 : Rows.uptoBulkAll [d0, d1] ≤ 1048576 := by
    simp only [List.append_nil] at hk
    exact of_decide_eq_true hk
  simp only [Rows.uptoBulkAll] at hk2
  obtain ⟨R, X, hl, hr, hs, hf⟩ : ∃ (R : List (Option Addr × Nat × Nat)) (X : List (List (List UInt8))), len0 = R.length ∧ Wd.RowsIn W R X ∧ Own.Src W a0 len0 cap0 (Wd.slcs R) ∧ Wd.Fine1 X := by
    obtain ⟨fuel, hf⟩ := h0
    exact rows_of hf (by show Rows.uptoBulk d0 ≤ _; omega)
  obtain ⟨ws, hl1, hlb, hwb, hs1⟩ : ∃ ws : List Int, len1 = ws.length ∧ len1 ≤ 1048576 ∧ (∀ k, k < ws.length → -9223372036854775808 ≤ ws.getD k 0 ∧ ws.getD k 0 ≤ 9223372036854775807) ∧ Own.Src W a1 len1 cap1 (Wd.ints ws) := by
    obtain ⟨fuel, hf⟩ := h1
    exact ints_of hf (by show Rows.uptoBulk d1 ≤ _; omega)
  refine (Wd.walkColumns a0 a1 cap0 cap1 len0 len1 R X ws W hl hl1 hlb hf hwb hr hs hs1 he).mono fun e W' ⟨he, bel⟩ => ?_
  subst he
  exact ⟨_, rfl, _, _, _, [], _, [], hW', trodAll_mk1 (shut_bool Tryd.underlying4 _), (trodAll_cons_mk (Below.trod laidOut (by kernel_rfl) (of_decide_eq_true (by kernel_rfl)) k0 bel lt0) (trodAll_cons_mk (Below.trod laidOut (by kernel_rfl) (of_decide_eq_true (by kernel_rfl)) k1 bel lt1) trodAll_mk0)), rfl, bel.frame _, fun h => by cases h⟩

theorem laid_of {W : World} (h : laidMetH Tryd.prog Rows.wordsColumnsUptoRow.laid W) : laidMet Tryd.prog laid0 W := by
  rw [MakeChecks.laidMetH_plain _ _ _ (by kernel_rfl)] at h
  exact h
noncomputable def home (os : Os) : World := World.laidAll Tryd.prog os Rows.wordsColumnsUptoRow.laid
theorem home_met (os : Os) : laidMetH Tryd.prog Rows.wordsColumnsUptoRow.laid ((home os).forCall (fun _ _ => 0) ⟨#[], #[.slice none 0 0, .slice none 0 0], []⟩).memory := by
  rw [MakeChecks.laidMetH_plain _ _ _ (by kernel_rfl)]
  exact laidMet_laidAll _ (by kernel_rfl) (by kernel_rfl)
theorem home_shaped (os : Os) : ((home os).forCall (fun _ _ => 0) ⟨#[], #[.slice none 0 0, .slice none 0 0], []⟩).Shaped Tryd.prog := World.shaped_of_ZipB (by kernel_rfl) (by kernel_rfl)
theorem home_ok (os : Os) : Input.okWideB Tryd.prog ((home os).forCall (fun _ _ => 0) ⟨#[], #[.slice none 0 0, .slice none 0 0], []⟩) 3 ⟨#[], #[.slice none 0 0, .slice none 0 0], []⟩ = true := by kernel_rfl
theorem reads (os : Os) {H : Type} (enc : TypeId × Value → H) : ∃ places, DataW.whole enc Tryd.prog ((home os).forCall (fun _ _ => 0) ⟨#[], #[.slice none 0 0, .slice none 0 0], []⟩).memory Tryd.f3.params.toList Rows.wordsColumnsSpec.vars false (#[.slice none 0 0, .slice none 0 0] : Array Value).toList 8 = some ([.nil, .nil], [], places) :=
  ⟨[], by kernel_rfl⟩

set_option maxRecDepth 100000 in
theorem lifted (os : Os) (started : os.Started) (H : Type) (enc : TypeId × Value → H) (F : Stop.Interp) :
    ReturnsInHanded {} Tryd.checked os 3 .any ((Rows.OpenSpec.upto Rows.wordsColumnsSpec).preRow enc Tryd.prog Tryd.f3 Rows.wordsColumnsUptoRow.domain false Rows.wordsColumnsUptoRow.laid) (((Rows.OpenSpec.upto Rows.wordsColumnsSpec).at F).post enc Tryd.prog Tryd.f3 false true false false) := by
  obtain ⟨places, hx⟩ := reads os enc
  have hm : ({ modest := false } : Assume).holds Tryd.prog (lone (Frame.enter Tryd.prog 3 #[.slice none 0 0, .slice none 0 0] .normal) [] ((home os).forCall (fun _ _ => 0) ⟨#[], #[.slice none 0 0, .slice none 0 0], []⟩)) := by
    simp only [Assume.holds]
    exact ⟨by simp, by simp, fun _ => Modest.zero, by simp, by simp⟩
  refine returnsInHanded_of_row (C := Tryd.checked) (s := Rows.OpenSpec.upto Rows.wordsColumnsSpec) own started (by kernel_rfl) Tryd.func3
    ⟨home os, fun _ _ => 0, ⟨#[], #[.slice none 0 0, .slice none 0 0], []⟩, World.laidAll_os _ _ _, home_shaped os, (Input.okWide_of_okWideB (base := 0) (home_ok os)).1, (Input.okWide_of_okWideB (home_ok os)).2,
      OpenSpec.preRow_of_cond 8 hx (by kernel_rfl) (fun k hk => by cases hk; kernel_rfl) (by kernel_rfl) (home_met os), hm⟩ ?_
  intro W base args ds gs before hval hW _ hcond _ hL hs _
  exact contract H enc W base args ds gs before hval hW (hcond _ rfl) (env_of (laid_of hL))

theorem rowProved : Rows.WordsColumnsUptoSaid :=
  OpenClaim.holds_of_cond 3 Tryd.f3 rfl rfl rfl rfl rfl rfl rfl ⟨rfl, rfl, rfl, rfl, rfl⟩ rfl rfl rfl rfl rfl (by kernel_rfl) Tryd.func3 (by kernel_rfl)
    (of_decide_eq_true (by kernel_rfl)) (by unfold Func.isWrapper; first | (rw [if_pos (by decide +kernel)]; kernel_rfl) | (rw [if_neg (by decide +kernel)]; exact ⟨rfl, rfl⟩))
    (fun os started H enc _ F => by rw [OpenClaim.pre_eq_preRow]; exact lifted os started H enc F)

/-- THE STATEMENT -/
theorem proved : Rows.WordsColumnsUptoCardSaid :=
  Claim7.holds_tied_plain_at .later [] _ _ _ _
    rowProved (fun _ h => by cases h) (by kernel_rfl) (fun _ h => by cases h) wordsColumnsUpto_row_tie rfl ⟨rfl, rfl⟩ (by kernel_rfl) rfl
    (fun f fn hf hfn => by
      obtain rfl : f = 3 := Option.some.inj ((show Tryd.prog.funcNamed Rows.wordsColumnsUptoRow.func = some 3 by kernel_rfl).symm.trans hf) |>.symm
      obtain rfl : fn = Tryd.f3 := (Option.some.inj (Tryd.func3.symm.trans hfn)).symm
      exact ⟨by kernel_rfl, fun j t ht => by
        rw [Tryd.params3] at ht
        have h3 : t = 22 ∨ t = 23 := by
          rcases j with _ | _ | j
          · exact .inl (by simpa using ht.symm)
          · exact .inr (by simpa using ht.symm)
          · simp at ht
        rcases h3 with rfl | rfl
        · exact (show Tryd.prog.wantsStandIn 22 = false by kernel_rfl)
        · exact (show Tryd.prog.wantsStandIn 23 = false by kernel_rfl)⟩)
    (by kernel_rfl)
#print axioms proved
end Go.Proofs.YtaoekpedjgnnjaaDoor.wordsColumns
