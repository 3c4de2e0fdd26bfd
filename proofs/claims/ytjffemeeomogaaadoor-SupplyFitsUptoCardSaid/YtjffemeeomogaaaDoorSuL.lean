/- Pairs of numbers that came in as an argument. -/
import Derived.Test.YtjffemeeomogaaaDoorRows
import Derived.Test.YtjffemeeomogaaaDoorSuC
import Derived.WalkKit
import Derived.ProofKit
import Derived.OpenShut
import Derived.ShutString
import Derived.ChangeOld
import Derived.SliceStrings
import Derived.Below
import Derived.JoinedCond
import Derived.Deep.Slices
import Derived.Deep.SlicePairs
import Derived.Deep.Strs
namespace Go.Proofs.YtjffemeeomogaaaDoor.Pin
open Go.ChangeShapes Go.WideShapes Go.ChangeAt Go.RowKit Ro Su
set_option linter.unusedVariables false

theorem cell_spot {w : World} {b o : Nat} {sp : Option Nat} {u : Value} (h : w.cell? ⟨b, o, sp⟩ = some u) : sp = none := by
  unfold World.cell? at h
  split at h
  · cases sp with
    | none => rfl
    | some s => simp at h
  · cases h
theorem bulk_range {H : Type} (D : Nat → DataW H) : ∀ n, (∀ i, i < n → Rows.uptoBulk (D i) ≤ Rows.uptoBulkAll ((List.range n).map D)) ∧ ((∀ i, i < n → 1 ≤ Rows.uptoBulk (D i)) → n ≤ Rows.uptoBulkAll ((List.range n).map D)) := by
  have app : ∀ (a b : List (DataW H)), Rows.uptoBulkAll (a ++ b) = Rows.uptoBulkAll a + Rows.uptoBulkAll b := by
    intro a b
    induction a with
    | nil => simp [Rows.uptoBulkAll]
    | cons d a ih =>
      show Rows.uptoBulk d + Rows.uptoBulkAll (a ++ b) = Rows.uptoBulk d + Rows.uptoBulkAll a + Rows.uptoBulkAll b
      omega
  intro n
  induction n with
  | zero => exact ⟨fun i hi => absurd hi (by omega), fun _ => Nat.zero_le _⟩
  | succ n ih =>
    have e : Rows.uptoBulkAll ((List.range (n + 1)).map D) = Rows.uptoBulkAll ((List.range n).map D) + Rows.uptoBulk (D n) := by
      rw [List.range_succ, List.map_append, app]
      rfl
    rw [e]
    refine ⟨fun i hi => ?_, fun h => ?_⟩
    · by_cases hin : i < n
      · have := ih.1 i hin
        omega
      · obtain rfl : i = n := by omega
        omega
    · have h1 := ih.2 fun i hi => h i (by omega)
      have h2 := h n (by omega)
      omega
theorem getD_range {α : Type} (y : Nat → α) (z : α) (n i : Nat) (hi : i < n) : ((List.range n).map y).getD i z = y i := by
  rw [List.getD_eq_getElem?_getD, List.getElem?_map, List.getElem?_range hi]
  rfl
theorem getD_out {α : Type} (y : Nat → α) (z : α) (n i : Nat) (hi : ¬ i < n) : ((List.range n).map y).getD i z = z := by
  rw [List.getD_eq_getElem?_getD, List.getElem?_eq_none (by simp; omega)]
  rfl

/-- Cells in a row at an address. -/
theorem cells_of {W : World} {a : Addr} {n q : Nat} {xs : List Value} (hq : 0 < q) (hl : xs.length = n * q) (hc : ∀ j u, xs[j]? = some u → W.cell? (a.add j) = some u) : CellsIn W q (some a) n xs := by
  refine ⟨hl, ?_⟩
  by_cases h0 : n = 0
  · exact .inl h0
  · obtain ⟨b, o, sp⟩ := a
    have hp : 0 < xs.length := by rw [hl]; exact Nat.mul_pos (by omega) (by omega)
    have c0 := hc 0 _ (List.getElem?_eq_getElem hp)
    have hs : sp = none := cell_spot (by simpa [Addr.add] using c0)
    subst hs
    refine .inr ⟨b, o, rfl, ?_, fun j u hu => ?_⟩
    · have := Own.cell_lt c0
      rw [Ro.add_plain] at this
      exact this
    · have := hc j u hu
      rw [Ro.add_plain] at this
      exact this
/-- How large an element of the data is when it is a number. -/
theorem wf_bounds {n : Int} (h : (Lit.int .i64 n).wf = true) : -9223372036854775808 ≤ n ∧ n ≤ 9223372036854775807 := by
  simp [Lit.wf, IntKind.min, IntKind.max, IntKind.signed, IntKind.bits] at h
  omega
set_option maxRecDepth 100000 in
/-- Pairs that came in. -/
theorem pairs_of {H : Type} {enc : TypeId × Value → H} {W : World} {base : Nat} {sp : Nat → Bool} {hd : Bool} {fuel : Nat} {A : Option Addr} {len cap : Nat} {x : DataW H × List MemPlace}
    (h : DataW.trod enc Tryd.prog W base sp hd fuel 51 [.slice A len cap] = some x) : ∃ L : List Pr, len = L.length ∧ CellsIn W 2 A len (prsV L) ∧ len ≤ Rows.uptoBulk x.1 ∧ ∀ k, (-9223372036854775808 ≤ (L.getD k (0, 0)).1 ∧ (L.getD k (0, 0)).1 ≤ 9223372036854775807) ∧ (-9223372036854775808 ≤ (L.getD k (0, 0)).2 ∧ (L.getD k (0, 0)).2 ≤ 9223372036854775807) := by
  have ce : Tryd.prog.cellsOf 129 = 2 := by kernel_rfl
  have c1 : Tryd.prog.cellsOf 2 = 1 := by kernel_rfl
  rcases Go.Deep.open_slice Tryd.underlying51 h with ⟨hcs, hx⟩ | ⟨a, l, c, m, n, D, Pl, hcs, _, hl, hm, hmm, hx, hcell⟩
  · simp at hcs
    obtain ⟨rfl, rfl, rfl⟩ := hcs
    exact ⟨[], rfl, ⟨rfl, .inl rfl⟩, Nat.zero_le _, fun k => by simp⟩
  · simp at hcs
    obtain ⟨rfl, rfl, rfl⟩ := hcs
    have hlm : len ≤ m := by rw [hmm]; split <;> omega
    obtain ⟨y, hy⟩ := Go.Deep.choose_lt (n := len) (p := fun i (y : Pr) => (W.cell? (a.add (i * 2)) = some (.int .i64 y.1) ∧ W.cell? (a.add (i * 2 + 1)) = some (.int .i64 y.2)) ∧ ((-9223372036854775808 ≤ y.1 ∧ y.1 ≤ 9223372036854775807) ∧ (-9223372036854775808 ≤ y.2 ∧ y.2 ≤ 9223372036854775807)) ∧ 1 ≤ Rows.uptoBulk (D i)) fun i hi => by
      obtain ⟨cs', h1, h2⟩ := hcell i (by omega)
      rw [ce] at h1
      obtain ⟨_, hlen, hc⟩ := World.cells?_some h1
      obtain ⟨xs, n', _, hxy, _, hxl, hg⟩ := DataW.trod_array Tryd.underlying129 h2
      match cs', hlen, xs, hxl with
      | [v0, v1], _, [y0, y1], _ =>
        have g0 := hg 0 (by decide)
        have g1 := hg 1 (by decide)
        simp [c1] at g0 g1
        obtain ⟨z0, e0, x0, hz0⟩ := DataW.trod_int Tryd.underlying2 g0
        obtain ⟨z1, e1, x1, hz1⟩ := DataW.trod_int Tryd.underlying2 g1
        injection e0 with e0
        injection e1 with e1
        have q0 := hc 0 (by omega)
        have q1 := hc 1 (by omega)
        rw [Go.Deep.add_add] at q0 q1
        have hD : D i = .agg [y0.1, y1.1] := congrArg Prod.fst hxy
        refine ⟨(z0, z1), ⟨by simpa [e0] using q0, by simpa [e1] using q1⟩, ⟨wf_bounds hz0, wf_bounds hz1⟩, ?_⟩
        rw [hD]
        simp only [Rows.uptoBulk]
        omega
    obtain ⟨b1, b2⟩ := bulk_range D len
    have hb : Rows.uptoBulkAll ((List.range len).map D) ≤ Rows.uptoBulk x.1 := by
      rw [hx]
      simp only [Rows.uptoBulk]
      omega
    have hlb := b2 fun i hi => (hy i hi).2.2
    have hL : ((List.range len).map y).length = len := by simp
    refine ⟨(List.range len).map y, hL.symm, cells_of (by decide) (by rw [prs_len, hL]) fun j u hu => ?_, by omega, fun k => ?_⟩
    · have hj : j < len * 2 := by
        have := (List.getElem?_eq_some_iff.1 hu).1
        rw [prs_len, hL] at this
        exact this
      have e : j = j / 2 * 2 + j % 2 := by omega
      obtain ⟨⟨c0, c1⟩, _⟩ := hy (j / 2) (by omega)
      rw [e, prs_at _ (j / 2) (j % 2) (by rw [hL]; omega) (by omega), getD_range y _ len _ (by omega)] at hu
      rw [e]
      rcases Nat.mod_two_eq_zero_or_one j with h0 | h0
      · rw [h0] at hu ⊢
        injection hu with hu
        rw [← hu]
        exact c0
      · rw [h0] at hu ⊢
        injection hu with hu
        rw [← hu]
        exact c1
    · by_cases hk : k < len
      · rw [getD_range y _ len k hk]
        exact (hy k hk).2.1
      · rw [getD_out y _ len k hk]
        decide
end Go.Proofs.YtjffemeeomogaaaDoor.Pin
