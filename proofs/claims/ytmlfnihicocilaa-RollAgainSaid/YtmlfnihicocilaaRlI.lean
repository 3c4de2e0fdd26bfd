/- Numbers of the kind int that came in as arguments. -/
import Derived.Test.YtmlfnihicocilaaRows
import Derived.Test.YtmlfnihicocilaaRo
import Derived.WalkKit
import Derived.ProofKit
import Derived.OpenShut
import Derived.ShutString
import Derived.ChangeOld
import Derived.SliceStrings
import Derived.Below
import Derived.JoinedCond
import Derived.Deep.Slices
import Derived.Deep.SlicePairs
import Derived.Deep.Strs
namespace Go.Proofs.Ytmlfnihicocilaa.Ci
open Go.ChangeShapes Go.WideShapes Go.ChangeAt Go.RowKit Ro
set_option linter.unusedVariables false

def i64s (l : List Int) : List Value := l.map (.int .i64)
theorem i64s_len (l : List Int) : (i64s l).length = l.length := by simp [i64s]
theorem one_i64s (l : List Int) : ∀ u ∈ i64s l, u.oneCell' = true := by intro u hu; simp [i64s] at hu; obtain ⟨x, _, rfl⟩ := hu; rfl
theorem i64s_at (l : List Int) (i : Nat) (h : i < l.length) : (i64s l)[i]? = some (.int .i64 (l.getD i 0)) := by
  unfold i64s
  rw [List.getElem?_map, some_at l 0 i h]
  rfl
theorem own : ownKnob Try.prog.godebug = none := by kernel_rfl
theorem laidOut : laidOutB Try.prog = true := by kernel_rfl
theorem cell_spot {w : World} {b o : Nat} {sp : Option Nat} {u : Value} (h : w.cell? ⟨b, o, sp⟩ = some u) : sp = none := by
  unfold World.cell? at h
  split at h
  · cases sp with
    | none => rfl
    | some s => simp at h
  · cases h
theorem bulk_range {H : Type} (D : Nat → DataW H) : ∀ n, (∀ i, i < n → Rows.uptoBulk (D i) ≤ Rows.uptoBulkAll ((List.range n).map D)) ∧ ((∀ i, i < n → 1 ≤ Rows.uptoBulk (D i)) → n ≤ Rows.uptoBulkAll ((List.range n).map D)) := by
  have app : ∀ (a b : List (DataW H)), Rows.uptoBulkAll (a ++ b) = Rows.uptoBulkAll a + Rows.uptoBulkAll b := by
    intro a b
    induction a with
    | nil => simp [Rows.uptoBulkAll]
    | cons d a ih =>
      show Rows.uptoBulk d + Rows.uptoBulkAll (a ++ b) = Rows.uptoBulk d + Rows.uptoBulkAll a + Rows.uptoBulkAll b
      omega
  intro n
  induction n with
  | zero => exact ⟨fun i hi => absurd hi (by omega), fun _ => Nat.zero_le _⟩
  | succ n ih =>
    have e : Rows.uptoBulkAll ((List.range (n + 1)).map D) = Rows.uptoBulkAll ((List.range n).map D) + Rows.uptoBulk (D n) := by
      rw [List.range_succ, List.map_append, app]
      rfl
    rw [e]
    refine ⟨fun i hi => ?_, fun h => ?_⟩
    · by_cases hin : i < n
      · have := ih.1 i hin
        omega
      · obtain rfl : i = n := by omega
        omega
    · have h1 := ih.2 fun i hi => h i (by omega)
      have h2 := h n (by omega)
      omega
theorem getD_range {α : Type} (y : Nat → α) (z : α) (n i : Nat) (hi : i < n) : ((List.range n).map y).getD i z = y i := by
  rw [List.getD_eq_getElem?_getD, List.getElem?_map, List.getElem?_range hi]
  rfl
theorem getD_out {α : Type} (y : Nat → α) (z : α) (n i : Nat) (hi : ¬ i < n) : ((List.range n).map y).getD i z = z := by
  rw [List.getD_eq_getElem?_getD, List.getElem?_eq_none (by simp; omega)]
  rfl

theorem bulk_lits {H : Type} (k : IntKind) (zs : List Int) : Rows.uptoBulkAll (H := H) (lits k zs) = zs.length := by
  induction zs with
  | nil => rfl
  | cons z zs ih =>
    show 1 + Rows.uptoBulkAll (lits k zs) = _
    rw [ih, List.length_cons]
    omega
theorem getD_take {α : Type} (l : List α) (n j : Nat) (z : α) (h : j < n) : (l.take n).getD j z = l.getD j z := by
  rw [List.getD_eq_getElem?_getD, List.getD_eq_getElem?_getD, List.getElem?_take, if_pos h]
/-- Cells in a row at an address. -/
theorem cells_of {W : World} {a : Addr} {n q : Nat} {xs : List Value} (hq : 0 < q) (hl : xs.length = n * q) (hc : ∀ j u, xs[j]? = some u → W.cell? (a.add j) = some u) : CellsIn W q (some a) n xs := by
  refine ⟨hl, ?_⟩
  by_cases h0 : n = 0
  · exact .inl h0
  · obtain ⟨b, o, sp⟩ := a
    have hp : 0 < xs.length := by rw [hl]; exact Nat.mul_pos (by omega) (by omega)
    have c0 := hc 0 _ (List.getElem?_eq_getElem hp)
    have hs : sp = none := cell_spot (by simpa [Addr.add] using c0)
    subst hs
    refine .inr ⟨b, o, rfl, ?_, fun j u hu => ?_⟩
    · have := Own.cell_lt c0
      rw [Ro.add_plain] at this
      exact this
    · have := hc j u hu
      rw [Ro.add_plain] at this
      exact this
/-- Numbers that came in. -/
theorem i64s_of {H : Type} {enc : TypeId × Value → H} {W : World} {base : Nat} {sp : Nat → Bool} {hd : Bool} {fuel : Nat} {v : Value} {x : DataW H × List MemPlace}
    (h : DataW.trod enc Try.prog W base sp hd fuel 22 [v] = some x) : ∃ y : Sl × List Int, v = slV y.1 ∧ y.1.2.1 = y.2.length ∧ CellsIn W 1 y.1.1 y.1.2.1 (i64s y.2) ∧ Neat y.1 ∧ y.2.length ≤ Rows.uptoBulk x.1 := by
  rcases open_ints Try.underlying22 Try.underlying3 (by kernel_rfl) h with ⟨hcs, hx⟩ | ⟨a, len, cap, zs, hcs, _, hl, hm, hz, hx, hcell, hwf⟩
  · exact ⟨((none, 0, 0), []), by simpa [slV] using hcs, rfl, ⟨rfl, .inl rfl⟩, fun _ => rfl, Nat.zero_le _⟩
  · have hlz : len ≤ zs.length := by rw [hz]; split <;> omega
    have hL : (zs.take len).length = len := by simp; omega
    refine ⟨((some a, len, cap), zs.take len), by simpa [slV] using hcs, hL.symm, cells_of (by decide) (by rw [i64s_len, hL]; show len = len * 1; omega) fun j u hu => ?_, (fun e => by cases e), ?_⟩
    · have hj : j < len := by
        have := (List.getElem?_eq_some_iff.1 hu).1
        rw [i64s_len, hL] at this
        exact this
      rw [i64s_at (zs.take len) j (by rw [hL]; exact hj), getD_take _ _ _ _ hj] at hu
      injection hu with hu
      rw [← hu]
      exact hcell j (by omega)
    · rw [hx]
      simp only [Rows.uptoBulk, bulk_lits]
      omega
/-- How large an element of the data is when it is a number. -/
theorem wf_bounds {n : Int} (h : (Lit.int .i64 n).wf = true) : -9223372036854775808 ≤ n ∧ n ≤ 9223372036854775807 := by
  simp [Lit.wf, IntKind.min, IntKind.max, IntKind.signed, IntKind.bits] at h
  omega
end Go.Proofs.Ytmlfnihicocilaa.Ci
