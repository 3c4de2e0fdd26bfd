/- Small numbers that came in as arguments. -/
import Derived.Test.YtjpimamjcckieaaDoorRows
import Derived.Test.YtjpimamjcckieaaDoorSeW
import Derived.WalkKit
import Derived.ProofKit
import Derived.OpenShut
import Derived.ShutString
import Derived.ChangeOld
import Derived.SliceStrings
import Derived.Below
import Derived.JoinedCond
import Derived.Deep.Slices
import Derived.Deep.SlicePairs
import Derived.Deep.Strs
namespace Go.Proofs.YtjpimamjcckieaaDoor.Cin
open Go.ChangeShapes Go.WideShapes Go.ChangeAt Go.RowKit Ro Se
set_option linter.unusedVariables false

theorem cell_spot {w : World} {b o : Nat} {sp : Option Nat} {u : Value} (h : w.cell? ⟨b, o, sp⟩ = some u) : sp = none := by
  unfold World.cell? at h
  split at h
  · cases sp with
    | none => rfl
    | some s => simp at h
  · cases h
theorem bulk_lits {H : Type} (k : IntKind) (zs : List Int) : Rows.uptoBulkAll (H := H) (lits k zs) = zs.length := by
  induction zs with
  | nil => rfl
  | cons z zs ih =>
    show 1 + Rows.uptoBulkAll (lits k zs) = _
    rw [ih, List.length_cons]
    omega
theorem getD_take {α : Type} (l : List α) (n j : Nat) (z : α) (h : j < n) : (l.take n).getD j z = l.getD j z := by
  rw [List.getD_eq_getElem?_getD, List.getD_eq_getElem?_getD, List.getElem?_take, if_pos h]
/-- Cells in a row at an address. -/
theorem cells_of {W : World} {a : Addr} {n q : Nat} {xs : List Value} (hq : 0 < q) (hl : xs.length = n * q) (hc : ∀ j u, xs[j]? = some u → W.cell? (a.add j) = some u) : CellsIn W q (some a) n xs := by
  refine ⟨hl, ?_⟩
  by_cases h0 : n = 0
  · exact .inl h0
  · obtain ⟨b, o, sp⟩ := a
    have hp : 0 < xs.length := by rw [hl]; exact Nat.mul_pos (by omega) (by omega)
    have c0 := hc 0 _ (List.getElem?_eq_getElem hp)
    have hs : sp = none := cell_spot (by simpa [Addr.add] using c0)
    subst hs
    refine .inr ⟨b, o, rfl, ?_, fun j u hu => ?_⟩
    · have := Own.cell_lt c0
      rw [Ro.add_plain] at this
      exact this
    · have := hc j u hu
      rw [Ro.add_plain] at this
      exact this
/-- Small numbers that came in. -/
theorem i8s_of {H : Type} {enc : TypeId × Value → H} {W : World} {base : Nat} {sp : Nat → Bool} {hd : Bool} {fuel : Nat} {v : Value} {x : DataW H × List MemPlace}
    (h : DataW.trod enc Tryd.prog W base sp hd fuel 22 [v] = some x) : ∃ y : Sl × List Int, v = slV y.1 ∧ y.1.2.1 = y.2.length ∧ CellsIn W 1 y.1.1 y.1.2.1 (i8s y.2) ∧ Neat y.1 ∧ y.2.length ≤ Rows.uptoBulk x.1 ∧ ∀ n, n ∈ y.2 → -128 ≤ n ∧ n ≤ 127 := by
  rcases open_ints Tryd.underlying22 Tryd.underlying23 (by kernel_rfl) h with ⟨hcs, hx⟩ | ⟨a, len, cap, zs, hcs, _, hl, hm, hz, hx, hcell, hwf⟩
  · exact ⟨((none, 0, 0), []), by simpa [slV] using hcs, rfl, ⟨rfl, .inl rfl⟩, fun _ => rfl, Nat.zero_le _, fun n hn => by cases hn⟩
  · have hlz : len ≤ zs.length := by rw [hz]; split <;> omega
    have hL : (zs.take len).length = len := by simp; omega
    refine ⟨((some a, len, cap), zs.take len), by simpa [slV] using hcs, hL.symm, cells_of (by decide) (by rw [i8s_len, hL]; show len = len * 1; omega) fun j u hu => ?_, (fun e => by cases e), ?_, fun n hn => ?_⟩
    · have hj : j < len := by
        have := (List.getElem?_eq_some_iff.1 hu).1
        rw [i8s_len, hL] at this
        exact this
      have hu2 : some (Value.int .i8 (zs.getD j 0)) = some u := by
        rw [← hu]
        unfold i8s
        rw [List.getElem?_map, List.getElem?_eq_getElem (by rw [hL]; exact hj), List.getElem_take, List.getD_eq_getElem?_getD, List.getElem?_eq_getElem (by omega)]
        rfl
      injection hu2 with hu2
      rw [← hu2]
      exact hcell j (by omega)
    · rw [hx]
      simp only [Rows.uptoBulk, bulk_lits]
      omega
    · have := hwf n (List.mem_of_mem_take hn)
      simp [Lit.wf, IntKind.min, IntKind.max, IntKind.signed, IntKind.bits] at this
      omega
end Go.Proofs.YtjpimamjcckieaaDoor.Cin
