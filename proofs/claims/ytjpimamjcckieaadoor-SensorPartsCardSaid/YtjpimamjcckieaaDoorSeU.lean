/- Marks: what the document makes of them. -/
import Derived.Test.YtjpimamjcckieaaDoorSeY
namespace Go.Proofs.YtjpimamjcckieaaDoor.Se
open Go.ChangeShapes Go.WideShapes Go.ChangeAt Go.RowKit Own Ro

/-- The document counts; where they rise it is the same. -/
theorem zr_count {xs : List Int} {deg : Int} {k r : Nat} (h : zr xs deg k = some r) (hl : ¬ (0 < k ∧ xs[k]! ≤ xs[k - 1]!)) (hd : xs[k]! ≤ deg) : zr xs deg (k + 1) = some (r + 1) := by
  rw [zr_go h hl, if_pos hd]
  have hr : r = k := by
    have facts : ∀ {k r : Nat}, zr xs deg k = some r → r ≤ k ∧ (∀ i, r ≤ i → i < k → deg < xs[i]!) := by
      intro k
      induction k with
      | zero =>
        intro r h
        obtain rfl : 0 = r := Option.some.inj h
        exact ⟨Nat.le_refl _, fun i _ hi => absurd hi (Nat.not_lt_zero _)⟩
      | succ k ih =>
        intro r h
        cases e : zr xs deg k with
        | none => rw [zr_none e (Nat.le_succ k)] at h; cases h
        | some r0 =>
          obtain ⟨h1, h3⟩ := ih e
          by_cases hl : 0 < k ∧ xs[k]! ≤ xs[k - 1]!
          · rw [zr_stop e hl.1 hl.2] at h; cases h
          · rw [zr_go e hl] at h
            by_cases hd : xs[k]! ≤ deg
            · rw [if_pos hd] at h
              obtain rfl : k + 1 = r := Option.some.inj h
              exact ⟨Nat.le_refl _, fun i hi hi' => by omega⟩
            · rw [if_neg hd] at h
              obtain rfl : r0 = r := Option.some.inj h
              refine ⟨by omega, fun i hi hi' => ?_⟩
              by_cases c : i = k
              · rw [c]; omega
              · exact h3 i hi (by omega)
    obtain ⟨g1, g2⟩ := facts h
    by_cases c : r = k
    · exact c
    · have g3 := g2 (k - 1) (by omega) (by omega)
      have g4 : ¬ xs[k]! ≤ xs[k - 1]! := fun q => hl ⟨by omega, q⟩
      omega
  rw [hr]
end Go.Proofs.YtjpimamjcckieaaDoor.Se
