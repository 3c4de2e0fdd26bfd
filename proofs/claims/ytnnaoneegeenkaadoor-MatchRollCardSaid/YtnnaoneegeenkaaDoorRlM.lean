/- Which of the five families' cards stand, and which are refused (P13.1). -/
import Derived.Test.YtnnaoneegeenkaaDoorRlF
namespace Go.Proofs.YtnnaoneegeenkaaDoor.Kc
open Go.ChangeShapes Go.WideShapes Go.ChangeAt Go.RowKit Own Ro

/-- All cards, family by family. -/
def AL : List Cd := FLc ++ FLs ++ FLb ++ FLe ++ FLr
theorem AL_len : AL.length = 27 := rfl
def dupB (i : Nat) : Bool := (List.range i).any fun k => decide ((AL.getD k cd0).name = (AL.getD i cd0).name)
/-- Behind i of them: those that stand, those that are refused. -/
def stI (i : Nat) : List Cd := ((List.range i).filter fun k => !dupB k).map fun k => AL.getD k cd0
def rfI (i : Nat) : List Cd := ((List.range i).filter fun k => dupB k).map fun k => AL.getD k cd0
def SL : List Cd := stI 27
def RL : List Cd := rfI 27
theorem SL_len : SL.length = 22 := by decide +kernel
theorem RL_len : RL.length = 5 := by decide +kernel
theorem st_len : ∀ i ≤ 27, (stI i).length ≤ 22 := by decide +kernel
theorem rf_len : ∀ i ≤ 27, (rfI i).length ≤ 5 := by decide +kernel
theorem stI_succ (i : Nat) : stI (i + 1) = if dupB i then stI i else stI i ++ [AL.getD i cd0] := by
  unfold stI
  rw [List.range_succ, List.filter_append, List.map_append]
  cases h : dupB i <;> simp [h]
theorem rfI_succ (i : Nat) : rfI (i + 1) = if dupB i then rfI i ++ [AL.getD i cd0] else rfI i := by
  unfold rfI
  rw [List.range_succ, List.filter_append, List.map_append]
  cases h : dupB i <;> simp [h]
/-- A name is among those that stand just if it came ahead. -/
theorem st_dup : ∀ i < 27, (stI i).any (fun d => decide (d.name = (AL.getD i cd0).name)) = dupB i := by decide +kernel
theorem AL_ok : ∀ i < 27, CardOk (AL.getD i cd0) := by
  unfold CardOk TextsOk okText
  decide +kernel
theorem AL_small : ∀ i < 27, (AL.getD i cd0).name.length ≤ 31 ∧ (AL.getD i cd0).fam.length ≤ 31 ∧ (AL.getD i cd0).quirk.length ≤ 31 ∧ 1 ≤ (AL.getD i cd0).compat.length ∧ (AL.getD i cd0).compat.length ≤ 2 ∧ ∀ j < 3, ((AL.getD i cd0).compat.getD j []).length ≤ 63 := by decide +kernel
theorem out_len {α : Type} (z : α) {L : List α} {k : Nat} (h : L.length ≤ k) : L.getD k z = z := by
  rw [List.getD_eq_getElem?_getD, List.getElem?_eq_none h]
  rfl
theorem mild_small {d : Cd} (h : d.name.length ≤ 31 ∧ d.fam.length ≤ 31 ∧ d.quirk.length ≤ 31 ∧ 1 ≤ d.compat.length ∧ d.compat.length ≤ 2 ∧ ∀ j < 3, (d.compat.getD j []).length ≤ 63) : MildC 63 d := by
  obtain ⟨h1, h2, h3, _, h4, h5⟩ := h
  refine ⟨by omega, by omega, by omega, by omega, fun j => ?_⟩
  by_cases hj : j < 3
  · exact h5 j hj
  · rw [out_len [] (by omega)]
    exact Nat.zero_le _
theorem mild_zero (M : Nat) : MildC M cd0 := ⟨Nat.zero_le _, Nat.zero_le _, Nat.zero_le _, Nat.zero_le _, fun j => by simp [cd0]⟩
theorem mild_up {M M' : Nat} {d : Cd} (h : MildC M d) (hM : M ≤ M') : MildC M' d := ⟨Nat.le_trans h.1 hM, Nat.le_trans h.2.1 hM, Nat.le_trans h.2.2.1 hM, Nat.le_trans h.2.2.2.1 hM, fun k => Nat.le_trans (h.2.2.2.2 k) hM⟩
theorem mild_AL (k : Nat) : MildC 63 (AL.getD k cd0) := by
  by_cases h : k < 27
  · exact mild_small (AL_small k h)
  · rw [out_len cd0 (by rw [AL_len]; omega)]
    exact mild_zero _
end Go.Proofs.YtnnaoneegeenkaaDoor.Kc
