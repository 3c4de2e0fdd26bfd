/- Steps that came in as an argument. -/
import Derived.Test.YthalnepbafnogaaDoorIn
import Derived.Test.YthalnepbafnogaaDoorCrK
namespace Go.Proofs.YthalnepbafnogaaDoor.Cin
open Go.ChangeShapes Go.WideShapes Go.ChangeAt Go.RowKit Ro Cr
set_option linter.unusedVariables false

set_option maxRecDepth 100000 in
/-- Steps that came in. -/
theorem steps_of {H : Type} {enc : TypeId × Value → H} {W : World} {base : Nat} {sp : Nat → Bool} {hd : Bool} {fuel : Nat} {A : Option Addr} {len cap : Nat} {x : DataW H × List MemPlace}
    (h : DataW.trod enc Tryd.prog W base sp hd fuel 38 [.slice A len cap] = some x) : ∃ L : List St, len = L.length ∧ CellsIn W 3 A len (stepsV L) ∧ len ≤ 9223372036854775807 ∧ ∀ k, (L.getD k (0, 0, 0)).2.1 ≤ 9223372036854775807 := by
  have ce : Tryd.prog.cellsOf 40 = 3 := by kernel_rfl
  have c1 : Tryd.prog.cellsOf 3 = 1 := by kernel_rfl
  have c2 : Tryd.prog.cellsOf 2 = 1 := by kernel_rfl
  rcases Go.Deep.open_slice Tryd.underlying38 h with ⟨hcs, hx⟩ | ⟨a, l, c, m, n, D, Pl, hcs, _, hl, hm, hmm, hx, hcell⟩
  · simp at hcs
    obtain ⟨rfl, rfl, rfl⟩ := hcs
    exact ⟨[], rfl, ⟨rfl, .inl rfl⟩, by decide, fun k => by show (0 : Int) ≤ _; omega⟩
  · simp at hcs
    obtain ⟨rfl, rfl, rfl⟩ := hcs
    have hlm : len ≤ m := by rw [hmm]; split <;> omega
    obtain ⟨y, hy⟩ := Go.Deep.choose_lt (n := len) (p := fun i (y : St) => (W.cell? (a.add (i * 3)) = some (.int .i64 y.1) ∧ W.cell? (a.add (i * 3 + 1)) = some (.int .i64 y.2.1) ∧ W.cell? (a.add (i * 3 + 2)) = some (.int .i64 y.2.2)) ∧ y.2.1 ≤ 9223372036854775807 ) fun i hi => by
      obtain ⟨cs', h1, h2⟩ := hcell i (by omega)
      rw [ce] at h1
      obtain ⟨_, hlen, hc⟩ := World.cells?_some h1
      obtain ⟨y0, y1, y2, n', hxy, _, g0, g1, g2⟩ := Go.Deep.trod_struct3 Tryd.underlying40 h2
      match cs', hlen with
      | [v0, v1, v2], _ =>
        simp [c1, c2] at g0 g1 g2
        obtain ⟨z0, e0, x0, hz0⟩ := DataW.trod_int Tryd.underlying3 g0
        obtain ⟨z1, e1, x1, hz1⟩ := DataW.trod_int Tryd.underlying2 g1
        obtain ⟨z2, e2, x2, hz2⟩ := DataW.trod_int Tryd.underlying2 g2
        injection e0 with e0
        injection e1 with e1
        injection e2 with e2
        have q0 := hc 0 (by omega)
        have q1 := hc 1 (by omega)
        have q2 := hc 2 (by omega)
        rw [Go.Deep.add_add] at q0 q1 q2
        refine ⟨(z0, z1, z2), ⟨by simpa [e0] using q0, by simpa [e1] using q1, by simpa [e2] using q2⟩, (wf_bounds hz1).2⟩
    have hmx : cap ≤ 9223372036854775807 := by have := hm; unfold maxLen at this; omega
    have hL : ((List.range len).map y).length = len := by simp
    refine ⟨(List.range len).map y, hL.symm, cells_of (by decide) (by unfold stepsV; rw [flat_len _ _ stV_len, hL]) fun j u hu => ?_, by omega, fun k => ?_⟩
    · have hj : j < len * 3 := by
        have := (List.getElem?_eq_some_iff.1 hu).1
        unfold stepsV at this
        rw [flat_len _ _ stV_len, hL] at this
        exact this
      have e : j = j / 3 * 3 + j % 3 := by omega
      obtain ⟨⟨c0, c1, c2⟩, _⟩ := hy (j / 3) (by omega)
      rw [e, steps_at _ (j / 3) (j % 3) (by rw [hL]; omega) (by omega), getD_range y _ len _ (by omega)] at hu
      rw [e]
      have h3 : j % 3 = 0 ∨ j % 3 = 1 ∨ j % 3 = 2 := by omega
      rcases h3 with h0 | h0 | h0
      · rw [h0] at hu ⊢
        injection hu with hu
        rw [← hu]
        exact c0
      · rw [h0] at hu ⊢
        injection hu with hu
        rw [← hu]
        exact c1
      · rw [h0] at hu ⊢
        injection hu with hu
        rw [← hu]
        exact c2
    · by_cases hk : k < len
      · rw [getD_range y _ len k hk]
        exact (hy k hk).2
      · rw [getD_out y _ len k hk]
        show (0 : Int) ≤ _
        omega
end Go.Proofs.YthalnepbafnogaaDoor.Cin
