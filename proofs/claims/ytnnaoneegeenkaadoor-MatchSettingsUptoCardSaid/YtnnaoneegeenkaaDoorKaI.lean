/- Lists that came in: what the readings of the arguments say of the memory. -/
import Derived.Test.YtnnaoneegeenkaaDoorRows
import Derived.Test.YtnnaoneegeenkaaDoorKaA
import Derived.WalkKit
import Derived.ProofKit
import Derived.OpenShut
import Derived.ShutString
import Derived.ChangeOld
import Derived.SliceStrings
import Derived.Below
import Derived.JoinedCond
import Derived.Deep.Slices
import Derived.Deep.SlicePairs
import Derived.Deep.Strs
namespace Go.Proofs.YtnnaoneegeenkaaDoor.Kin
open Go.ChangeShapes Go.WideShapes Go.ChangeAt Go.RowKit Ro Ka
set_option linter.unusedVariables false

theorem own : ownKnob Tryd.prog.godebug = none := by kernel_rfl
theorem laidOut : laidOutB Tryd.prog = true := by kernel_rfl
theorem cell_spot {w : World} {b o : Nat} {sp : Option Nat} {u : Value} (h : w.cell? ⟨b, o, sp⟩ = some u) : sp = none := by
  unfold World.cell? at h
  split at h
  · cases sp with
    | none => rfl
    | some s => simp at h
  · cases h
theorem bulk_range {H : Type} (D : Nat → DataW H) : ∀ n, (∀ i, i < n → Rows.uptoBulk (D i) ≤ Rows.uptoBulkAll ((List.range n).map D)) ∧ ((∀ i, i < n → 1 ≤ Rows.uptoBulk (D i)) → n ≤ Rows.uptoBulkAll ((List.range n).map D)) := by
  have app : ∀ (a b : List (DataW H)), Rows.uptoBulkAll (a ++ b) = Rows.uptoBulkAll a + Rows.uptoBulkAll b := by
    intro a b
    induction a with
    | nil => simp [Rows.uptoBulkAll]
    | cons d a ih =>
      show Rows.uptoBulk d + Rows.uptoBulkAll (a ++ b) = Rows.uptoBulk d + Rows.uptoBulkAll a + Rows.uptoBulkAll b
      omega
  intro n
  induction n with
  | zero => exact ⟨fun i hi => absurd hi (by omega), fun _ => Nat.zero_le _⟩
  | succ n ih =>
    have e : Rows.uptoBulkAll ((List.range (n + 1)).map D) = Rows.uptoBulkAll ((List.range n).map D) + Rows.uptoBulk (D n) := by
      rw [List.range_succ, List.map_append, app]
      rfl
    rw [e]
    refine ⟨fun i hi => ?_, fun h => ?_⟩
    · by_cases hin : i < n
      · have := ih.1 i hin
        omega
      · obtain rfl : i = n := by omega
        omega
    · have h1 := ih.2 fun i hi => h i (by omega)
      have h2 := h n (by omega)
      omega
theorem getD_range {α : Type} (y : Nat → α) (z : α) (n i : Nat) (hi : i < n) : ((List.range n).map y).getD i z = y i := by
  rw [List.getD_eq_getElem?_getD, List.getElem?_map, List.getElem?_range hi]
  rfl
theorem getD_out {α : Type} (y : Nat → α) (z : α) (n i : Nat) (hi : ¬ i < n) : ((List.range n).map y).getD i z = z := by
  rw [List.getD_eq_getElem?_getD, List.getElem?_eq_none (by simp; omega)]
  rfl

theorem bulk_lits {H : Type} (k : IntKind) (zs : List Int) : Rows.uptoBulkAll (H := H) (lits k zs) = zs.length := by
  induction zs with
  | nil => rfl
  | cons z zs ih =>
    show 1 + Rows.uptoBulkAll (lits k zs) = _
    rw [ih, List.length_cons]
    omega
theorem getD_take {α : Type} (l : List α) (n j : Nat) (z : α) (h : j < n) : (l.take n).getD j z = l.getD j z := by
  rw [List.getD_eq_getElem?_getD, List.getD_eq_getElem?_getD, List.getElem?_take, if_pos h]
/-- Cells in a row at an address. -/
theorem cells_of {W : World} {a : Addr} {n q : Nat} {xs : List Value} (hq : 0 < q) (hl : xs.length = n * q) (hc : ∀ j u, xs[j]? = some u → W.cell? (a.add j) = some u) : CellsIn W q (some a) n xs := by
  refine ⟨hl, ?_⟩
  by_cases h0 : n = 0
  · exact .inl h0
  · obtain ⟨b, o, sp⟩ := a
    have hp : 0 < xs.length := by rw [hl]; exact Nat.mul_pos (by omega) (by omega)
    have c0 := hc 0 _ (List.getElem?_eq_getElem hp)
    have hs : sp = none := cell_spot (by simpa [Addr.add] using c0)
    subst hs
    refine .inr ⟨b, o, rfl, ?_, fun j u hu => ?_⟩
    · have := Own.cell_lt c0
      rw [Ro.add_plain] at this
      exact this
    · have := hc j u hu
      rw [Ro.add_plain] at this
      exact this
/-- Numbers that came in. -/
theorem i64s_of {H : Type} {enc : TypeId × Value → H} {W : World} {base : Nat} {sp : Nat → Bool} {hd : Bool} {fuel : Nat} {v : Value} {x : DataW H × List MemPlace}
    (h : DataW.trod enc Tryd.prog W base sp hd fuel 32 [v] = some x) : ∃ y : Sl × List Int, v = slV y.1 ∧ y.1.2.1 = y.2.length ∧ CellsIn W 1 y.1.1 y.1.2.1 (i64s y.2) ∧ Neat y.1 ∧ y.2.length ≤ Rows.uptoBulk x.1 := by
  rcases open_ints Tryd.underlying32 Tryd.underlying2 (by kernel_rfl) h with ⟨hcs, hx⟩ | ⟨a, len, cap, zs, hcs, _, hl, hm, hz, hx, hcell, hwf⟩
  · exact ⟨((none, 0, 0), []), by simpa [slV] using hcs, rfl, ⟨rfl, .inl rfl⟩, fun _ => rfl, Nat.zero_le _⟩
  · have hlz : len ≤ zs.length := by rw [hz]; split <;> omega
    have hL : (zs.take len).length = len := by simp; omega
    refine ⟨((some a, len, cap), zs.take len), by simpa [slV] using hcs, hL.symm, cells_of (by decide) (by rw [i64s_len, hL]; show len = len * 1; omega) fun j u hu => ?_, (fun e => by cases e), ?_⟩
    · have hj : j < len := by
        have := (List.getElem?_eq_some_iff.1 hu).1
        rw [i64s_len, hL] at this
        exact this
      rw [i64s_at (zs.take len) j (by rw [hL]; exact hj), getD_take _ _ _ _ hj] at hu
      injection hu with hu
      rw [← hu]
      exact hcell j (by omega)
    · rw [hx]
      simp only [Rows.uptoBulk, bulk_lits]
      omega
set_option maxRecDepth 100000 in
/-- Tables that came in. -/
theorem reads_of {H : Type} {enc : TypeId × Value → H} {W : World} {base : Nat} {sp : Nat → Bool} {hd : Bool} {fuel : Nat} {A : Option Addr} {len cap : Nat} {x : DataW H × List MemPlace}
    (h : DataW.trod enc Tryd.prog W base sp hd fuel 128 [.slice A len cap] = some x) : ∃ (L : List Rt) (R : List Sl), Ro.RowsIn KR W A len L R ∧ (∀ k, Neat (R.getD k sl0)) ∧ len ≤ Rows.uptoBulk x.1 ∧ ∀ k, (L.getD k (0, [])).2.length ≤ Rows.uptoBulk x.1 := by
  have ce : Tryd.prog.cellsOf 131 = 2 := by kernel_rfl
  have ci : Tryd.prog.cellsOf 2 = 1 := by kernel_rfl
  have cp : Tryd.prog.cellsOf 32 = 1 := by kernel_rfl
  rcases Go.Deep.open_slice Tryd.underlying128 h with ⟨hcs, hx⟩ | ⟨a, l, c, m, n, D, Pl, hcs, _, hl, hm, hmm, hx, hcell⟩
  · simp at hcs
    obtain ⟨rfl, rfl, rfl⟩ := hcs
    exact ⟨[], [], ⟨rfl, rfl, ⟨rfl, .inl rfl⟩, fun i hi => absurd hi (by omega)⟩, fun k _ => rfl, Nat.zero_le _, fun k => Nat.zero_le _⟩
  · simp at hcs
    obtain ⟨rfl, rfl, rfl⟩ := hcs
    have hlm : len ≤ m := by rw [hmm]; split <;> omega
    obtain ⟨y, hy⟩ := Go.Deep.choose_lt (n := len) (p := fun i (y : Rt × Sl) => (W.cell? (a.add (i * 2)) = some (.int .i64 y.1.1) ∧ W.cell? (a.add (i * 2 + 1)) = some (slV y.2)) ∧ (y.2.2.1 = y.1.2.length ∧ CellsIn W 1 y.2.1 y.2.2.1 (i64s y.1.2)) ∧ Neat y.2 ∧ y.1.2.length + 1 ≤ Rows.uptoBulk (D i)) fun i hi => by
      obtain ⟨cs', h1, h2⟩ := hcell i (by omega)
      rw [ce] at h1
      obtain ⟨_, hlen, hc⟩ := World.cells?_some h1
      obtain ⟨y0, y1, n', hxy, _, g0, g1⟩ := trod_struct2 Tryd.underlying131 h2
      match cs', hlen with
      | [v0, v1], _ =>
        simp [ci, cp] at g0 g1
        obtain ⟨z, e0, x0, hz⟩ := DataW.trod_int Tryd.underlying2 g0
        obtain ⟨yp, e1, hpl, hp, hn, hb1⟩ := i64s_of g1
        injection e0 with e0
        have q0 := hc 0 (by omega)
        have q1 := hc 1 (by omega)
        rw [Go.Deep.add_add] at q0 q1
        have hD : D i = .agg [y0.1, y1.1] := congrArg Prod.fst hxy
        have hDb : Rows.uptoBulk (D i) = 1 + (Rows.uptoBulk y1.1 + 0) + 1 := by
          rw [hD, x0]
          rfl
        refine ⟨((z, yp.2), yp.1), ⟨by simpa [e0] using q0, by simpa [e1] using q1⟩, ⟨hpl, hp⟩, hn, ?_⟩
        show yp.2.length + 1 ≤ _; omega
    obtain ⟨b1, b2⟩ := bulk_range D len
    have hb : Rows.uptoBulkAll ((List.range len).map D) ≤ Rows.uptoBulk x.1 := by
      rw [hx]
      simp only [Rows.uptoBulk]
      omega
    have hlb := b2 fun i hi => by have := (hy i hi).2.2.2; omega
    have hL : ((List.range len).map fun i => (y i).1).length = len := by simp
    have hR : ((List.range len).map fun i => (y i).2).length = len := by simp
    refine ⟨(List.range len).map fun i => (y i).1, (List.range len).map fun i => (y i).2, ⟨hL.symm, by rw [hL, hR], cells_of (by decide) (by rw [rows_len KR _ _ (by rw [hL, hR]), hL]) fun j u hu => ?_, fun i hi => ?_⟩, fun k => ?_, by omega, fun k => ?_⟩
    · have hj : j < len * 2 := by
        have := (List.getElem?_eq_some_iff.1 hu).1
        rw [rows_len KR _ _ (by rw [hL, hR]), hL] at this
        exact this
      have e : j = j / 2 * KR.k + j % 2 := by show j = j / 2 * 2 + j % 2; omega
      have hj2 : j / 2 < len := by omega
      have hj3 : j % 2 < KR.k := by show j % 2 < 2; omega
      obtain ⟨⟨c0, c1⟩, _⟩ := hy (j / 2) hj2
      rw [e, rows_at KR _ _ (by rw [hL, hR]) (j / 2) (j % 2) (by rw [hL]; exact hj2) hj3, getD_range (fun i => (y i).1) _ len _ hj2, getD_range (fun i => (y i).2) _ len _ hj2] at hu
      rw [e]
      rcases Nat.mod_two_eq_zero_or_one j with h0 | h0
      · rw [h0] at hu ⊢
        injection hu with hu
        rw [← hu]
        exact c0
      · rw [h0] at hu ⊢
        injection hu with hu
        rw [← hu]
        exact c1
    · obtain ⟨_, h1, _⟩ := hy i hi
      rw [getD_range (fun i => (y i).1) _ len i hi, getD_range (fun i => (y i).2) _ len i hi]
      exact h1
    · by_cases hk : k < len
      · rw [getD_range (fun i => (y i).2) _ len k hk]
        exact (hy k hk).2.2.1
      · rw [getD_out (fun i => (y i).2) _ len k hk]
        exact fun _ => rfl
    · by_cases hk : k < len
      · rw [getD_range (fun i => (y i).1) _ len k hk]
        have h3 := (hy k hk).2.2.2
        have h4 := b1 k hk
        show (y k).1.2.length ≤ _
        omega
      · rw [getD_out (fun i => (y i).1) _ len k hk]
        exact Nat.zero_le _
end Go.Proofs.YtnnaoneegeenkaaDoor.Kin
