/- Cards and texts that came in. -/
import Derived.Below
import Derived.ChangeOld
import Derived.Deep.SlicePairs
import Derived.Deep.Slices
import Derived.Deep.Strs
import Derived.JoinedCond
import Derived.Lib.SmallJoins
import Derived.OpenShut
import Derived.ProofKit
import Derived.ShutString
import Derived.SliceStrings
import Derived.Test.YtnnaoneegeenkaaKcY
import Derived.Test.YtnnaoneegeenkaaRows
import Derived.WalkKit
namespace Go.Proofs.Ytnnaoneegeenkaa.Kin
open Go.ChangeShapes Go.WideShapes Go.ChangeAt Go.RowKit Ro
set_option linter.unusedVariables false

theorem laidOut : laidOutB Try.prog = true := by kernel_rfl
theorem cell_spot {w : World} {b o : Nat} {sp : Option Nat} {u : Value} (h : w.cell? ⟨b, o, sp⟩ = some u) : sp = none := by
  unfold World.cell? at h
  split at h
  · cases sp with
    | none => rfl
    | some s => simp at h
  · cases h
theorem bulk_range {H : Type} (D : Nat → DataW H) : ∀ n, (∀ i, i < n → Rows.uptoBulk (D i) ≤ Rows.uptoBulkAll ((List.range n).map D)) ∧ ((∀ i, i < n → 1 ≤ Rows.uptoBulk (D i)) → n ≤ Rows.uptoBulkAll ((List.range n).map D)) := by
  have app : ∀ (a b : List (DataW H)), Rows.uptoBulkAll (a ++ b) = Rows.uptoBulkAll a + Rows.uptoBulkAll b := by
    intro a b
    induction a with
    | nil => simp [Rows.uptoBulkAll]
    | cons d a ih =>
      show Rows.uptoBulk d + Rows.uptoBulkAll (a ++ b) = Rows.uptoBulk d + Rows.uptoBulkAll a + Rows.uptoBulkAll b
      omega
  intro n
  induction n with
  | zero => exact ⟨fun i hi => absurd hi (by omega), fun _ => Nat.zero_le _⟩
  | succ n ih =>
    have e : Rows.uptoBulkAll ((List.range (n + 1)).map D) = Rows.uptoBulkAll ((List.range n).map D) + Rows.uptoBulk (D n) := by
      rw [List.range_succ, List.map_append, app]
      rfl
    rw [e]
    refine ⟨fun i hi => ?_, fun h => ?_⟩
    · by_cases hin : i < n
      · have := ih.1 i hin
        omega
      · obtain rfl : i = n := by omega
        omega
    · have h1 := ih.2 fun i hi => h i (by omega)
      have h2 := h n (by omega)
      omega
theorem getD_range {α : Type} (y : Nat → α) (z : α) (n i : Nat) (hi : i < n) : ((List.range n).map y).getD i z = y i := by
  rw [List.getD_eq_getElem?_getD, List.getElem?_map, List.getElem?_range hi]
  rfl
theorem getD_out {α : Type} (y : Nat → α) (z : α) (n i : Nat) (hi : ¬ i < n) : ((List.range n).map y).getD i z = z := by
  rw [List.getD_eq_getElem?_getD, List.getElem?_eq_none (by simp; omega)]
  rfl

/-- Cells in a row at an address. -/
theorem cells_of {W : World} {a : Addr} {n q : Nat} {xs : List Value} (hq : 0 < q) (hl : xs.length = n * q) (hc : ∀ j u, xs[j]? = some u → W.cell? (a.add j) = some u) : CellsIn W q (some a) n xs := by
  refine ⟨hl, ?_⟩
  by_cases h0 : n = 0
  · exact .inl h0
  · obtain ⟨b, o, sp⟩ := a
    have hp : 0 < xs.length := by rw [hl]; exact Nat.mul_pos (by omega) (by omega)
    have c0 := hc 0 _ (List.getElem?_eq_getElem hp)
    have hs : sp = none := cell_spot (by simpa [Addr.add] using c0)
    subst hs
    refine .inr ⟨b, o, rfl, ?_, fun j u hu => ?_⟩
    · have := Own.cell_lt c0
      rw [Ro.add_plain] at this
      exact this
    · have := hc j u hu
      rw [Ro.add_plain] at this
      exact this
end Go.Proofs.Ytnnaoneegeenkaa.Kin
namespace Go.Proofs.Ytnnaoneegeenkaa.Kcin
open Go.ChangeShapes Go.WideShapes Go.ChangeAt Go.RowKit Ro Kc Kin

theorem texts_of {H : Type} {enc : TypeId × Value → H} {W : World} {base : Nat} {sp : Nat → Bool} {hd : Bool} {fuel : Nat} {v : Value} {x : DataW H × List MemPlace}
    (h : DataW.trod enc Try.prog W base sp hd fuel 23 [v] = some x) : ∃ y : Sl × List (List UInt8), v = slV y.1 ∧ y.1.2.1 = y.2.length ∧ CellsIn W 1 y.1.1 y.1.2.1 (strs y.2) ∧ Neat y.1 ∧ y.1.2.1 ≤ y.1.2.2 ∧ y.2.length ≤ Rows.uptoBulk x.1 ∧ ∀ k, (y.2.getD k []).length ≤ Rows.uptoBulk x.1 := by
  rcases Go.Deep.open_strs Try.underlying23 Try.underlying9 (by kernel_rfl) h with ⟨hcs, hx⟩ | ⟨a, len, cap, m, Sx, hcs, _, hl, hm, hmm, hx, hcell⟩
  · exact ⟨((none, 0, 0), []), by simpa [slV] using hcs, rfl, ⟨rfl, .inl rfl⟩, fun _ => rfl, Nat.le_refl _, Nat.zero_le _, fun k => by simp⟩
  · have hlm : len ≤ m := by rw [hmm]; split <;> omega
    have hL : ((List.range len).map fun i => (Sx i).data.toList).length = len := by simp
    obtain ⟨b1, b2⟩ := bulk_range (fun i => (DataW.lit (.string (Sx i).data.toList) : DataW H)) len
    have hb : Rows.uptoBulkAll ((List.range len).map fun i => (DataW.lit (.string (Sx i).data.toList) : DataW H)) ≤ Rows.uptoBulk x.1 := by
      rw [hx]
      simp only [Rows.uptoBulk]
      omega
    have hlb := b2 fun i hi => by simp only [Rows.uptoBulk]; omega
    refine ⟨((some a, len, cap), (List.range len).map fun i => (Sx i).data.toList), by simpa [slV] using hcs, hL.symm, cells_of (by decide) (by rw [strs_len, hL]; show len = len * 1; omega) fun j u hu => ?_, (fun e => by cases e), hl, by show ((List.range len).map fun i => (Sx i).data.toList).length ≤ _; omega, fun k => ?_⟩
    · have hj : j < len := by
        have := (List.getElem?_eq_some_iff.1 hu).1
        rw [strs_len, hL] at this
        exact this
      rw [strs_at _ j (by rw [hL]; exact hj), getD_range (fun i => (Sx i).data.toList) _ len j hj] at hu
      injection hu with hu
      rw [← hu, str_of]
      exact (hcell j (by omega)).1
    · show (((List.range len).map fun i => (Sx i).data.toList).getD k []).length ≤ _
      by_cases hk : k < len
      · rw [getD_range (fun i => (Sx i).data.toList) _ len k hk]
        have h1 := b1 k hk
        simp only [Rows.uptoBulk] at h1
        omega
      · rw [getD_out (fun i => (Sx i).data.toList) _ len k hk]
        exact Nat.zero_le _
set_option maxRecDepth 100000 in
/-- The cells of a card that came in. -/
theorem card_of {H : Type} {enc : TypeId × Value → H} {W : World} {base : Nat} {sp : Nat → Bool} {hd : Bool} {fuel : Nat} {cs : List Value} {x : DataW H × List MemPlace}
    (h : DataW.trod enc Try.prog W base sp hd fuel 37 cs = some x) (h7 : cs.length = 7) : ∃ y : Cd × Sl, cs = KC.row y ∧ y.2.2.1 = y.1.compat.length ∧ CellsIn W 1 y.2.1 y.2.2.1 (strs y.1.compat) ∧ Neat y.2 ∧ y.2.2.1 ≤ y.2.2.2 ∧ MildC (Rows.uptoBulk x.1) y.1 ∧ 1 ≤ Rows.uptoBulk x.1 := by
  have z1 : Try.prog.cellsOf 9 = 1 := by kernel_rfl
  have z2 : Try.prog.cellsOf 5 = 1 := by kernel_rfl
  have z3 : Try.prog.cellsOf 23 = 1 := by kernel_rfl
  have z4 : Try.prog.cellsOf 34 = 1 := by kernel_rfl
  have z5 : Try.prog.cellsOf 35 = 1 := by kernel_rfl
  obtain ⟨xs, n, _, rfl, hl, hlen, hf⟩ := DataW.trod_struct Try.underlying37 h
  match cs, h7 with
  | [v0, v1, v2, v3, v4, v5, v6], _ =>
    match xs, hlen with
    | [y0, y1, y2, y3, y4, y5, y6], _ =>
      have g0 := hf 0 _ rfl
      have g1 := hf 1 _ rfl
      have g2 := hf 2 _ rfl
      have g3 := hf 3 _ rfl
      have g4 := hf 4 _ rfl
      have g5 := hf 5 _ rfl
      have g6 := hf 6 _ rfl
      simp [z1, z2, z3, z4, z5] at g0 g1 g2 g3 g4 g5 g6
      obtain ⟨s0, e0, x0, _⟩ := DataW.trod_string Try.underlying9 g0
      obtain ⟨s1, e1, x1, _⟩ := DataW.trod_string Try.underlying9 g1
      obtain ⟨i2, e2, x2, _⟩ := DataW.trod_int Try.underlying5 g2
      obtain ⟨yt, e3, hpl, hp, hn, hcap, hb1, hb2⟩ := texts_of g3
      obtain ⟨i4, e4, x4, _⟩ := DataW.trod_int Try.underlying34 g4
      obtain ⟨s5, e5, x5, _⟩ := DataW.trod_string Try.underlying9 g5
      obtain ⟨i6, e6, x6, _⟩ := DataW.trod_int Try.underlying35 g6
      injection e0 with e0
      injection e1 with e1
      injection e2 with e2
      injection e4 with e4
      injection e5 with e5
      injection e6 with e6
      have hb : Rows.uptoBulk (DataW.agg [y0.1, y1.1, y2.1, y3.1, y4.1, y5.1, y6.1]) = (s0.data.toList.length + 1) + ((s1.data.toList.length + 1) + (1 + (Rows.uptoBulk y3.1 + (1 + ((s5.data.toList.length + 1) + (1 + 0)))))) + 1 := by
        rw [x0, x1, x2, x4, x5, x6]
        rfl
      refine ⟨(⟨s0.data.toList, s1.data.toList, i2, yt.2, i4, s5.data.toList, i6⟩, yt.1), ?_, hpl, hp, hn, hcap, ?_, ?_⟩
      · rw [e0, e1, e2, e3, e4, e5, e6]
        show _ = [Value.string (str s0.data.toList), Value.string (str s1.data.toList), _, _, _, Value.string (str s5.data.toList), _]
        rw [str_of, str_of, str_of]
      · show MildC (Rows.uptoBulk (DataW.agg [y0.1, y1.1, y2.1, y3.1, y4.1, y5.1, y6.1])) _
        rw [hb]
        exact ⟨by show s0.data.toList.length ≤ _; omega, by show s1.data.toList.length ≤ _; omega, by show s5.data.toList.length ≤ _; omega, by show yt.2.length ≤ _; omega, fun k => by have := hb2 k; show (yt.2.getD k []).length ≤ _; omega⟩
      · show 1 ≤ Rows.uptoBulk (DataW.agg [y0.1, y1.1, y2.1, y3.1, y4.1, y5.1, y6.1])
        rw [hb]
        omega
set_option maxRecDepth 100000 in
/-- Cards that came in. -/
theorem cards_of {H : Type} {enc : TypeId × Value → H} {W : World} {base : Nat} {sp : Nat → Bool} {hd : Bool} {fuel : Nat} {A : Option Addr} {len cap : Nat} {x : DataW H × List MemPlace}
    (h : DataW.trod enc Try.prog W base sp hd fuel 22 [.slice A len cap] = some x) : ∃ (L : List Cd) (R : List Sl), Ro.RowsIn KC W A len L R ∧ (∀ k, Neat (R.getD k sl0)) ∧ len ≤ cap ∧ MildL (Rows.uptoBulk x.1) L := by
  have ce : Try.prog.cellsOf 37 = 7 := by kernel_rfl
  rcases Go.Deep.open_slice Try.underlying22 h with ⟨hcs, hx⟩ | ⟨a, l, c, m, n, D, Pl, hcs, _, hl, hm, hmm, hx, hcell⟩
  · simp at hcs
    obtain ⟨rfl, rfl, rfl⟩ := hcs
    exact ⟨[], [], ⟨rfl, rfl, ⟨rfl, .inl rfl⟩, fun i hi => absurd hi (by omega)⟩, fun k _ => rfl, Nat.le_refl _, ⟨Nat.zero_le _, fun k => ⟨Nat.zero_le _, Nat.zero_le _, Nat.zero_le _, Nat.zero_le _, fun k => Nat.zero_le _⟩⟩⟩
  · simp at hcs
    obtain ⟨rfl, rfl, rfl⟩ := hcs
    have hlm : len ≤ m := by rw [hmm]; split <;> omega
    haveI : Inhabited (Cd × Sl) := ⟨(cd0, sl0)⟩
    obtain ⟨y, hy⟩ := Go.Deep.choose_lt (n := len) (p := fun i (y : Cd × Sl) => (∀ j u, (KC.row y)[j]? = some u → W.cell? (a.add (i * 7 + j)) = some u) ∧ (y.2.2.1 = y.1.compat.length ∧ CellsIn W 1 y.2.1 y.2.2.1 (strs y.1.compat)) ∧ Neat y.2 ∧ MildC (Rows.uptoBulk (D i)) y.1 ∧ 1 ≤ Rows.uptoBulk (D i)) fun i hi => by
      obtain ⟨cs', h1, h2⟩ := hcell i (by omega)
      rw [ce] at h1
      obtain ⟨_, hlen, hc⟩ := World.cells?_some h1
      obtain ⟨y, hrow, hpl, hp, hn, _, hmild, hone⟩ := card_of h2 hlen
      refine ⟨y, fun j u hu => ?_, ⟨hpl, hp⟩, hn, hmild, hone⟩
      rw [← hrow] at hu
      have hj : j < 7 := by rw [← hlen]; exact (List.getElem?_eq_some_iff.1 hu).1
      have q := hc j hj
      rw [Go.Deep.add_add] at q
      exact q.trans hu
    obtain ⟨b1, b2⟩ := bulk_range D len
    have hb : Rows.uptoBulkAll ((List.range len).map D) ≤ Rows.uptoBulk x.1 := by
      rw [hx]
      simp only [Rows.uptoBulk]
      omega
    have hlb := b2 fun i hi => (hy i hi).2.2.2.2
    have hL : ((List.range len).map fun i => (y i).1).length = len := by simp
    have hR : ((List.range len).map fun i => (y i).2).length = len := by simp
    refine ⟨(List.range len).map fun i => (y i).1, (List.range len).map fun i => (y i).2, ⟨hL.symm, by rw [hL, hR], cells_of (by decide) (by rw [rows_len KC _ _ (by rw [hL, hR]), hL]) fun j u hu => ?_, fun i hi => ?_⟩, fun k => ?_, hl, by omega, fun k => ?_⟩
    · have hj : j < len * 7 := by
        have := (List.getElem?_eq_some_iff.1 hu).1
        rw [rows_len KC _ _ (by rw [hL, hR]), hL] at this
        exact this
      have e : j = j / 7 * KC.k + j % 7 := by show j = j / 7 * 7 + j % 7; omega
      have hj2 : j / 7 < len := by omega
      have hj3 : j % 7 < KC.k := by show j % 7 < 7; omega
      rw [e, rows_at KC _ _ (by rw [hL, hR]) (j / 7) (j % 7) (by rw [hL]; exact hj2) hj3, getD_range (fun i => (y i).1) _ len _ hj2, getD_range (fun i => (y i).2) _ len _ hj2] at hu
      rw [e]
      exact (hy (j / 7) hj2).1 (j % 7) u hu
    · obtain ⟨_, h1, _⟩ := hy i hi
      rw [getD_range (fun i => (y i).1) _ len i hi, getD_range (fun i => (y i).2) _ len i hi]
      exact h1
    · by_cases hk : k < len
      · rw [getD_range (fun i => (y i).2) _ len k hk]
        exact (hy k hk).2.2.1
      · rw [getD_out (fun i => (y i).2) _ len k hk]
        exact fun _ => rfl
    · by_cases hk : k < len
      · rw [getD_range (fun i => (y i).1) _ len k hk]
        have h3 := (hy k hk).2.2.2.1
        have h4 := b1 k hk
        obtain ⟨m1, m2, m3, m4, m5⟩ := h3
        exact ⟨by omega, by omega, by omega, by omega, fun k => by have := m5 k; omega⟩
      · rw [getD_out (fun i => (y i).1) _ len k hk]
        exact ⟨Nat.zero_le _, Nat.zero_le _, Nat.zero_le _, Nat.zero_le _, fun k => Nat.zero_le _⟩
end Go.Proofs.Ytnnaoneegeenkaa.Kcin
