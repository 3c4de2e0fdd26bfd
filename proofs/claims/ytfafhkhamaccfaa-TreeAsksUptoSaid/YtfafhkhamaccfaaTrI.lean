/- Nodes and props that came in: what the readings of the arguments say of the memory. -/
import Derived.Test.YtfafhkhamaccfaaRows
import Derived.Test.YtfafhkhamaccfaaTrX
import Derived.Test.YtfafhkhamaccfaaTrY
import Derived.WalkKit
import Derived.ProofKit
import Derived.OpenShut
import Derived.ShutString
import Derived.ChangeOld
import Derived.SliceStrings
import Derived.Below
import Derived.JoinedCond
import Derived.Deep.Slices
import Derived.Deep.SlicePairs
import Derived.Deep.Strs
namespace Go.Proofs.Ytfafhkhamaccfaa.Tin
open Go.ChangeShapes Go.WideShapes Go.ChangeAt Go.RowKit Tr
set_option linter.unusedVariables false

theorem own : ownKnob Try.prog.godebug = none := by kernel_rfl
theorem laidOut : laidOutB Try.prog = true := by kernel_rfl
theorem str_of (s : ByteArray) : str s.data.toList = s := bytes_ext rfl
theorem cell_spot {w : World} {b o : Nat} {sp : Option Nat} {u : Value} (h : w.cell? ⟨b, o, sp⟩ = some u) : sp = none := by
  unfold World.cell? at h
  split at h
  · cases sp with
    | none => rfl
    | some s => simp at h
  · cases h
theorem bulk_range {H : Type} (D : Nat → DataW H) : ∀ n, (∀ i, i < n → Rows.uptoBulk (D i) ≤ Rows.uptoBulkAll ((List.range n).map D)) ∧ ((∀ i, i < n → 1 ≤ Rows.uptoBulk (D i)) → n ≤ Rows.uptoBulkAll ((List.range n).map D)) := by
  have app : ∀ (a b : List (DataW H)), Rows.uptoBulkAll (a ++ b) = Rows.uptoBulkAll a + Rows.uptoBulkAll b := by
    intro a b
    induction a with
    | nil => simp [Rows.uptoBulkAll]
    | cons d a ih =>
      show Rows.uptoBulk d + Rows.uptoBulkAll (a ++ b) = Rows.uptoBulk d + Rows.uptoBulkAll a + Rows.uptoBulkAll b
      omega
  intro n
  induction n with
  | zero => exact ⟨fun i hi => absurd hi (by omega), fun _ => Nat.zero_le _⟩
  | succ n ih =>
    have e : Rows.uptoBulkAll ((List.range (n + 1)).map D) = Rows.uptoBulkAll ((List.range n).map D) + Rows.uptoBulk (D n) := by
      rw [List.range_succ, List.map_append, app]
      rfl
    rw [e]
    refine ⟨fun i hi => ?_, fun h => ?_⟩
    · by_cases hin : i < n
      · have := ih.1 i hin
        omega
      · obtain rfl : i = n := by omega
        omega
    · have h1 := ih.2 fun i hi => h i (by omega)
      have h2 := h n (by omega)
      omega
theorem getD_range {α : Type} (y : Nat → α) (z : α) (n i : Nat) (hi : i < n) : ((List.range n).map y).getD i z = y i := by
  rw [List.getD_eq_getElem?_getD, List.getElem?_map, List.getElem?_range hi]
  rfl
theorem getD_out {α : Type} (y : Nat → α) (z : α) (n i : Nat) (hi : ¬ i < n) : ((List.range n).map y).getD i z = z := by
  rw [List.getD_eq_getElem?_getD, List.getElem?_eq_none (by simp; omega)]
  rfl
instance : Inhabited Nd := ⟨nd0⟩
/-- Props that came in. -/
theorem props_of {H : Type} {enc : TypeId × Value → H} {W : World} {base : Nat} {sp : Nat → Bool} {hd : Bool} {fuel : Nat} {v : Value} {x : DataW H × List MemPlace}
    (h : DataW.trod enc Try.prog W base sp hd fuel 36 [v] = some x) : ∃ y : Sl × List Pr, v = .slice y.1.1 y.1.2.1 y.1.2.2 ∧ PropsIn W y.1.1 y.1.2.1 y.2 ∧ Neat y.1 ∧ y.2.length ≤ Rows.uptoBulk x.1 ∧ ∀ k, (y.2.getD k ([], [])).1.length ≤ Rows.uptoBulk x.1 ∧ (y.2.getD k ([], [])).2.length ≤ Rows.uptoBulk x.1 := by
  rcases Go.Deep.open_slice_pairs Try.underlying36 Try.underlying54 (by kernel_rfl) rfl rfl (by kernel_rfl) (by kernel_rfl) h with ⟨hcs, hx⟩ | ⟨a, len, cap, m, n, V0, V1, D0, D1, P0, P1, hcs, _, hl, hm, hmm, hx, hcell⟩
  · exact ⟨((none, 0, 0), []), by simpa using hcs, ⟨rfl, .inl rfl⟩, fun _ => rfl, Nat.zero_le _, fun k => ⟨by simp, by simp⟩⟩
  · have hlm : len ≤ m := by rw [hmm]; split <;> omega
    obtain ⟨y, hy⟩ := Go.Deep.choose_lt (n := len) (p := fun i (y : Pr) => W.cell? (a.add (i * 2)) = some (.string (str y.1)) ∧ W.cell? (a.add (i * 2 + 1)) = some (.string (str y.2)) ∧ D0 i = .lit (.string y.1) ∧ D1 i = .lit (.string y.2)) fun i hi => by
      obtain ⟨c0, c1, h0, h1⟩ := hcell i (by omega)
      obtain ⟨s0, e0, x0, _⟩ := DataW.trod_string Try.underlying9 h0
      obtain ⟨s1, e1, x1, _⟩ := DataW.trod_string Try.underlying9 h1
      injection e0 with e0
      injection e1 with e1
      exact ⟨(s0.data.toList, s1.data.toList), by rw [c0, e0, str_of], by rw [c1, e1, str_of], congrArg Prod.fst x0, congrArg Prod.fst x1⟩
    obtain ⟨b1, b2⟩ := bulk_range (fun i => DataW.agg [D0 i, D1 i]) len
    have hb : Rows.uptoBulkAll ((List.range len).map fun i => DataW.agg [D0 i, D1 i]) ≤ Rows.uptoBulk x.1 := by
      rw [hx]
      simp only [Rows.uptoBulk]
      omega
    have hD : ∀ i, i < len → (y i).1.length + (y i).2.length + 3 = Rows.uptoBulk (DataW.agg [D0 i, D1 i]) := fun i hi => by
      obtain ⟨_, _, d0, d1⟩ := hy i hi
      rw [d0, d1]
      simp only [Rows.uptoBulk, Rows.uptoBulkAll]
      omega
    have hlb := b2 fun i hi => by rw [← hD i hi]; omega
    have hL : ((List.range len).map y).length = len := by simp
    refine ⟨((some a, len, cap), (List.range len).map y), by simpa using hcs, ⟨hL.symm, ?_⟩, (fun e => by cases e), by show ((List.range len).map y).length ≤ _; omega, fun k => ?_⟩
    · by_cases h0 : len = 0
      · exact .inl h0
      · obtain ⟨b, o, spt⟩ := a
        obtain ⟨c0, _, _, _⟩ := hy 0 (by omega)
        have hs : spt = none := cell_spot (by simpa [Addr.add] using c0)
        subst hs
        refine .inr ⟨b, o, rfl, ?_, fun i hi => ?_⟩
        · have := Own.cell_lt c0
          rw [Tr.add_plain] at this
          exact this
        · obtain ⟨c0, c1, _, _⟩ := hy i hi
          rw [Tr.add_plain] at c0 c1
          show W.cell? ⟨b, o + i * 2, none⟩ = some (.string (str (((List.range len).map y).getD i ([], [])).1)) ∧ W.cell? ⟨b, o + i * 2 + 1, none⟩ = some (.string (str (((List.range len).map y).getD i ([], [])).2))
          rw [getD_range y _ len i hi]
          exact ⟨c0, c1⟩
    · show (((List.range len).map y).getD k ([], [])).1.length ≤ _ ∧ (((List.range len).map y).getD k ([], [])).2.length ≤ _
      by_cases hk : k < len
      · rw [getD_range y _ len k hk]
        have h1 := b1 k hk
        have h2 := hD k hk
        omega
      · rw [getD_out y _ len k hk]
        exact ⟨Nat.zero_le _, Nat.zero_le _⟩
set_option maxRecDepth 100000 in
/-- Nodes that came in. -/
theorem nodes_of {H : Type} {enc : TypeId × Value → H} {W : World} {base : Nat} {sp : Nat → Bool} {hd : Bool} {fuel : Nat} {A : Option Addr} {len cap : Nat} {x : DataW H × List MemPlace}
    (h : DataW.trod enc Try.prog W base sp hd fuel 22 [.slice A len cap] = some x) (hbx : Rows.uptoBulk x.1 ≤ 1048576) : ∃ (L : List Nd) (R : List Sl), NodesIn W A len L R ∧ (∀ k, Neat (R.getD k sl0)) ∧ Wf L ∧ Upto 1048576 L := by
  have ce : Try.prog.cellsOf 38 = 3 := by kernel_rfl
  have ci : Try.prog.cellsOf 3 = 1 := by kernel_rfl
  have cs : Try.prog.cellsOf 9 = 1 := by kernel_rfl
  have cp : Try.prog.cellsOf 36 = 1 := by kernel_rfl
  rcases Go.Deep.open_slice Try.underlying22 h with ⟨hcs, hx⟩ | ⟨a, l, c, m, n, D, Pl, hcs, _, hl, hm, hmm, hx, hcell⟩
  · simp at hcs
    obtain ⟨rfl, rfl, rfl⟩ := hcs
    exact ⟨[], [], ⟨rfl, rfl, .inl rfl⟩, fun k _ => rfl, fun k => rfl, ⟨Nat.zero_le _, fun k => ⟨Nat.zero_le _, Nat.zero_le _, fun i => ⟨by simp [nd0], by simp [nd0]⟩⟩⟩⟩
  · simp at hcs
    obtain ⟨rfl, rfl, rfl⟩ := hcs
    have hlm : len ≤ m := by rw [hmm]; split <;> omega
    obtain ⟨y, hy⟩ := Go.Deep.choose_lt (n := len) (p := fun i (y : Nd × Sl) => (W.cell? (a.add (i * 3)) = some (.int .i64 y.1.parent) ∧ W.cell? (a.add (i * 3 + 1)) = some (.string (str y.1.name)) ∧ W.cell? (a.add (i * 3 + 2)) = some (.slice y.2.1 y.2.2.1 y.2.2.2)) ∧ PropsIn W y.2.1 y.2.2.1 y.1.props ∧ Neat y.2 ∧ (Lit.int .i64 y.1.parent).wf = true ∧
      y.1.name.length + 1 ≤ Rows.uptoBulk (D i) ∧ y.1.props.length ≤ Rows.uptoBulk (D i) ∧ ∀ k, (y.1.props.getD k ([], [])).1.length ≤ Rows.uptoBulk (D i) ∧ (y.1.props.getD k ([], [])).2.length ≤ Rows.uptoBulk (D i)) fun i hi => by
      obtain ⟨cs', h1, h2⟩ := hcell i (by omega)
      rw [ce] at h1
      obtain ⟨_, hlen, hc⟩ := World.cells?_some h1
      obtain ⟨y0, y1, y2, n', hxy, _, g0, g1, g2⟩ := Go.Deep.trod_struct3 Try.underlying38 h2
      match cs', hlen with
      | [v0, v1, v2], _ =>
        simp [ci, cs, cp] at g0 g1 g2
        obtain ⟨z, e0, x0, hz⟩ := DataW.trod_int Try.underlying3 g0
        obtain ⟨s, e1, x1, _⟩ := DataW.trod_string Try.underlying9 g1
        obtain ⟨yp, e2, hp, hn, hb1, hb2⟩ := props_of g2
        injection e0 with e0
        injection e1 with e1
        have q0 := hc 0 (by omega)
        have q1 := hc 1 (by omega)
        have q2 := hc 2 (by omega)
        rw [Go.Deep.add_add] at q0 q1 q2
        have hD : D i = .agg [y0.1, y1.1, y2.1] := congrArg Prod.fst hxy
        have hDb : Rows.uptoBulk (D i) = 1 + (s.data.toList.length + 1 + (Rows.uptoBulk y2.1 + 0)) + 1 := by
          rw [hD, x0, x1]
          rfl
        refine ⟨(⟨z, s.data.toList, yp.2⟩, yp.1), ⟨by simpa [e0] using q0, by rw [str_of]; simpa [e1] using q1, by simpa [e2] using q2⟩, hp, hn, hz, ?_, ?_, fun k => ?_⟩
        · show s.data.toList.length + 1 ≤ _; omega
        · show yp.2.length ≤ _; omega
        · have := hb2 k
          show (yp.2.getD k ([], [])).1.length ≤ _ ∧ (yp.2.getD k ([], [])).2.length ≤ _
          omega
    obtain ⟨b1, b2⟩ := bulk_range D len
    have hb : Rows.uptoBulkAll ((List.range len).map D) ≤ 1048576 := by
      rw [hx] at hbx
      simp only [Rows.uptoBulk] at hbx
      omega
    have hlb := b2 fun i hi => by have := (hy i hi).2.2.2.2.1; omega
    have hL : ((List.range len).map fun i => (y i).1).length = len := by simp
    have hR : ((List.range len).map fun i => (y i).2).length = len := by simp
    refine ⟨(List.range len).map fun i => (y i).1, (List.range len).map fun i => (y i).2, ⟨hL.symm, hR.symm, ?_⟩, fun k => ?_, fun k => ?_, ⟨by omega, fun k => ?_⟩⟩
    · by_cases h0 : len = 0
      · exact .inl h0
      · obtain ⟨b, o, spt⟩ := a
        obtain ⟨⟨c0, _⟩, _⟩ := hy 0 (by omega)
        have hs : spt = none := cell_spot (by simpa [Addr.add] using c0)
        subst hs
        refine .inr ⟨b, o, rfl, ?_, fun i hi => ?_⟩
        · have := Own.cell_lt c0
          rw [Tr.add_plain] at this
          exact this
        · obtain ⟨⟨c0, c1, c2⟩, hp, _⟩ := hy i hi
          rw [Tr.add_plain] at c0 c1 c2
          rw [getD_range (fun i => (y i).1) _ len i hi, getD_range (fun i => (y i).2) _ len i hi]
          exact ⟨⟨c0, c1, c2⟩, hp⟩
    · by_cases hk : k < len
      · rw [getD_range (fun i => (y i).2) _ len k hk]
        exact (hy k hk).2.2.1
      · rw [getD_out (fun i => (y i).2) _ len k hk]
        exact fun _ => rfl
    · by_cases hk : k < len
      · rw [getD_range (fun i => (y i).1) _ len k hk]
        exact (hy k hk).2.2.2.1
      · rw [getD_out (fun i => (y i).1) _ len k hk]
        rfl
    · by_cases hk : k < len
      · rw [getD_range (fun i => (y i).1) _ len k hk]
        obtain ⟨_, _, _, _, h1, h2, h3⟩ := hy k hk
        have h4 := b1 k hk
        exact ⟨by omega, by omega, fun i => by have := h3 i; omega⟩
      · rw [getD_out (fun i => (y i).1) _ len k hk]
        exact ⟨Nat.zero_le _, Nat.zero_le _, fun i => ⟨by simp [nd0], by simp [nd0]⟩⟩

end Go.Proofs.Ytfafhkhamaccfaa.Tin
