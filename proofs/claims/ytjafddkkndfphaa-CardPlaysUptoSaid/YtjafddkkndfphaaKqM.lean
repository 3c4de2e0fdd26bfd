/- Steps that came in. -/
import Derived.Test.YtjafddkkndfphaaKqL
import Derived.Test.YtjafddkkndfphaaKcI
namespace Go.Proofs.Ytjafddkkndfphaa.Kcin
open Go.ChangeShapes Go.WideShapes Go.ChangeAt Go.RowKit Ro Kc Kin Kq
set_option linter.unusedVariables false

theorem mildC_up {M N : Nat} {a : Cd} (h : MildC M a) (hn : M ≤ N) : MildC N a := by
  obtain ⟨m1, m2, m3, m4, m5⟩ := h
  exact ⟨by omega, by omega, by omega, by omega, fun k => by have := m5 k; omega⟩
set_option maxRecDepth 100000 in
/-- The cells of a step that came in. -/
theorem step_of {H : Type} {enc : TypeId × Value → H} {W : World} {base : Nat} {sp : Nat → Bool} {hd : Bool} {fuel : Nat} {cs : List Value} {x : DataW H × List MemPlace}
    (h : DataW.trod enc Try.prog W base sp hd fuel 66 cs = some x) (h12 : cs.length = 12) : ∃ y : Sp × Sl, cs = KS.row y ∧ y.2.2.1 = y.1.card.compat.length ∧ CellsIn W 1 y.2.1 y.2.2.1 (strs y.1.card.compat) ∧ Neat y.2 ∧ MildC (Rows.uptoBulk x.1) y.1.card ∧ y.1.pack.length ≤ Rows.uptoBulk x.1 ∧ 1 ≤ Rows.uptoBulk x.1 := by
  have z1 : Try.prog.cellsOf 9 = 1 := by kernel_rfl
  have z2 : Try.prog.cellsOf 3 = 1 := by kernel_rfl
  have z3 : Try.prog.cellsOf 30 = 7 := by kernel_rfl
  have z4 : Try.prog.cellsOf 2 = 1 := by kernel_rfl
  obtain ⟨xs, n, _, rfl, hl, hlen, hf⟩ := DataW.trod_struct Try.underlying66 h
  match cs, h12 with
  | [v0, v1, v2, v3, v4, v5, v6, v7, v8, v9, v10, v11], _ =>
    match xs, hlen with
    | [y0, y1, y2, y3, y4, y5], _ =>
      have g0 := hf 0 _ rfl
      have g1 := hf 1 _ rfl
      have g2 := hf 2 _ rfl
      have g3 := hf 3 _ rfl
      have g4 := hf 4 _ rfl
      have g5 := hf 5 _ rfl
      simp [z1, z2, z3, z4] at g0 g1 g2 g3 g4 g5
      obtain ⟨i0, e0, x0, _⟩ := DataW.trod_int Try.underlying3 g0
      obtain ⟨i1, e1, x1, _⟩ := DataW.trod_int Try.underlying3 g1
      obtain ⟨⟨c, r⟩, e2, hpl, hp, hn, hcap, hb1, hb2⟩ := card_of g2 rfl
      obtain ⟨s3, e3, x3, _⟩ := DataW.trod_string Try.underlying9 g3
      obtain ⟨i4, e4, x4, _⟩ := DataW.trod_int Try.underlying3 g4
      obtain ⟨i5, e5, x5, _⟩ := DataW.trod_int Try.underlying2 g5
      injection e0 with e0
      injection e1 with e1
      injection e3 with e3
      injection e4 with e4
      injection e5 with e5
      have hb : Rows.uptoBulk (DataW.agg [y0.1, y1.1, y2.1, y3.1, y4.1, y5.1]) = 1 + (1 + (Rows.uptoBulk y2.1 + ((s3.data.toList.length + 1) + (1 + (1 + 0))))) + 1 := by
        rw [x0, x1, x3, x4, x5]
        rfl
      refine ⟨(⟨i0, i1, c, s3.data.toList, i4, i5⟩, r), ?_, hpl, hp, hn, ?_, ?_, ?_⟩
      · have e6 : [v2, v3, v4, v5, v6, v7, v8] = [Value.string (str c.name), .string (str c.fam), .int .u8 c.level, slV r, .int .i8 c.score, .string (str c.quirk), .int .i16 c.entry] := e2
        simp only [List.cons.injEq, and_true] at e6
        obtain ⟨q2, q3, q4, q5, q6, q7, q8⟩ := e6
        rw [e0, e1, e3, e4, e5, q2, q3, q4, q5, q6, q7, q8]
        show _ = [Value.int .i64 i0, .int .i64 i1, .string (str c.name), .string (str c.fam), .int .u8 c.level, slV r, .int .i8 c.score, .string (str c.quirk), .int .i16 c.entry, .string (str s3.data.toList), .int .i64 i4, .int .i64 i5]
        rw [str_of]
      · show MildC (Rows.uptoBulk (DataW.agg [y0.1, y1.1, y2.1, y3.1, y4.1, y5.1])) c
        rw [hb]
        exact mildC_up (show MildC (Rows.uptoBulk y2.1) c from hb1) (by omega)
      · show s3.data.toList.length ≤ Rows.uptoBulk (DataW.agg [y0.1, y1.1, y2.1, y3.1, y4.1, y5.1])
        rw [hb]
        omega
      · show 1 ≤ Rows.uptoBulk (DataW.agg [y0.1, y1.1, y2.1, y3.1, y4.1, y5.1])
        rw [hb]
        omega
set_option maxRecDepth 100000 in
/-- Steps that came in. -/
theorem steps_of {H : Type} {enc : TypeId × Value → H} {W : World} {base : Nat} {sp : Nat → Bool} {hd : Bool} {fuel : Nat} {A : Option Addr} {len cap : Nat} {x : DataW H × List MemPlace}
    (h : DataW.trod enc Try.prog W base sp hd fuel 59 [.slice A len cap] = some x) : ∃ (L : List Sp) (R : List Sl), Ro.RowsIn KS W A len L R ∧ (∀ k, Neat (R.getD k sl0)) ∧ len ≤ Rows.uptoBulk x.1 ∧ ∀ k, MildC (Rows.uptoBulk x.1) (L.getD k sp0).card ∧ (L.getD k sp0).pack.length ≤ Rows.uptoBulk x.1 := by
  have ce : Try.prog.cellsOf 66 = 12 := by kernel_rfl
  rcases Go.Deep.open_slice Try.underlying59 h with ⟨hcs, hx⟩ | ⟨a, l, c, m, n, D, Pl, hcs, _, hl, hm, hmm, hx, hcell⟩
  · simp at hcs
    obtain ⟨rfl, rfl, rfl⟩ := hcs
    exact ⟨[], [], ⟨rfl, rfl, ⟨rfl, .inl rfl⟩, fun i hi => absurd hi (by omega)⟩, fun k _ => rfl, Nat.zero_le _, fun k => ⟨⟨Nat.zero_le _, Nat.zero_le _, Nat.zero_le _, Nat.zero_le _, fun k => Nat.zero_le _⟩, Nat.zero_le _⟩⟩
  · simp at hcs
    obtain ⟨rfl, rfl, rfl⟩ := hcs
    have hlm : len ≤ m := by rw [hmm]; split <;> omega
    haveI : Inhabited (Sp × Sl) := ⟨(sp0, sl0)⟩
    obtain ⟨y, hy⟩ := Go.Deep.choose_lt (n := len) (p := fun i (y : Sp × Sl) => (∀ j u, (KS.row y)[j]? = some u → W.cell? (a.add (i * 12 + j)) = some u) ∧ (y.2.2.1 = y.1.card.compat.length ∧ CellsIn W 1 y.2.1 y.2.2.1 (strs y.1.card.compat)) ∧ Neat y.2 ∧ MildC (Rows.uptoBulk (D i)) y.1.card ∧ y.1.pack.length ≤ Rows.uptoBulk (D i) ∧ 1 ≤ Rows.uptoBulk (D i)) fun i hi => by
      obtain ⟨cs', h1, h2⟩ := hcell i (by omega)
      rw [ce] at h1
      obtain ⟨_, hlen, hc⟩ := World.cells?_some h1
      obtain ⟨y, hrow, hpl, hp, hn, hmild, hpk, hone⟩ := step_of h2 hlen
      refine ⟨y, fun j u hu => ?_, ⟨hpl, hp⟩, hn, hmild, hpk, hone⟩
      rw [← hrow] at hu
      have hj : j < 12 := by rw [← hlen]; exact (List.getElem?_eq_some_iff.1 hu).1
      have q := hc j hj
      rw [Go.Deep.add_add] at q
      exact q.trans hu
    obtain ⟨b1, b2⟩ := bulk_range D len
    have hb : Rows.uptoBulkAll ((List.range len).map D) ≤ Rows.uptoBulk x.1 := by
      rw [hx]
      simp only [Rows.uptoBulk]
      omega
    have hlb := b2 fun i hi => (hy i hi).2.2.2.2.2
    have hL : ((List.range len).map fun i => (y i).1).length = len := by simp
    have hR : ((List.range len).map fun i => (y i).2).length = len := by simp
    refine ⟨(List.range len).map fun i => (y i).1, (List.range len).map fun i => (y i).2, ⟨hL.symm, by rw [hL, hR], cells_of (by decide) (by rw [rows_len KS _ _ (by rw [hL, hR]), hL]) fun j u hu => ?_, fun i hi => ?_⟩, fun k => ?_, by omega, fun k => ?_⟩
    · have hj : j < len * 12 := by
        have := (List.getElem?_eq_some_iff.1 hu).1
        rw [rows_len KS _ _ (by rw [hL, hR]), hL] at this
        exact this
      have e : j = j / 12 * KS.k + j % 12 := by show j = j / 12 * 12 + j % 12; omega
      have hj2 : j / 12 < len := by omega
      have hj3 : j % 12 < KS.k := by show j % 12 < 12; omega
      rw [e, rows_at KS _ _ (by rw [hL, hR]) (j / 12) (j % 12) (by rw [hL]; exact hj2) hj3, getD_range (fun i => (y i).1) _ len _ hj2, getD_range (fun i => (y i).2) _ len _ hj2] at hu
      rw [e]
      exact (hy (j / 12) hj2).1 (j % 12) u hu
    · obtain ⟨_, h1, _⟩ := hy i hi
      rw [getD_range (fun i => (y i).1) _ len i hi, getD_range (fun i => (y i).2) _ len i hi]
      exact h1
    · by_cases hk : k < len
      · rw [getD_range (fun i => (y i).2) _ len k hk]
        exact (hy k hk).2.2.1
      · rw [getD_out (fun i => (y i).2) _ len k hk]
        exact fun _ => rfl
    · by_cases hk : k < len
      · rw [getD_range (fun i => (y i).1) _ len k hk]
        have h3 := (hy k hk).2.2.2.1
        have h4 := b1 k hk
        have h5 := (hy k hk).2.2.2.2.1
        exact ⟨mildC_up h3 (by omega), by omega⟩
      · rw [getD_out (fun i => (y i).1) _ len k hk]
        exact ⟨⟨Nat.zero_le _, Nat.zero_le _, Nat.zero_le _, Nat.zero_le _, fun k => Nat.zero_le _⟩, Nat.zero_le _⟩
end Go.Proofs.Ytjafddkkndfphaa.Kcin
