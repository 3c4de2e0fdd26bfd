/- A state's table by its name. -/
import Derived.Test.YtnnaoneegeenkaaDoorRvE
namespace Go.Proofs.YtnnaoneegeenkaaDoor.Kq
open Go.ChangeShapes Go.WideShapes Go.ChangeAt Go.RowKit Own Ro wordsNames Kc
open Ka (i64s i64s_len i64s_at entV Rt)

/-- A state's block: its tables stand behind its registry. -/
def StAt (W : World) (q : Nat) (tb : Sl) : Prop := ∃ a b c d, W.heap[q]? = some (.cells ⟨[a, b, c, d, slV tb]⟩ 94 (0, 0))
theorem StAt.cell {W : World} {q : Nat} {tb : Sl} (h : StAt W q tb) : W.cell? ⟨q, 4, none⟩ = some (slV tb) := by
  obtain ⟨a, b, c, d, h⟩ := h
  rw [Lib.cell_of_heap h 4]
  rfl
theorem StAt.free {W : World} {q : Nat} {tb : Sl} (h : StAt W q tb) (j : Nat) : W.frozen? ⟨q, j, none⟩ = false := by
  obtain ⟨a, b, c, d, h⟩ := h
  exact Lib.frozen_of_heap h j
theorem look_drop (Ts : List Tn) (nm : List UInt8) (k : Nat) (h : k < Ts.length) : lookT (Ts.drop k) nm = if (Ts.getD k tn0).1 = nm then (Ts.getD k tn0).2 else lookT (Ts.drop (k + 1)) nm := by
  rw [List.drop_eq_getElem_cons h, List.getD_eq_getElem?_getD, List.getElem?_eq_getElem h]
  rfl
/-- Where the table of a name lies. -/
def lookR : List Tn → List Sl → List UInt8 → Sl
  | t :: r, s :: q, nm => if t.1 = nm then s else lookR r q nm
  | _, _, _ => (none, 0, 0)
theorem lookR_drop (Ts : List Tn) (R : List Sl) (nm : List UInt8) (k : Nat) (h : k < Ts.length) (hR : R.length = Ts.length) : lookR (Ts.drop k) (R.drop k) nm = if (Ts.getD k tn0).1 = nm then R.getD k sl0 else lookR (Ts.drop (k + 1)) (R.drop (k + 1)) nm := by
  rw [List.drop_eq_getElem_cons h, List.drop_eq_getElem_cons (show k < R.length by omega), List.getD_eq_getElem?_getD, List.getElem?_eq_getElem h, List.getD_eq_getElem?_getD, List.getElem?_eq_getElem (show k < R.length by omega)]
  rfl
theorem look_cells (Ts : List Tn) (nm : List UInt8) (W : World) : ∀ R : List Sl, R.length = Ts.length → (∀ i, i < Ts.length → (R.getD i sl0).2.1 = (Ts.getD i tn0).2.length ∧ CellsIn W 1 (R.getD i sl0).1 (R.getD i sl0).2.1 (i64s (Ts.getD i tn0).2)) → (∀ i, Neat (R.getD i sl0)) →
    (lookR Ts R nm).2.1 = (lookT Ts nm).length ∧ CellsIn W 1 (lookR Ts R nm).1 (lookR Ts R nm).2.1 (i64s (lookT Ts nm)) ∧ Neat (lookR Ts R nm) := by
  induction Ts with
  | nil => intro R _ _ _; cases R <;> exact ⟨rfl, ⟨rfl, .inl rfl⟩, fun _ => rfl⟩
  | cons t r ih =>
    intro R hR h hn
    cases R with
    | nil => simp at hR
    | cons s q =>
      unfold lookR lookT
      split
      · exact ⟨(h 0 (by simp)).1, (h 0 (by simp)).2, hn 0⟩
      · exact ih q (by simpa using hR) (fun i hi => h (i + 1) (by simpa using hi)) (fun i => hn (i + 1))
theorem rows_look {W : World} {A : Option Addr} {n : Nat} {Ts : List Tn} {R : List Sl} (h : Ro.RowsIn KT W A n Ts R) (hn : ∀ i, Neat (R.getD i sl0)) (nm : List UInt8) : (lookR Ts R nm).2.1 = (lookT Ts nm).length ∧ CellsIn W 1 (lookR Ts R nm).1 (lookR Ts R nm).2.1 (i64s (lookT Ts nm)) ∧ Neat (lookR Ts R nm) :=
  look_cells Ts nm W R h.2.1 (fun i hi => h.2.2.2 i (by rw [h.1]; exact hi)) hn
def TableRes (Ts : List Tn) (R : List Sl) (nm : List UInt8) (w : World) (e : Ending) (w' : World) : Prop := e = .returned (slV (lookR Ts R nm)) ∧ w' = w
set_option maxRecDepth 100000 in
set_option maxHeartbeats 8000000 in
theorem refTable_any (q : Nat) (tb : Sl) (Ts : List Tn) (R : List Sl) (nm : List UInt8) (w : World) (hs : StAt w q tb) (hT : Ro.RowsIn KT w tb.1 tb.2.1 Ts R) (hn : Ts.length ≤ 100) :
    Calls Tryd.prog 55 #[.pointer (some ⟨q, 0, none⟩), .string (str nm)] w (TableRes Ts R nm w) := by
  have c4 := hs.cell
  have HT := Lib.hid hT
  have HN := Lib.hid hT.1
  have hn1 : tb.2.1 ≤ 100 := by rw [hT.1]; exact hn
  have HRR := Lib.hid hT.2.1
  have HEQ := Lib.hid (fun k => eq_lists (Ts.getD k tn0).1 nm)
  clear hs hT hn
  obtain ⟨ta, tn, tc⟩ := tb
  simp only [slV] at c4
  dsimp only at hn1 HN HT
  generalize str nm = Y at HEQ ⊢
  go_enter Tryd.func55, Tryd.ntmps55
  go_wp2_with fail
  go_loopw [5] (fun v5 wr => ∃ k : Nat, k ≤ tn ∧ v5 = .int .i64 (k : Nat) ∧ lookR Ts R nm = lookR (Ts.drop k) (R.drop k) nm ∧ w = wr) (fun v5 _ => tn - (RowKit.intOf v5).toNat)
  case atStart => exact ⟨0, by omega, rfl, rfl, rfl⟩
  case round =>
    obtain ⟨k, hk, rfl, hlk, rfl⟩ := hrel
    have HLK := Lib.hid hlk
    clear hlk
    by_cases hlt : k < tn
    · have k1 : (0 : Int) ≤ (k : Int) := by omega
      have k2 : (k : Int) < (tn : Int) := by omega
      have hkT : k < Ts.length := by rw [← HN.out]; exact hlt
      obtain ⟨b, o, rfl, hbs, hc, hlen, hin⟩ := HT.out.at hlt
      have e0 : w.cell? ⟨b, o + k * 2, none⟩ = some (.string (str (Ts.getD k tn0).1)) := hc 0 _ rfl
      have e1 : w.cell? ⟨b, o + k * 2 + 1, none⟩ = some (slV (R.getD k sl0)) := hc 1 _ rfl
      have q0 := HEQ.out k
      have HLD := Lib.hid (lookR_drop Ts R nm k hkT HRR.out)
      clear hc hlen hin hbs hkT
      generalize Ts.getD k tn0 = d at e0 q0 HLD
      generalize R.getD k sl0 = r at e1 HLD
      obtain ⟨ra, rn, rc⟩ := r
      obtain ⟨dn, dl⟩ := d
      simp only [slV] at e1
      dsimp only at e0 q0 HLD
      generalize str dn = Z at e0 q0
      by_cases hd : dn = nm
      · rw [decide_eq_true hd] at q0
        rw [if_pos hd] at HLD
        clear hd
        go_wp2_with fail
        go_ret
        exact ⟨by rw [HLK.out, HLD.out]; rfl, rfl⟩
      · rw [decide_eq_false hd] at q0
        rw [if_neg hd] at HLD
        clear hd
        go_wp2_with fail
        go_roundw
        case rel => exact ⟨k + 1, by omega, by go_num, HLK.out.trans HLD.out, trivial⟩
        case measure => simp [RowKit.intOf]; omega
    · obtain rfl : k = tn := by omega
      have HZ : Hid (lookR Ts R nm = (none, 0, 0)) := Lib.hid (by rw [HLK.out, HN.out, List.drop_length]; rfl)
      go_wp2_with fail
      go_ret
      exact ⟨by rw [HZ.out]; rfl, rfl⟩
end Go.Proofs.YtnnaoneegeenkaaDoor.Kq
