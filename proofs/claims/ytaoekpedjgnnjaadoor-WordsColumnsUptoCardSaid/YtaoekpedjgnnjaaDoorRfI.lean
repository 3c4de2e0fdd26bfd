/- Columns, the program's and the document's, say the same of any rows and widths. -/
import Derived.Test.YtaoekpedjgnnjaaDoorRfH
namespace Go.Proofs.YtaoekpedjgnnjaaDoor.Wd
open Go.ChangeShapes Go.WideShapes Go.ChangeAt Go.RowKit Own Bld Go.Lib Nums

/-- The rows that can be read: their lists. -/
def RowsIn (w : World) (R : List (Option Addr × Nat × Nat)) (X : List (List (List UInt8))) : Prop :=
  R.length = X.length ∧ ∀ k, k < R.length → (R.getD k (none, 0, 0)).2.1 = (X.getD k []).length ∧ Src w (R.getD k (none, 0, 0)).1 (R.getD k (none, 0, 0)).2.1 (R.getD k (none, 0, 0)).2.2 (strs (X.getD k []))
theorem RowsIn.below {w w' : World} {R : List (Option Addr × Nat × Nat)} {X : List (List (List UInt8))} (h : RowsIn w R X) (hb : Below w.heap.size w w') : RowsIn w' R X :=
  ⟨h.1, fun k hk => ⟨(h.2 k hk).1, (h.2 k hk).2.below hb⟩⟩
/-- Texts that are no longer than this. -/
def Fine (X : List (List (List UInt8))) : Prop := X.length ≤ 16777216 ∧ ∀ k, (X.getD k []).length ≤ 16777216 ∧ ∀ j, ((X.getD k []).getD j []).length ≤ 16777216
def Good (X : List (List (List UInt8))) (ws : List Int) : Prop := ws.length ≤ 64 ∧ (∀ k, k < ws.length → 1 ≤ ws.getD k 0 ∧ ws.getD k 0 ≤ 4096) ∧ ∀ k, k < X.length → (X.getD k []).length ≤ ws.length
theorem good_shape {w : World} {R : List (Option Addr × Nat × Nat)} {X : List (List (List UInt8))} {ws : List Int} (h : RowsIn w R X) : Shape R ws ↔ Good X ws := by
  unfold Shape Good
  constructor
  · rintro ⟨a, b, c⟩
    exact ⟨a, b, fun k hk => by rw [← (h.2 k (by rw [h.1]; exact hk)).1]; exact c k (by rw [h.1]; exact hk)⟩
  · rintro ⟨a, b, c⟩
    exact ⟨a, b, fun k hk => by rw [(h.2 k hk).1]; exact c k (by rw [← h.1]; exact hk)⟩
theorem ints_nat (ws : List Int) (h : ∀ k, k < ws.length → 0 ≤ ws.getD k 0) : ints ws = (ws.map Int.toNat).map fun (x : Nat) => Value.int .i64 (x : Int) := by
  unfold ints
  rw [List.map_map]
  refine List.map_congr_left fun x hx => ?_
  obtain ⟨k, hk, rfl⟩ := List.getElem_of_mem hx
  have h1 := h k hk
  rw [List.getD_eq_getElem?_getD, List.getElem?_eq_getElem hk] at h1
  have h2 : 0 ≤ ws[k] := h1
  show Value.int .i64 ws[k] = .int .i64 (ws[k].toNat : Int)
  rw [Int.toNat_of_nonneg h2]
theorem nat_at (ws : List Int) (k : Nat) (h : k < ws.length) : (ws.map Int.toNat).getD k 0 = (ws.getD k 0).toNat := by
  rw [List.getD_eq_getElem?_getD, List.getD_eq_getElem?_getD, List.getElem?_map, List.getElem?_eq_getElem h]
  rfl
theorem row_own {w : World} {b n : Nat} {t : TypeId} {f : Nat → Value} {xs : List Value} (h : w.rowIs b t n f) (hl : xs.length = n) (hx : ∀ i, i < n → xs[i]? = some (f i)) (hn : n ≤ 140737488355328) : w.ownsRow b t 1 (.slice (some ⟨b, 0, none⟩) n n) n xs := by
  obtain ⟨c, hb, hs, hc⟩ := h
  refine ⟨by omega, .inr ⟨b, n, c, rfl, Nat.le_refl _, hb, Nat.le_refl _, by unfold maxLen; omega, by omega, ?_⟩⟩
  rw [Nat.mul_one, List.take_of_length_le (by simp; omega)]
  refine List.ext_getElem? fun i => ?_
  by_cases hi : i < n
  · rw [hx i hi, ← hc i hi]
    simp
  · rw [List.getElem?_eq_none (by simp; omega), List.getElem?_eq_none (by omega)]
theorem lines_at (X : List (List (List UInt8))) (ws : List Nat) (i : Nat) (h : i < X.length) : (strs (linesA X ws))[i]? = some (.string (str (lineA (X.getD i []) ws))) := by
  have hl : (linesA X ws).length = X.length := List.length_map ..
  rw [strs_at _ i (by omega)]
  unfold linesA
  rw [List.getD_eq_getElem?_getD, List.getD_eq_getElem?_getD, List.getElem?_map, List.getElem?_eq_getElem h]
  rfl

/-- A contract of Columns at any rows and widths that read so. -/
def ColsAt (f : Nat) (X : List (List (List UInt8))) (ws : List Int) (T : List (List UInt8)) (er : Int) (K : World → Prop) : Prop :=
  ∀ (A B : Option Addr) (c d n m : Nat) (R : List (Option Addr × Nat × Nat)) (w : World), n = R.length → m = ws.length → RowsIn w R X → Src w A n c (slcs R) → Src w B m d (ints ws) → K w →
    Calls Tryd.prog f #[.slice A n c, .slice B m d] w (Made T er w)
theorem cols_both (X : List (List (List UInt8))) (ws : List Int) (hf : Fine X) (hm : ws.length ≤ 16777216) (hw : ∀ k, k < ws.length → -9223372036854775808 ≤ ws.getD k 0 ∧ ws.getD k 0 ≤ 9223372036854775807) :
    ∃ T er, T.length ≤ 16777216 ∧ ColsAt 6 X ws T er (fun _ => True) ∧ ColsAt 7 X ws T er U8 := by
  by_cases hg : Good X ws
  · refine ⟨linesA X (ws.map Int.toNat), 0, by rw [show (linesA X (ws.map Int.toNat)).length = X.length from List.length_map ..]; exact hf.1, ?_, ?_⟩
    all_goals
      intro A B c d n m R w hn hm' hr hA hB hK
      have hg2 := (good_shape (ws := ws) hr).2 hg
      obtain ⟨g1, g2, g3⟩ := hg2
      rw [ints_nat ws fun k hk => by have := g2 k hk; omega] at hB
      have hX := hr.1
      have hfx := hf.1
      have a1 : m = (ws.map Int.toNat).length := by rw [List.length_map]; exact hm'
      have a2 : ∀ k, k < m → 1 ≤ (ws.map Int.toNat).getD k 0 ∧ (ws.map Int.toNat).getD k 0 ≤ 4096 := fun k hk => by
        have := g2 k (by omega)
        rw [nat_at ws k (by omega)]
        omega
      have a3 : ∀ k, k < n → RowAll w m (R.getD k (none, 0, 0)) (X.getD k []) := fun k hk => by
        obtain ⟨r1, r2⟩ := hr.2 k (by omega)
        refine ⟨r1, by rw [hm']; exact g3 k (by omega), r2, fun j _ => by rw [str_size]; exact (hf.2 k).2 j⟩
    · exact refColumns_ok A B c d n m R X _ w hn (by omega) a1 (by omega) (by omega) a2 a3 hA hB
    · refine (columns_all A B c d n m R X _ w hn a1 (by omega) (by omega) a2 a3 hA hB hK).mono ?_
      rintro e w' ⟨rfl, hrow, hb⟩
      have hl : (linesA X (ws.map Int.toNat)).length = n := by rw [show (linesA X (ws.map Int.toNat)).length = X.length from List.length_map ..]; omega
      exact ⟨_, n, n, hl.symm, rfl, row_own hrow (by rw [strs_len]; exact hl) (fun i hi => lines_at X _ i (by omega)) (by omega), hb⟩
  · refine ⟨[], 1, Nat.zero_le _, ?_, ?_⟩
    all_goals
      intro A B c d n m R w hn hm' hr hA hB hK
      have hg2 : ¬ Shape R ws := fun h => hg ((good_shape hr).1 h)
      have hX := hr.1
      have hfx := hf.1
      have a3 : ∀ k, k < n → (R.getD k (none, 0, 0)).2.1 ≤ 140737488355328 := fun k hk => by
        rw [(hr.2 k (by omega)).1]
        have := (hf.2 k).1
        omega
    · refine (refColumns_bad A B c d n m R ws w hg2 hn hm' (by omega) (by omega) (by rw [hm']; exact hw) a3 hA hB).mono ?_
      rintro e w' ⟨rfl, rfl⟩
      exact made_none _ _ _ (Below.refl _ _)
    · refine (columns_bad A B c d n m R ws w hg2 hn hm' (by omega) (by omega) (by rw [hm']; exact hw) a3 hA hB).mono ?_
      rintro e w' ⟨rfl, rfl⟩
      exact made_none _ _ _ (Below.refl _ _)
end Go.Proofs.YtaoekpedjgnnjaaDoor.Wd
