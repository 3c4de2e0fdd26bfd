/- A family's cards in memory of the call's own: what is written elsewhere, a list from a place on, a whole struct stored (shared by the stages that have a family's cards). -/
import Derived.Test.YtnnaoneegeenkaaKcY
import Derived.Test.YtnnaoneegeenkaaAp
import Derived.Deep.MidRow
namespace Go.Proofs.Ytnnaoneegeenkaa.Kc
open Go.ChangeShapes Go.WideShapes Go.ChangeAt Go.RowKit Own Ro

/-- From W to w at most the blocks from lo to hi, and those made since, have been written. -/
structure Kp (lo hi : Nat) (W w : World) : Prop where
  os : w.os = W.os
  tape : w.tape = W.tape
  output : w.output = W.output
  size : W.heap.size ≤ w.heap.size
  block : ∀ k, k < W.heap.size → k < lo ∨ hi ≤ k → w.heap[k]? = W.heap[k]?
section
variable {lo hi : Nat} {W w w' : World}
theorem Kp.refl (W : World) : Kp lo hi W W := ⟨rfl, rfl, rfl, Nat.le_refl _, fun _ _ _ => rfl⟩
theorem Kp.below (h : Kp lo hi W w) (hb : Below w.heap.size w w') : Kp lo hi W w' :=
  ⟨hb.os.trans h.os, hb.tape.trans h.tape, hb.output.trans h.output, Nat.le_trans h.size hb.size, fun k h1 h2 => (hb.block k (Nat.lt_of_lt_of_le h1 h.size)).trans (h.block k h1 h2)⟩
theorem Kp.setCell (h : Kp lo hi W w) {p : Addr} (hp : (lo ≤ p.block ∧ p.block < hi) ∨ W.heap.size ≤ p.block) (u : Value) : Kp lo hi W (w.setCell p u) :=
  ⟨h.os, h.tape, h.output, by have := h.size; simpa [World.setCell] using this, fun k h1 h2 => (Below.heap_setCell _ _ _ _ (by omega)).trans (h.block k h1 h2)⟩
theorem Kp.grown (h : Kp lo hi W w) {row : Option Nat} (hg : w.grownBy w' row) (hr : ∀ k, row = some k → (lo ≤ k ∧ k < hi) ∨ W.heap.size ≤ k) : Kp lo hi W w' :=
  ⟨hg.os.trans h.os, hg.tape.trans h.tape, hg.output.trans h.output, Nat.le_trans h.size hg.size, fun k h1 h2 => (hg.block k (Nat.lt_of_lt_of_le h1 h.size) (fun e => by have := hr k e.symm; omega)).trans (h.block k h1 h2)⟩
theorem Kp.setCells (h : Kp lo hi W w) {b : Nat} (hp : (lo ≤ b ∧ b < hi) ∨ W.heap.size ≤ b) (vs : List Value) : ∀ o, Kp lo hi W (w.setCells b o vs) := by
  induction vs generalizing w with
  | nil => exact fun _ => h
  | cons v vs ih => exact fun o => ih (h.setCell (p := ⟨b, o, none⟩) hp v) (o + 1)
theorem Kp.low (h : Kp lo hi W w) {B : Nat} {w0 : World} (hb : Below B w0 W) (hB : B ≤ lo) (hB2 : B ≤ W.heap.size) : Below B w0 w :=
  hb.trans ⟨h.os, h.tape, h.output, h.size, fun k hk => h.block k (by omega) (.inl (by omega))⟩
theorem own_kp {b n k : Nat} {E : TypeId} {v : Value} {xs : List Value} (ho : W.ownsRow b E k v n xs) (h : Kp lo hi W w) (hv : ∀ g, v.ownBlock = some g → g < lo ∨ hi ≤ g) : w.ownsRow b E k v n xs := by
  rcases ho.2 with ⟨rfl, rfl⟩ | ⟨g, cap, cur, rfl, hg, hh, hr⟩
  · exact ⟨ho.1, .inl ⟨rfl, rfl⟩⟩
  · refine ⟨ho.1, .inr ⟨g, cap, cur, rfl, hg, ?_, hr⟩⟩
    rw [h.block g (Array.getElem?_eq_some_iff.1 hh).1 (hv g rfl)]
    exact hh
theorem rows_kp {b n c : Nat} {A : Option Addr} {L : List Cd} {R : List Sl} (ho : RowsOwn KC W b A n c L R) (h : Kp lo hi W w) (hv : (∀ g, (Value.slice A n c).ownBlock = some g → g < lo ∨ hi ≤ g) ∧ ∀ i, i < R.length → ∀ g, (rowV R i).ownBlock = some g → g < lo ∨ hi ≤ g) : RowsOwn KC w b A n c L R :=
  ⟨ho.1, own_kp ho.2.1 h hv.1, ho.2.2.1, fun i hi' => ⟨(ho.2.2.2.1 i hi').1, own_kp (ho.2.2.2.1 i hi').2 h (hv.2 i hi')⟩, ho.2.2.2.2⟩
end
theorem rows_drop (L : List Cd) (R : List Sl) (i : Nat) : KC.rows (L.drop i) (R.drop i) = (KC.rows L R).drop (i * 7) := by
  induction i generalizing L R with
  | zero => simp
  | succ i ih =>
    cases L with
    | nil => simp [Kd.rows]
    | cons x L =>
      cases R with
      | nil => simp [Kd.rows]
      | cons r R =>
        have e : KC.rows (x :: L) (r :: R) = KC.row (x, r) ++ KC.rows L R := rfl
        have h7 : (KC.row (x, r)).length = 7 := row_len KC _
        have e2 : (KC.row (x, r) ++ KC.rows L R).drop 7 = KC.rows L R := by rw [← h7, List.drop_left]
        rw [List.drop_succ_cons, List.drop_succ_cons, ih, e, show (i + 1) * 7 = 7 + i * 7 by omega, ← List.drop_drop, e2]
/-- The list from a place on. -/
theorem suffix {wr : World} {b n c ga i : Nat} {xs : List Value} {L : List Cd} {R : List Sl} (hT : wr.ownsRow b 37 7 (.slice (some ⟨ga, 0, none⟩) n c) n xs) (hx : xs.drop (i * 7) = (KC.rows L R).drop (i * 7))
    (hI : ∀ j, i ≤ j → j < n → (R.getD j sl0).2.1 = (L.getD j cd0).compat.length ∧ wr.ownsRow b 9 1 (rowV R j) (R.getD j sl0).2.1 (strs (L.getD j cd0).compat)) (hn : n = L.length) (hR : R.length = L.length) (hi : i ≤ n) :
    Ro.RowsIn KC wr (some ⟨ga, i * 7, none⟩) (n - i) (L.drop i) (R.drop i) := by
  have hgl : ga < wr.heap.size := (hT.lt ga rfl).2
  have g1 : ∀ k, (L.drop i).getD k cd0 = L.getD (i + k) cd0 := fun k => by rw [List.getD_eq_getElem?_getD, List.getElem?_drop, ← List.getD_eq_getElem?_getD]
  have g2 : ∀ k, (R.drop i).getD k sl0 = R.getD (i + k) sl0 := fun k => by rw [List.getD_eq_getElem?_getD, List.getElem?_drop, ← List.getD_eq_getElem?_getD]
  refine ⟨by simp; omega, by simp; omega, ⟨?_, .inr ⟨ga, i * 7, rfl, hgl, fun j u hu => ?_⟩⟩, fun k hk => ?_⟩
  · rw [rows_len KC _ _ (by simp; omega)]
    show (L.drop i).length * 7 = (n - i) * 7
    rw [List.length_drop, hn]
  · rw [rows_drop, ← hx, List.getElem?_drop] at hu
    have := hT.cells (g := ga) rfl (i * 7 + j) u hu
    rwa [Ro.add_plain, Nat.zero_add] at this
  · rw [g2, show KC.z = cd0 from rfl, g1]
    obtain ⟨h1, h2⟩ := hI (i + k) (by omega) (by omega)
    exact ⟨h1, own_cells h2⟩
/-- The same of a list that is only read. -/
theorem rin_drop {w : World} {b n i : Nat} {L : List Cd} {R : List Sl} (h : Ro.RowsIn KC w (some ⟨b, 0, none⟩) n L R) (hi : i ≤ n) : Ro.RowsIn KC w (some ⟨b, i * 7, none⟩) (n - i) (L.drop i) (R.drop i) := by
  obtain ⟨hn, hR, hc, hI⟩ := h
  have g1 : ∀ k, (L.drop i).getD k cd0 = L.getD (i + k) cd0 := fun k => by rw [List.getD_eq_getElem?_getD, List.getElem?_drop, ← List.getD_eq_getElem?_getD]
  have g2 : ∀ k, (R.drop i).getD k sl0 = R.getD (i + k) sl0 := fun k => by rw [List.getD_eq_getElem?_getD, List.getElem?_drop, ← List.getD_eq_getElem?_getD]
  refine ⟨by simp; omega, by simp; omega, ⟨?_, ?_⟩, fun k hk => ?_⟩
  · rw [rows_len KC _ _ (by simp; omega)]
    show (L.drop i).length * 7 = (n - i) * 7
    rw [List.length_drop, hn]
  · rcases hc.2 with h0 | ⟨b', o', e, hb, hcc⟩
    · exact .inl (by omega)
    · injection e with e
      injection e with e1 e2
      subst e1 e2
      refine .inr ⟨b, i * 7, rfl, hb, fun j u hu => ?_⟩
      rw [rows_drop, List.getElem?_drop] at hu
      have := hcc (i * 7 + j) u hu
      rwa [Nat.zero_add] at this
  · rw [g2, show KC.z = cd0 from rfl, g1]
    exact hI (i + k) (by omega)
/-- Values written one behind another. -/
def setL : List Value → Nat → List Value → List Value
  | xs, _, [] => xs
  | xs, o, v :: r => setL (xs.set o v) (o + 1) r
theorem setL_drop (vs : List Value) : ∀ (xs : List Value) (o m : Nat), o + vs.length ≤ m → (setL xs o vs).drop m = xs.drop m := by
  induction vs with
  | nil => intro xs o m _; rfl
  | cons v vs ih =>
    intro xs o m h
    show (setL (xs.set o v) (o + 1) vs).drop m = _
    rw [ih _ _ _ (by simp at h; omega), List.drop_set_of_lt (by simp at h; omega)]
theorem own_sets {b g n c : Nat} {E : TypeId} {k : Nat} (vs : List Value) : ∀ {w : World} {xs : List Value} (o : Nat), w.ownsRow b E k (.slice (some ⟨g, 0, none⟩) n c) n xs → (w.setCells g o vs).ownsRow b E k (.slice (some ⟨g, 0, none⟩) n c) n (setL xs o vs) := by
  induction vs with
  | nil => intro w xs o h; exact h
  | cons v vs ih => intro w xs o h; exact ih (o + 1) (h.stored o v).1
theorem own_setsNe {b g n : Nat} {E : TypeId} {k : Nat} {v : Value} {xs : List Value} (vs : List Value) : ∀ {w : World} (o : Nat), w.ownsRow b E k v n xs → v.ownBlock ≠ some g → (w.setCells g o vs).ownsRow b E k v n xs := by
  induction vs with
  | nil => intro w o h _; exact h
  | cons u vs ih => intro w o h hne; exact ih (o + 1) (own_keptNe h (set_grown w ⟨g, o, none⟩ u) hne) hne
theorem there_own {b g n c : Nat} {E : TypeId} {w : World} {xs : List Value} (h : w.ownsRow b E 7 (.slice (some ⟨g, 0, none⟩) n c) n xs) (i : Nat) (hi : i < n) : w.there g (i * 7) 7 := fun j hj => by
  refine ⟨?_, h.frozenAt _⟩
  rw [h.cellAt (i * 7 + j) (by omega), Option.isSome_iff_exists]
  exact ⟨_, List.getElem?_eq_getElem (by rw [h.1]; omega)⟩
end Go.Proofs.Ytnnaoneegeenkaa.Kc
