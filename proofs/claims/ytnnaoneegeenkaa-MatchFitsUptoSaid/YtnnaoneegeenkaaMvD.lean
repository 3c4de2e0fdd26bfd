/- Cards with a mark behind their lists. -/
import Derived.Test.YtnnaoneegeenkaaMvC
import Derived.Test.YtnnaoneegeenkaaKcY
import Derived.Test.YtnnaoneegeenkaaAp
namespace Go.Proofs.Ytnnaoneegeenkaa.Mv
open Go.ChangeShapes Go.WideShapes Go.ChangeAt Go.RowKit Own Ro Kc wordsNames Go.Maps Go.WideMaps
open Mt

def markT : Tx := [109, 97, 114, 107]
def mkC : Cd := ⟨markT, [], 0, [], 0, [], 0⟩
/-- An inner list with its mark behind it. -/
def innV (r : Sl) : Value := .slice r.1 (r.2.1 + 1) r.2.2
/-- Cards in memory of one's own, with a mark behind each list, and one behind all. -/
structure Lent (W : World) (base : Nat) (A : Option Addr) (n c : Nat) (L : List Cd) (R : List Sl) : Prop where
  ln : n = L.length
  rn : R.length = L.length
  hd : W.ownsRow base 37 7 (.slice A (n + 1) c) (n + 1) (KC.rows L R ++ KC.row (mkC, sl0))
  len : ∀ i, i < n → (R.getD i sl0).2.1 = (L.getD i cd0).compat.length
  inn : ∀ i, i < n → W.ownsRow base 9 1 (innV (R.getD i sl0)) ((R.getD i sl0).2.1 + 1) (strs (L.getD i cd0).compat ++ [.string (str markT)])
  ne : ∀ i j, i < n → j < n → i ≠ j → (innV (R.getD i sl0)).ownBlock ≠ (innV (R.getD j sl0)).ownBlock
theorem Lent.below {W V : World} {base n c : Nat} {A : Option Addr} {L : List Cd} {R : List Sl} (h : Lent W base A n c L R) (hb : Below W.heap.size W V) : Lent V base A n c L R :=
  ⟨h.ln, h.rn, own_belowK h.hd hb, h.len, fun i hi => own_belowK (h.inn i hi) hb, h.ne⟩
theorem cells_pre {w : World} {q : Nat} {A : Option Addr} {n m : Nat} {xs ys : List Value} (h : CellsIn w q A m (xs ++ ys)) (hx : xs.length = n * q) (hq : 0 < q) : CellsIn w q A n xs := by
  refine ⟨hx, ?_⟩
  rcases h.2 with h0 | ⟨b, o, e, hlt, hc⟩
  · left
    have h1 := h.1
    rw [h0, Nat.zero_mul, List.length_append] at h1
    rcases Nat.eq_zero_or_pos n with h2 | h2
    · exact h2
    · have := Nat.mul_pos h2 hq
      omega
  · exact .inr ⟨b, o, e, hlt, fun j u hu => hc j u (by rw [List.getElem?_append_left (List.getElem?_eq_some_iff.1 hu).1]; exact hu)⟩
theorem Lent.rows {W : World} {base n c : Nat} {A : Option Addr} {L : List Cd} {R : List Sl} (h : Lent W base A n c L R) : Ro.RowsIn KC W A n L R :=
  ⟨h.ln, h.rn, cells_pre (own_cells h.hd) (by rw [rows_len KC L R h.rn.symm, ← h.ln]) (by decide), fun i hi => ⟨h.len i hi, cells_pre (own_cells (h.inn i hi)) (by show (strs (L.getD i cd0).compat).length = (R.getD i sl0).2.1 * 1; rw [strs_len, h.len i hi, Nat.mul_one]) (by decide)⟩⟩
/-- Another list in the place of row i's. -/
theorem rows_setR (L : List Cd) (R : List Sl) (i : Nat) (r : Sl) (h : L.length = R.length) (hi : i < L.length) : (KC.rows L R).set (i * 7 + 3) (slV r) = KC.rows L (R.set i r) := by
  have e : L.zip (R.set i r) = (L.zip R).set i (L.getD i cd0, r) := by
    refine List.ext_getElem? fun j => ?_
    by_cases hji : j = i
    · subst hji
      rw [List.getElem?_set_self (by rw [List.length_zip]; omega)]
      rw [zip_at KC L (R.set j r) (by rw [List.length_set]; exact h) j hi, getD_set _ _ _ _ _ (by omega), if_pos rfl]
      rfl
    · rw [List.getElem?_set_ne (fun e => hji e.symm)]
      by_cases hj : j < L.length
      · rw [zip_at KC L (R.set i r) (by rw [List.length_set]; exact h) j hj, zip_at KC L R h j hj, getD_set _ _ _ _ _ (by omega), if_neg hji]
      · rw [List.getElem?_eq_none (by rw [List.length_zip]; omega), List.getElem?_eq_none (by rw [List.length_zip]; omega)]
  unfold Kd.rows
  rw [e]
  exact flat_set (KC.row) 7 (fun d => row_len KC d) (L.zip R) i 3 (by omega) (slV r) _ _ (zip_at KC L R h i hi) rfl
end Go.Proofs.Ytnnaoneegeenkaa.Mv
