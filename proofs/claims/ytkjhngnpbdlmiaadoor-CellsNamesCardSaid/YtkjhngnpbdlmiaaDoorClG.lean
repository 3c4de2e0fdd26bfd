/- The contracts of Texts, the document's and the program's: one and the same. -/
import Derived.Test.YtkjhngnpbdlmiaaDoorClF
namespace Go.Proofs.YtkjhngnpbdlmiaaDoor.Cl
open Go.ChangeShapes Go.WideShapes Go.ChangeAt Go.RowKit Own

/-- The texts that end in l, of which the first begins with cur, and what stands behind the last end. -/
def split : List UInt8 → List UInt8 → List (List UInt8) × List UInt8
  | cur, [] => ([], cur)
  | cur, c :: l => if c = 0 then (cur :: (split [] l).1, (split [] l).2) else split (cur ++ [c]) l
theorem split_append : ∀ (a b cur : List UInt8), split cur (a ++ b) = ((split cur a).1 ++ (split (split cur a).2 b).1, (split (split cur a).2 b).2)
  | [], b, cur => by simp [split]
  | c :: a, b, cur => by
    simp only [List.cons_append, split]
    by_cases hc : c = 0
    · simp only [hc, if_true, split_append a b []]
      simp
    · simp only [hc, if_false, split_append a b (cur ++ [c])]
theorem split_snoc (l : List UInt8) (c : UInt8) : split [] (l ++ [c]) = if c = 0 then ((split [] l).1 ++ [(split [] l).2], []) else ((split [] l).1, (split [] l).2 ++ [c]) := by
  rw [split_append]
  by_cases hc : c = 0 <;> simp [split, hc]
theorem split_plain : ∀ (t cur : List UInt8), (∀ i, i < t.length → t.getD i 0 ≠ 0) → split cur t = ([], cur ++ t)
  | [], cur, _ => by simp [split]
  | c :: t, cur, h => by
    have hc : c ≠ 0 := by have := h 0 (by simp); simpa using this
    rw [split, if_neg hc, split_plain t (cur ++ [c]) (fun i hi => by have := h (i + 1) (by simp; omega); simpa using this)]
    simp
theorem zat_ahead : ∀ (l : List UInt8) (i : Nat), i < zat l → l.getD i 0 ≠ 0
  | [], i, h => by simp [zat] at h
  | c :: l, i, h => by
    unfold zat at h
    by_cases hc : c = 0
    · simp [hc] at h
    · rw [if_neg hc] at h
      match i, h with
      | 0, _ => simpa using hc
      | i + 1, h => simpa using zat_ahead l i (by omega)
theorem zat_zero : ∀ (l : List UInt8), zat l < l.length → l.getD (zat l) 0 = 0
  | [], h => by simp [zat] at h
  | c :: l, h => by
    unfold zat at h ⊢
    by_cases hc : c = 0
    · simp [hc]
    · rw [if_neg hc] at h ⊢
      simpa using zat_zero l (by simp at h; omega)
theorem take_zat (l : List UInt8) (h : zat l < l.length) : l.take (zat l + 1) = l.take (zat l) ++ [0] := by
  rw [List.take_succ_eq_append_getElem h]
  have := zat_zero l h
  rw [List.getD_eq_getElem?_getD, List.getElem?_eq_getElem h] at this
  simp at this
  rw [this]
theorem plain_take (l : List UInt8) (n : Nat) (h : n ≤ zat l) : ∀ i, i < (l.take n).length → (l.take n).getD i 0 ≠ 0 := fun i hi => by
  have hn : i < n := by simp at hi; omega
  rw [getD_take l i n hn]
  exact zat_ahead l i (by omega)
/-- One text more. -/
theorem split_next (p rest : List UInt8) (ts : List (List UInt8)) (h : split [] p = (ts, [])) (hz : zat rest < rest.length) : split [] (p ++ rest.take (zat rest + 1)) = (ts ++ [rest.take (zat rest)], []) := by
  rw [split_append, h, take_zat rest hz]
  simp only
  rw [split_append, split_plain _ _ (plain_take rest _ (Nat.le_refl _))]
  simp [split]
theorem split_end (p rest : List UInt8) (ts : List (List UInt8)) (h : split [] p = (ts, [])) (hz : rest.length ≤ zat rest) : split [] (p ++ rest) = (ts, rest) := by
  have ht : rest.take (zat rest) = rest := List.take_of_length_le hz
  have hp := plain_take rest (zat rest) (Nat.le_refl _)
  rw [ht] at hp
  rw [split_append, h]
  simp only
  rw [split_plain rest [] hp]
  simp
theorem split_last (l : List UInt8) (hl : 0 < l.length) : ((split [] l).2 = [] ↔ l.getD (l.length - 1) 0 = 0) := by
  have hd : l = l.take (l.length - 1) ++ [l.getD (l.length - 1) 0] := by
    have h := List.take_succ_eq_append_getElem (l := l) (i := l.length - 1) (by omega)
    rw [List.getD_eq_getElem?_getD, List.getElem?_eq_getElem (by omega)]
    rw [List.take_of_length_le (by omega)] at h
    exact h
  generalize l.getD (l.length - 1) 0 = c at hd ⊢
  generalize l.take (l.length - 1) = a at hd
  subst hd
  rw [split_snoc]
  by_cases hc : c = 0 <;> simp [hc]
theorem split_len : ∀ (l cur : List UInt8), (split cur l).1.length ≤ l.length
  | [], cur => by simp [split]
  | c :: l, cur => by
    unfold split
    split
    · have := split_len l []
      simp; omega
    · have := split_len l (cur ++ [c])
      simp; omega
def str (l : List UInt8) : ByteArray := ⟨l.toArray⟩
theorem str_list (l : List UInt8) : (str l).data.toList = l := rfl
def tx (l : List UInt8) : List ByteArray := if (split [] l).2 = [] then (split [] l).1.map str else []
def etx (l : List UInt8) : Int := if (split [] l).2 = [] then 0 else 4
theorem strs_snoc (xs : List (List UInt8)) (x : List UInt8) : strs ((xs ++ [x]).map str) = strs (xs.map str) ++ [.string (str x)] := by simp [strs]

end Go.Proofs.YtkjhngnpbdlmiaaDoor.Cl
