/- The set of kids that were seen; the way down, as a slice of the call's own. -/
import Derived.Test.YtfafhkhamaccfaaTrR
import Derived.DeepKeys4
import Derived.Maps.Keyed
import Derived.Maps.OwnSet
import Derived.Maps.Views
namespace Go.Proofs.Ytfafhkhamaccfaa.Tr
open Go.ChangeShapes Go.WideShapes Go.ChangeAt Go.RowKit Own wordsNames Go.Maps

theorem laidOut : laidOutB Try.prog = true := by kernel_rfl
theorem kidLaw : Keyed Try.prog 78 := Keyed.of_law (deep_law_laid laidOut (m := 2) (by omega) (of_decide_eq_true (by kernel_rfl)) (by kernel_rfl) (by rw [Try.underlying78]))
def kidL (p : Int) (nm : List UInt8) : Lit := .string (keyBytes [.int .i64 p, .string nm])
theorem keyOf_kid (p : Int) (nm : List UInt8) (hp : (Lit.int .i64 p).wf = true) (hn : nm.length ≤ 16777216) : keyOf Try.prog 78 (.agg #[.int .i64 p, .string (str nm)]) = some (kidL p nm) := by
  have hkt : Try.prog.keyType 78 = true := by kernel_rfl
  have h2 : Try.prog.cellsOf 78 = 2 := by kernel_rfl
  have c1 : Try.prog.cellsOf 3 = 1 := by kernel_rfl
  have c2 : Try.prog.cellsOf 9 = 1 := by kernel_rfl
  obtain ⟨m, hm⟩ : ∃ m, Try.prog.types.size = m + 1 := ⟨Try.prog.types.size - 1, by
    have h : 0 < Try.prog.types.size := of_decide_eq_true (by kernel_rfl)
    omega⟩
  unfold keyOf
  simp only [Try.underlying78]
  rw [if_pos (by simp [hkt, Value.formed, Try.underlying78, h2]), hm]
  unfold Program.keyLits
  simp only [Try.underlying78, Value.cells]
  rw [if_pos ⟨by rw [h2]; rfl, by kernel_rfl⟩]
  have hs : (str nm).size ≤ maxLen := by unfold maxLen; rw [str_size]; omega
  simp [c1, c2, Program.keyLits, Try.underlying3, Try.underlying9, hp, hs, kidL, str_list]
theorem kidL_key (p : Int) (nm : List UInt8) : WideAt.IsKeyLit (kidL p nm) := trivial
theorem kidL_inj {p p' : Int} {nm nm' : List UInt8} (hp : (Lit.int .i64 p).wf = true) (hp' : (Lit.int .i64 p').wf = true) (hn : nm.length ≤ 16777216) (hn' : nm'.length ≤ 16777216) (h : kidL p nm = kidL p' nm') : p = p' ∧ nm = nm' := by
  have h1 := keyOf_kid p nm hp hn
  have h2 := keyOf_kid p' nm' hp' hn'
  rw [← h] at h2
  have h3 := kidLaw.inj h1 h2
  injection h3 with h3
  have h4 := congrArg (fun a : Array Value => a.toList) h3
  simp only at h4
  injection h4 with h5 h6
  injection h6 with h6 _
  injection h5 with _ h5
  injection h6 with h6
  exact ⟨h5, congrArg (fun b : ByteArray => b.data.toList) h6⟩
/-- The numbers of nodes are numbers of their kind. -/
def Wf (L : List Nd) : Prop := ∀ k, (Lit.int .i64 (L.getD k nd0).parent).wf = true
def Seen (D : DataW Unit) (L : List Nd) (i : Nat) : Prop := IsMap D ∧ ∀ p nm, (Lit.int .i64 p).wf = true → nm.length ≤ 16777216 → (Maps.has D (kidL p nm) = true ↔ ∃ k, 1 ≤ k ∧ k < i ∧ (L.getD k nd0).parent = p ∧ (L.getD k nd0).name = nm)
theorem Seen.none (L : List Nd) : Seen (.map []) L 1 := ⟨⟨[], rfl⟩, fun p nm _ _ => ⟨fun h => (by cases h), fun ⟨k, h1, h2, _⟩ => by omega⟩⟩
theorem isMap_put {D : DataW Unit} (h : IsMap D) (k : Lit) (d : DataW Unit) : IsMap (D.put k d) := by
  obtain ⟨es, rfl⟩ := h
  exact ⟨_, rfl⟩
theorem Seen.put {D : DataW Unit} {L : List Nd} {i : Nat} (h : Seen D L i) (hi : 1 ≤ i) (hw : Wf L) (hm : Mild L) (d : DataW Unit) : Seen (D.put (kidL (L.getD i nd0).parent (L.getD i nd0).name) d) L (i + 1) := by
  refine ⟨isMap_put h.1 _ _, fun p nm hp hn => ?_⟩
  by_cases he : p = (L.getD i nd0).parent ∧ nm = (L.getD i nd0).name
  · obtain ⟨rfl, rfl⟩ := he
    exact ⟨fun _ => ⟨i, hi, by omega, rfl, rfl⟩, fun _ => has_put_same h.1 (kidL_key _ _) d⟩
  · have hne : kidL p nm ≠ kidL (L.getD i nd0).parent (L.getD i nd0).name := fun e => he (by
      obtain ⟨a, b⟩ := kidL_inj hp (hw i) hn (hm.2 i).1 e
      exact ⟨a, b⟩)
    rw [has_put_other hne, h.2 p nm hp hn]
    constructor
    · rintro ⟨k, h1, h2, h3⟩
      exact ⟨k, h1, by omega, h3⟩
    · rintro ⟨k, h1, h2, h3, h4⟩
      refine ⟨k, h1, ?_, h3, h4⟩
      by_cases hk : k = i
      · subst hk
        exact absurd ⟨h3.symm, h4.symm⟩ he
      · omega
def wayV (L : List Nd) (j : Nat) : List Value := (way L j).map fun x => .int .i64 x
theorem wayV_len (L : List Nd) (j : Nat) : (wayV L j).length = (aboveN L j).length := by unfold wayV; rw [List.length_map, way_len]
theorem own_take {w : World} {base : Nat} {E : TypeId} {A : Option Addr} {n c : Nat} {xs : List Value} (h : w.ownsRow base E 1 (.slice A n c) n xs) (hn : 0 < n) (k : Nat) (hk : k ≤ n) : w.ownsRow base E 1 (.slice A k c) k (xs.take k) := by
  have h1 := h.1
  rcases h.2 with ⟨hv, h0⟩ | ⟨g, cap, cur, hv, hg, hh, hc, hm, hs, ht⟩
  · omega
  · injection hv with a1 a2 a3
    subst a1 a3
    refine ⟨by rw [List.length_take]; omega, .inr ⟨g, c, cur, rfl, hg, hh, by omega, hm, hs, ?_⟩⟩
    rw [← ht, Nat.mul_one, Nat.mul_one, List.take_take, Nat.min_eq_left hk]
theorem way_up {L : List Nd} {n j p : Nat} (hb : Behind L n) (hj : j < n) (hp : p ∈ aboveN L j) : ∃ u : Nat, u < (way L j).length ∧ u + 1 = (way L p).length ∧ (way L j).take (u + 1) = way L p ∧ Lib.idxOf (way L j) (p : Int) = (u : Int) := by
  obtain ⟨post, h1, h2, h3, h4⟩ := way_at hb hj hp
  have hlen : (way L p).dropLast.length = (way L p).length - 1 := List.length_dropLast
  have ht : (way L j).take ((way L p).length) = way L p := by rw [h1, List.take_left]
  refine ⟨(way L p).length - 1, by rw [h1, List.length_append]; omega, by omega, by rw [show (way L p).length - 1 + 1 = (way L p).length by omega]; exact ht, ?_⟩
  have e := Lib.idxOf_hit (way L j) (way L j).length ((way L p).length - 1) (p : Int) (by rw [h1, List.length_append]; omega) (Nat.le_refl _) ?_ ?_
  · rw [List.take_length] at e
    exact e
  · rw [h1, h2, List.append_assoc, List.getD_eq_getElem?_getD, List.getElem?_append_right (by rw [hlen]; simp), hlen]
    simp
  · intro i hi
    have hi2 : i < (way L p).dropLast.length := by rw [hlen]; exact hi
    rw [h1, h2, List.append_assoc, List.getD_eq_getElem?_getD, List.getElem?_append_left hi2, List.getElem?_eq_getElem hi2]
    exact h3 _ (List.getElem_mem hi2)
theorem way_no {L : List Nd} {j : Nat} {x : Int} (h : x ∉ way L j) : Lib.idxOf (way L j) x = -1 := by
  have e := Lib.idxOf_miss (way L j) (way L j).length x fun i hi => by
    rw [List.getD_eq_getElem?_getD, List.getElem?_eq_getElem hi]
    exact fun he => h (by
      have h2 : (way L j)[i] = x := he
      rw [← h2]
      exact List.getElem_mem hi)
  rw [List.take_length] at e
  exact e
end Go.Proofs.Ytfafhkhamaccfaa.Tr
