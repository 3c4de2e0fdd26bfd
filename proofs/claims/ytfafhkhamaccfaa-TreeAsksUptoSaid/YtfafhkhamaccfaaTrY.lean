/- Writes into nodes of the call's own. -/
import Derived.Test.YtfafhkhamaccfaaTrX
namespace Go.Proofs.Ytfafhkhamaccfaa.Tr
open Go.ChangeShapes Go.WideShapes Go.ChangeAt Go.RowKit Own wordsNames

theorem set_self {α : Type} (xs : List α) (i : Nat) (v : α) (h : xs[i]? = some v) : xs.set i v = xs := by
  induction xs generalizing i with
  | nil => rfl
  | cons x xs ih =>
    cases i with
    | zero => simp at h; rw [h]; rfl
    | succ i => rw [List.set_cons_succ, ih i (by simpa using h)]
theorem zip_set (L : List Nd) (R : List Sl) (i : Nat) (d : Nd) (hi : i < R.length) : (L.zip R).set i (d, R.getD i sl0) = (L.set i d).zip R := by
  induction L generalizing R i with
  | nil => simp
  | cons x L ih =>
    cases R with
    | nil => simp at hi
    | cons r R =>
      cases i with
      | zero => rfl
      | succ i =>
        rw [List.zip_cons_cons, List.set_cons_succ, List.set_cons_succ, List.zip_cons_cons, ← ih R i (by simpa using hi)]
        rfl
theorem nds_set (L : List Nd) (R : List Sl) (i j : Nat) (d : Nd) (v : Value) (h : L.length = R.length) (hi : i < L.length) (hj : j < 3) (hy : (nodeF (L.getD i nd0, R.getD i sl0)).set j v = nodeF (d, R.getD i sl0)) : (ndsV L R).set (i * 3 + j) v = ndsV (L.set i d) R := by
  have e : (L.zip R)[i]? = some (L.getD i nd0, R.getD i sl0) := List.getElem?_zip_eq_some.2 ⟨by rw [List.getElem?_eq_getElem hi, List.getD_eq_getElem?_getD, List.getElem?_eq_getElem hi]; rfl, by show R[i]? = some (R.getD i sl0); rw [List.getD_eq_getElem?_getD, List.getElem?_eq_getElem (by omega : i < R.length)]; rfl⟩
  unfold ndsV
  rw [flat_set nodeF 3 nodeF_len _ i j hj v _ _ e hy, zip_set L R i d (by omega)]
theorem nds_same (L : List Nd) (R : List Sl) (i : Nat) (d : Nd) (h : L.length = R.length) (hi : i < L.length) (hy : nodeF (L.getD i nd0, R.getD i sl0) = nodeF (d, R.getD i sl0)) : ndsV (L.set i d) R = ndsV L R := by
  have h0 : (nodeF (d, R.getD i sl0))[0]? = some (.int .i64 d.parent) := rfl
  rw [← nds_set L R i 0 d (.int .i64 d.parent) h hi (by omega) (by rw [hy]; rfl)]
  exact set_self _ _ _ ((nds_at L R h i 0 hi (by omega)).trans (by rw [hy]; exact h0))
theorem getD_set {α : Type} (L : List α) (i j : Nat) (d z : α) (hi : i < L.length) : (L.set i d).getD j z = if j = i then d else L.getD j z := by
  by_cases h : j = i
  · subst h
    rw [if_pos rfl, List.getD_eq_getElem?_getD, List.getElem?_set_self hi]
    rfl
  · rw [if_neg h, List.getD_eq_getElem?_getD, List.getElem?_set_ne (by omega), ← List.getD_eq_getElem?_getD]
theorem own_shapeK {w : World} {base : Nat} {E : TypeId} {k : Nat} {A : Option Addr} {n c : Nat} {xs : List Value} (h : w.ownsRow base E k (.slice A n c) n xs) (hn : 0 < n) : ∃ g, A = some ⟨g, 0, none⟩ ∧ base ≤ g ∧ g < w.heap.size := by
  rcases h.2 with ⟨hv, hx⟩ | ⟨g, cap, cur, hv, hg, hh, _⟩
  · injection hv with _ h2 _
    omega
  · injection hv with h1 _ _
    exact ⟨g, h1, hg, (Array.getElem?_eq_some_iff.1 hh).1⟩
def putParent (L : List Nd) (i : Nat) (z : Int) : List Nd := L.set i ⟨z, (L.getD i nd0).name, (L.getD i nd0).props⟩
def putName (L : List Nd) (i k : Nat) (nm : List UInt8) : List Nd := L.set i ⟨(L.getD i nd0).parent, (L.getD i nd0).name, (L.getD i nd0).props.set k (nm, ((L.getD i nd0).props.getD k ([], [])).2)⟩
section
variable {w : World} {base : Nat} {A : Option Addr} {n c : Nat} {L : List Nd} {R : List Sl}
theorem NodesOwn.cells (h : NodesOwn w base A n c L R) {i : Nat} (hi : i < n) : ∃ g, A = some ⟨g, 0, none⟩ ∧ base ≤ g ∧ g < w.heap.size ∧ w.cell? ⟨g, i * 3, none⟩ = some (.int .i64 (L.getD i nd0).parent) ∧
    w.cell? ⟨g, i * 3 + 2, none⟩ = some (.slice (R.getD i sl0).1 (R.getD i sl0).2.1 (R.getD i sl0).2.2) ∧ (∀ j, w.frozen? ⟨g, j, none⟩ = false) ∧
    ∀ z, NodesOwn (w.setCell ⟨g, i * 3, none⟩ (.int .i64 z)) base A n c (putParent L i z) R := by
  obtain ⟨g, rfl, hb, hg⟩ := own_shapeK h.2.1 (by omega)
  have hR := h.2.2.1
  have hiL : i < L.length := by rw [← h.1]; exact hi
  have hc := fun j hj => (h.2.1.cellAt (i * 3 + j) (by omega)).trans ((nds_at L R hR.symm i j hiL hj).trans (List.getElem?_eq_getElem (by rw [nodeF_len]; exact hj)))
  refine ⟨g, rfl, hb, hg, hc 0 (by omega), hc 2 (by omega), fun j => h.2.1.frozenAt j, fun z => ?_⟩
  have hst := h.2.1.stored (i * 3) (.int .i64 z)
  rw [show (ndsV L R).set (i * 3) (.int .i64 z) = ndsV (putParent L i z) R from nds_set L R i 0 _ _ hR.symm hiL (by omega) rfl] at hst
  refine ⟨by unfold putParent; rw [List.length_set]; exact h.1, hst.1, by unfold putParent; rw [List.length_set]; exact hR, fun j hj => ?_, h.2.2.2.2⟩
  have h1 := (h.2.2.2.1 j hj).kept hst.2 (own_apartK (h.2.2.2.1 j hj) h.2.1 (by decide))
  unfold putParent
  rw [getD_set _ _ _ _ _ hiL]
  by_cases hji : j = i
  · rw [if_pos hji]
    rw [hji] at h1
    rw [hji]
    exact h1
  · rw [if_neg hji]
    exact h1
theorem NodesOwn.props (h : NodesOwn w base A n c L R) {i k : Nat} (hi : i < n) (hk : k < (R.getD i sl0).2.1) : ∃ g, (R.getD i sl0).1 = some ⟨g, 0, none⟩ ∧ base ≤ g ∧ g < w.heap.size ∧ k < (L.getD i nd0).props.length ∧
    w.cell? ⟨g, k * 2, none⟩ = some (.string (str ((L.getD i nd0).props.getD k ([], [])).1)) ∧ (∀ j, w.frozen? ⟨g, j, none⟩ = false) ∧
    ∀ nm, NodesOwn (w.setCell ⟨g, k * 2, none⟩ (.string (str nm))) base A n c (putName L i k nm) R := by
  have hR := h.2.2.1
  have hiL : i < L.length := by rw [← h.1]; exact hi
  have hiR : i < R.length := by rw [hR]; exact hiL
  have ho := h.2.2.2.1 i hiR
  have hrow := h.2.2.2.2 i
  unfold rowV at ho
  have hl := ho.1
  rw [propsV_len] at hl
  have hkp : k < (L.getD i nd0).props.length := by omega
  obtain ⟨g, hA, hb, hg⟩ := own_shapeK ho (by omega)
  rw [hA] at ho
  have eR : rowV R i = .slice (some ⟨g, 0, none⟩) (R.getD i sl0).2.1 (R.getD i sl0).2.2 := by unfold rowV; rw [hA]
  have hp : (L.getD i nd0).props[k]? = some ((L.getD i nd0).props.getD k ([], [])) := by rw [List.getD_eq_getElem?_getD (l := (L.getD i nd0).props), List.getElem?_eq_getElem hkp]; rfl
  refine ⟨g, hA, hb, hg, hkp, ?_, fun j => ho.frozenAt j, fun nm => ?_⟩
  · have := ho.cellAt (k * 2 + 0) (by omega)
    unfold propsV at this
    rw [flat_at propF 2 propF_len _ k 0 (by omega), hp] at this
    exact this
  · have hst := ho.stored (k * 2) (.string (str nm))
    have eP : (propsV (L.getD i nd0).props).set (k * 2) (.string (str nm)) = propsV ((L.getD i nd0).props.set k (nm, ((L.getD i nd0).props.getD k ([], [])).2)) := flat_set propF 2 propF_len _ k 0 (by omega) _ _ _ hp rfl
    rw [eP] at hst
    refine ⟨by unfold putName; rw [List.length_set]; exact h.1, ?_, by unfold putName; rw [List.length_set]; exact hR, fun j hj => ?_, h.2.2.2.2⟩
    · have h1 := h.2.1.kept hst.2 (by
        have := own_apartK h.2.1 (h.2.2.2.1 i hiR) (by decide)
        rw [eR] at this
        exact this)
      unfold putName
      rw [nds_same L R i ⟨(L.getD i nd0).parent, (L.getD i nd0).name, (L.getD i nd0).props.set k (nm, ((L.getD i nd0).props.getD k ([], [])).2)⟩ hR.symm hiL rfl]
      exact h1
    · unfold putName
      rw [getD_set _ _ _ _ _ hiL]
      by_cases hji : j = i
      · subst hji
        rw [if_pos rfl, eR]
        exact hst.1
      · rw [if_neg hji]
        refine (h.2.2.2.1 j hj).kept hst.2 ?_
        have := h.2.2.2.2 j i hj hiR hji
        rw [eR] at this
        exact this
end
/-- Nodes of which no text is longer than M. -/
def Upto (M : Nat) (L : List Nd) : Prop := L.length ≤ 1048576 ∧ ∀ k, (L.getD k nd0).name.length ≤ M ∧ (L.getD k nd0).props.length ≤ 1048576 ∧ ∀ i, ((L.getD k nd0).props.getD i ([], [])).1.length ≤ M ∧ ((L.getD k nd0).props.getD i ([], [])).2.length ≤ M
theorem Upto.mild {M : Nat} {L : List Nd} (h : Upto M L) (hM : M ≤ 16777216) : Mild L := ⟨by have := h.1; omega, fun k => by
  obtain ⟨h1, h2, h3⟩ := h.2 k
  exact ⟨by omega, by omega, fun i => by have := h3 i; omega⟩⟩
theorem Upto.more {M M' : Nat} {L : List Nd} (h : Upto M L) (hM : M ≤ M') : Upto M' L := ⟨h.1, fun k => by
  obtain ⟨h1, h2, h3⟩ := h.2 k
  exact ⟨by omega, h2, fun i => by have := h3 i; omega⟩⟩
theorem Upto.parent {M : Nat} {L : List Nd} (h : Upto M L) {i : Nat} (hi : i < L.length) (z : Int) : Upto M (putParent L i z) := by
  refine ⟨by unfold putParent; rw [List.length_set]; exact h.1, fun k => ?_⟩
  unfold putParent
  rw [getD_set _ _ _ _ _ hi]
  split
  · exact h.2 i
  · exact h.2 k
theorem Upto.putName {M : Nat} {L : List Nd} (h : Upto M L) {i k : Nat} (hi : i < L.length) (hk : k < (L.getD i nd0).props.length) {nm : List UInt8} (hn : nm.length ≤ M) : Upto M (putName L i k nm) := by
  refine ⟨by unfold Tr.putName; rw [List.length_set]; exact h.1, fun j => ?_⟩
  unfold Tr.putName
  rw [getD_set _ _ _ _ _ hi]
  split
  · obtain ⟨h1, h2, h3⟩ := h.2 i
    refine ⟨h1, by rw [List.length_set]; exact h2, fun m => ?_⟩
    show (((L.getD i nd0).props.set k _).getD m ([], [])).1.length ≤ M ∧ _
    rw [getD_set _ _ _ _ _ hk]
    split
    · exact ⟨hn, (h3 k).2⟩
    · exact h3 m
  · exact h.2 j
theorem Wf.parent {L : List Nd} (h : Wf L) {i : Nat} (hi : i < L.length) {z : Int} (hz : (Lit.int .i64 z).wf = true) : Wf (putParent L i z) := fun k => by
  unfold putParent
  rw [getD_set _ _ _ _ _ hi]
  split
  · exact hz
  · exact h k
theorem Wf.putName {L : List Nd} (h : Wf L) {i k : Nat} (hi : i < L.length) (nm : List UInt8) : Wf (putName L i k nm) := fun j => by
  unfold Tr.putName
  rw [getD_set _ _ _ _ _ hi]
  split
  · exact h i
  · exact h j
end Go.Proofs.Ytfafhkhamaccfaa.Tr
