/- The rows of all cards, one family behind the other; those that stand and those that are refused, by their places. -/
import Derived.Test.YtnnaoneegeenkaaDoorRlM
import Derived.Test.YtnnaoneegeenkaaDoorRlC
import Derived.DeepKeys4
import Derived.Maps.Keyed
import Derived.Maps.OwnSet
import Derived.Maps.Views
namespace Go.Proofs.YtnnaoneegeenkaaDoor.Kc
open Go.ChangeShapes Go.WideShapes Go.ChangeAt Go.RowKit Own Ro Go.Maps Go.WideMaps

theorem getD_map' {α β : Type} (f : α → β) (l : List α) (i : Nat) (a : α) (b : β) (h : i < l.length) : (l.map f).getD i b = f (l.getD i a) := by
  rw [List.getD_eq_getElem?_getD, List.getElem?_map, some_at l a i h]
  rfl
theorem getD_app {α : Type} (l m : List α) (z : α) (i : Nat) : (l ++ m).getD i z = if i < l.length then l.getD i z else m.getD (i - l.length) z := by
  split
  · next h => rw [List.getD_eq_getElem?_getD, List.getElem?_append_left h, ← List.getD_eq_getElem?_getD]
  · next h => rw [List.getD_eq_getElem?_getD, List.getElem?_append_right (by omega), ← List.getD_eq_getElem?_getD]
theorem inn_app {w : World} {b b' : Nat} {R R' : List Sl} {L L' : List Cd} (h : InnOwn KC w b R L) (h' : InnOwn KC w b' R' L') (hb : b ≤ b') (hlt : ∀ i, i < R.length → ∀ g, (rowV R i).ownBlock = some g → g < b') : InnOwn KC w b (R ++ R') (L ++ L') := by
  have e : ∀ i, rowV (R ++ R') i = if i < R.length then rowV R i else rowV R' (i - R.length) := fun i => by
    unfold rowV
    rw [getD_app]
    split <;> rfl
  refine ⟨by simp [h.1, h'.1], fun i hi => ?_, fun i j hi hj hij => ?_⟩
  · rw [e, getD_app, getD_app, ← h.1]
    by_cases hil : i < R.length
    · rw [if_pos hil, if_pos hil, if_pos hil]
      exact h.2.1 i hil
    · rw [if_neg hil, if_neg hil, if_neg hil]
      have := h'.2.1 (i - R.length) (by simp at hi; omega)
      exact ⟨this.1, own_monoK this.2 hb⟩
  · rw [e, e]
    simp only [List.length_append] at hi hj
    by_cases hil : i < R.length
    · rw [if_pos hil]
      by_cases hjl : j < R.length
      · rw [if_pos hjl]
        exact h.2.2 i j hil hjl hij
      · rw [if_neg hjl]
        cases hv : (rowV R i).ownBlock with
        | none => exact .inl rfl
        | some g =>
          refine .inr fun e => ?_
          have h1 := hlt i hil g hv
          have h2 := ((h'.2.1 (j - R.length) (by omega)).2.lt g e.symm).1
          omega
    · rw [if_neg hil]
      by_cases hjl : j < R.length
      · rw [if_pos hjl]
        cases hv : (rowV R' (i - R.length)).ownBlock with
        | none => exact .inl rfl
        | some g =>
          refine .inr fun e => ?_
          have h1 := hlt j hjl g e.symm
          have h2 := ((h'.2.1 (i - R.length) (by omega)).2.lt g hv).1
          omega
      · rw [if_neg hjl]
        exact h'.2.2 _ _ (by omega) (by omega) (by omega)
def pkL (L : List Cd) (js : List Nat) : List Cd := js.map fun j => L.getD j cd0
def pkR (R : List Sl) (js : List Nat) : List Sl := js.map fun j => R.getD j sl0
theorem pkR_at (R : List Sl) (js : List Nat) (i : Nat) (h : i < js.length) : (pkR R js).getD i sl0 = R.getD (js.getD i 0) sl0 := getD_map' _ js i 0 _ h
theorem pkL_at (L : List Cd) (js : List Nat) (i : Nat) (h : i < js.length) : (pkL L js).getD i cd0 = L.getD (js.getD i 0) cd0 := getD_map' _ js i 0 _ h
theorem inn_pick {w : World} {b : Nat} {R : List Sl} {L : List Cd} (h : InnOwn KC w b R L) (js : List Nat) (hn : js.Nodup) (hj : ∀ j ∈ js, j < R.length) : InnOwn KC w b (pkR R js) (pkL L js) := by
  have hlen : (pkR R js).length = js.length := by simp [pkR]
  have hm : ∀ i, i < js.length → js.getD i 0 < R.length := fun i hi => hj _ (by
    rw [List.getD_eq_getElem?_getD, List.getElem?_eq_getElem hi]
    exact List.getElem_mem hi)
  refine ⟨by simp [pkR, pkL], fun i hi => ?_, fun i k hi hk hik => ?_⟩
  · rw [hlen] at hi
    unfold rowV
    rw [pkR_at R js i hi, show KC.z = cd0 from rfl, pkL_at L js i hi]
    exact h.2.1 _ (hm i hi)
  · rw [hlen] at hi hk
    unfold rowV
    rw [pkR_at R js i hi, pkR_at R js k hk]
    refine h.2.2 _ _ (hm i hi) (hm k hk) fun e => hik ?_
    rw [List.getD_eq_getElem?_getD, List.getD_eq_getElem?_getD, List.getElem?_eq_getElem hi, List.getElem?_eq_getElem hk] at e
    exact (List.getElem_inj hn).1 e
/-- The places of those that stand, and of those that are refused. -/
def stJ (i : Nat) : List Nat := (List.range i).filter fun k => !dupB k
def rfJ (i : Nat) : List Nat := (List.range i).filter fun k => dupB k
theorem stJ_I (i : Nat) : stI i = pkL AL (stJ i) := rfl
theorem rfJ_I (i : Nat) : rfI i = pkL AL (rfJ i) := rfl
theorem stJ_nd (i : Nat) : (stJ i).Nodup := List.nodup_range.filter _
theorem rfJ_nd (i : Nat) : (rfJ i).Nodup := List.nodup_range.filter _
theorem stJ_lt (i j : Nat) (h : j ∈ stJ i) : j < i := List.mem_range.1 (List.mem_filter.1 h).1
theorem rfJ_lt (i j : Nat) (h : j ∈ rfJ i) : j < i := List.mem_range.1 (List.mem_filter.1 h).1
theorem stJ_no (i : Nat) (h : dupB i = false) : stJ (i + 1) = stJ i ++ [i] ∧ rfJ (i + 1) = rfJ i := by
  unfold stJ rfJ
  rw [List.range_succ, List.filter_append, List.filter_append]
  simp [h]
theorem stJ_yes (i : Nat) (h : dupB i = true) : stJ (i + 1) = stJ i ∧ rfJ (i + 1) = rfJ i ++ [i] := by
  unfold stJ rfJ
  rw [List.range_succ, List.filter_append, List.filter_append]
  simp [h]
theorem pk_snoc (L : List Cd) (R : List Sl) (js : List Nat) (i : Nat) : KC.rows (pkL L js) (pkR R js) ++ KC.row (L.getD i cd0, R.getD i sl0) = KC.rows (pkL L (js ++ [i])) (pkR R (js ++ [i])) := by
  rw [rows_snoc KC _ _ _ _ (by simp [pkL, pkR])]
  simp [pkL, pkR]
theorem J_len : ∀ i ≤ 27, (stJ i).length ≤ 22 ∧ (rfJ i).length ≤ 5 := by decide +kernel
theorem st27 : (stJ 27).length = 22 := by decide +kernel
theorem rf27 : (rfJ 27).length = 5 := by decide +kernel
/-- The set of names, behind i cards. -/
def Names (D : DataW Unit) (i : Nat) : Prop := IsMap D ∧ ∀ nm : List UInt8, Maps.has D (.string nm) = true ↔ ∃ k, k < i ∧ (AL.getD k cd0).name = nm
theorem Names.none : Names (.map []) 0 := ⟨⟨[], rfl⟩, fun nm => ⟨fun h => (by cases h), fun ⟨k, h1, _⟩ => by omega⟩⟩
theorem isMap_set {D : DataW Unit} (h : IsMap D) (k : Lit) (d : DataW Unit) : IsMap (D.put k d) := by
  obtain ⟨es, rfl⟩ := h
  exact ⟨_, rfl⟩
theorem Names.put {D : DataW Unit} {i : Nat} (h : Names D i) (d : DataW Unit) : Names (D.put (.string (AL.getD i cd0).name) d) (i + 1) := by
  refine ⟨isMap_set h.1 _ _, fun nm => ?_⟩
  by_cases he : nm = (AL.getD i cd0).name
  · subst he
    exact ⟨fun _ => ⟨i, by omega, rfl⟩, fun _ => has_put_same h.1 (by trivial) d⟩
  · rw [has_put_other (by intro e; injection e with e; exact he e), h.2]
    constructor
    · rintro ⟨k, h1, h2⟩
      exact ⟨k, by omega, h2⟩
    · rintro ⟨k, h1, h2⟩
      refine ⟨k, ?_, h2⟩
      by_cases hk : k = i
      · subst hk
        exact absurd h2.symm he
      · omega
theorem Names.dup {D : DataW Unit} {i : Nat} (h : Names D i) : Maps.has D (.string (AL.getD i cd0).name) = dupB i := by
  rw [Bool.eq_iff_iff, h.2]
  unfold dupB
  rw [List.any_eq_true]
  constructor
  · rintro ⟨k, h1, h2⟩
    exact ⟨k, List.mem_range.2 h1, decide_eq_true h2⟩
  · rintro ⟨k, h1, h2⟩
    exact ⟨k, List.mem_range.1 h1, of_decide_eq_true h2⟩
theorem Names.stay {D : DataW Unit} {i : Nat} (h : Names D i) (hd : dupB i = true) : Names D (i + 1) := by
  refine ⟨h.1, fun nm => ?_⟩
  rw [h.2]
  constructor
  · rintro ⟨k, h1, h2⟩
    exact ⟨k, by omega, h2⟩
  · rintro ⟨k, h1, h2⟩
    by_cases hk : k = i
    · subst hk
      rw [← h.dup, h.2] at hd
      obtain ⟨j, h3, h4⟩ := hd
      exact ⟨j, h3, h4.trans h2⟩
    · exact ⟨k, by omega, h2⟩
theorem nameLaw : Keyed Tryd.prog 9 := string_keyed Tryd.underlying9
theorem nameKey (s : List UInt8) (h : s.length ≤ 1000) : keyOf Tryd.prog 9 (.string (str s)) = some (.string s) := keyOf_string_mk Tryd.underlying9 (by unfold maxLen; rw [str_size]; omega)
theorem zeroUnit (w : World) : (zeroValue 136).run Tryd.prog w = .ok (.agg #[]) w := by kernel_rfl
end Go.Proofs.YtnnaoneegeenkaaDoor.Kc
