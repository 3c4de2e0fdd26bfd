/- RadioCards: what the registry holds behind i of the family's cards; whose names stood ahead. -/
import Derived.Test.YtinocgngjhomcaaDoorRdA
import Derived.Test.YtinocgngjhomcaaDoorRdF
import Derived.Test.YtinocgngjhomcaaDoorKsG
namespace Go.Proofs.YtinocgngjhomcaaDoor.Kr
open Go.ChangeShapes Go.WideShapes Go.ChangeAt Go.RowKit Own Ro wordsNames Kc

theorem fl_ok : ∀ i < 6, CardOk (FL.getD i cd0) := by
  unfold CardOk TextsOk okText
  decide
def Ent (i : Nat) (C F : Cs) : Prop := C.map (·.1) = FL.take (min i 5) ∧ F.map (·.1) = (FL.drop 5).take (i - 5)
theorem fl_dup : ∀ i < 6, ((∃ k, k < min i 5 ∧ (FL.getD k cd0).name = (FL.getD i cd0).name) ↔ i = 5) := by
  intro i hi
  have h1 : ∀ i < 5, ∀ k < i, (FL.getD k cd0).name ≠ (FL.getD i cd0).name := by decide
  constructor
  · rintro ⟨k, hk, e⟩
    by_cases h : i < 5
    · exact absurd e (h1 i h k (by omega))
    · omega
  · rintro rfl
    exact ⟨3, by omega, by decide⟩
theorem Ent.len {i : Nat} {C F : Cs} (h : Ent i C F) (hi : i ≤ 6) : C.length = min i 5 ∧ F.length = i - 5 := by
  have h1 := congrArg List.length h.1
  have h2 := congrArg List.length h.2
  simp only [List.length_map, List.length_take, List.length_drop, show FL.length = 6 from rfl] at h1 h2
  omega
theorem Ent.dup {i : Nat} {C F : Cs} (h : Ent i C F) (hi : i < 6) : Dup C (FL.getD i cd0).name ↔ i = 5 := by
  have hl := (h.len (by omega)).1
  rw [← fl_dup i hi]
  have hc : ∀ k, k < C.length → (C.getD k zc).1 = FL.getD k cd0 := fun k hk => by
    rw [← map_fst_at C k hk, h.1, List.getD_eq_getElem?_getD, List.getElem?_take, if_pos (by omega), ← List.getD_eq_getElem?_getD]
  constructor
  · rintro ⟨k, hk, e⟩
    exact ⟨k, by omega, by rw [← hc k hk]; exact e⟩
  · rintro ⟨k, hk, e⟩
    exact ⟨k, by omega, by rw [hc k (by omega)]; exact e⟩
theorem Ent.step {i : Nat} {C F C' F' : Cs} {B : Nat} {er : Int} (h : Ent i C F) (hi : i < 6) (hr : EnterRel C F false (FL.getD i cd0) B C' F' er) : er = (if i = 5 then 71 else 0) ∧ Ent (i + 1) C' F' := by
  have hl := h.len (by omega)
  have hd := h.dup hi
  have hok := fl_ok i hi
  rcases hr with ⟨h1, _⟩ | ⟨_, h1, _⟩ | ⟨_, _, _, h1, _⟩ | ⟨_, _, h1, _, he, hC, r, hF, _⟩ | ⟨_, _, _, h1, _⟩ | ⟨_, _, h1, _, he, hF, r, hC, _⟩
  · cases h1
  · exact absurd hok h1
  · omega
  · have := hd.1 h1
    subst this
    refine ⟨he, ?_, ?_⟩
    · rw [hC]; exact h.1
    · rw [hF, List.map_append, h.2]; rfl
  · omega
  · have h5 : i ≠ 5 := fun e => h1 (hd.2 e)
    refine ⟨by rw [if_neg h5]; exact he, ?_, ?_⟩
    · rw [hC, List.map_append, h.1, show min i 5 = i by omega, show min (i + 1) 5 = i + 1 by omega, List.take_add_one]
      congr 1
      rw [List.getD_eq_getElem?_getD]
      have : i < FL.length := by show i < 6; omega
      rw [List.getElem?_eq_getElem this]
      rfl
    · rw [hF, h.2, show i - 5 = 0 by omega, show i + 1 - 5 = 0 by omega]
/-- Did the name of place i stand ahead, among the first k? -/
def tw (i k : Nat) : Bool := (List.range k).any fun j => (str (FL.getD j cd0).name).toList == (str (FL.getD i cd0).name).toList
theorem tw_succ (i k : Nat) : tw i (k + 1) = (tw i k || ((str (FL.getD k cd0).name).toList == (str (FL.getD i cd0).name).toList)) := by
  unfold tw
  rw [List.range_succ, List.any_append, List.any_cons, List.any_nil, Bool.or_false]
theorem tw_all : ∀ i < 6, tw i i = decide (i = 5) := by decide +kernel
end Go.Proofs.YtinocgngjhomcaaDoor.Kr
