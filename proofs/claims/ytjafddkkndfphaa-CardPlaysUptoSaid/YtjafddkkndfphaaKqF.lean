/- A registry of the program's beside the document's, and what is written elsewhere. -/
import Derived.Test.YtjafddkkndfphaaKqE
import Derived.Test.YtjafddkkndfphaaKrE
namespace Go.Proofs.Ytjafddkkndfphaa.Kq
open Go.ChangeShapes Go.WideShapes Go.ChangeAt Go.RowKit Own Ro wordsNames Kc Kr

/-- A block in which a text of the program's cards lies. -/
def Tx (C F : Cs) (y : Nat) : Prop := (∃ i a, i < C.length ∧ (C.getD i zc).2.1 = some a ∧ a.block = y) ∨ ∃ i a, i < F.length ∧ (F.getD i zc).2.1 = some a ∧ a.block = y
def LB (c f n : Sl) (y : Nat) : Prop := (slV c).ownBlock = some y ∨ (slV f).ownBlock = some y ∨ (slV n).ownBlock = some y
def Wr (g q : Nat) (c f n : Sl) (y : Nat) : Prop := y = g ∨ Sq q c f n y
structure Pr (W : World) (g q : Nat) (C F : Cs) (N : List Nt) (z : Bool) (c f n : Sl) (RC RF : List Sl) : Prop where
  p : RegAt W g C F N z
  r : Qat W q c f n (Kr.plain C) (Kr.plain F) RC RF N z
  lt : ∀ y, Tx C F y → y < W.heap.size
  ap : ∀ y, Tx C F y → ¬ Wr g q c f n y
theorem cells_ch {S : Nat → Prop} {W W' : World} {q n : Nat} {A : Option Addr} {xs : List Value} (h : CellsIn W q A n xs) (hc : Ch S W W') (hs : ∀ a, A = some a → ¬ S a.block) : CellsIn W' q A n xs := by
  refine ⟨h.1, ?_⟩
  rcases h.2 with h0 | ⟨b, o, rfl, hb, hx⟩
  · exact Or.inl h0
  · refine Or.inr ⟨b, o, rfl, Nat.lt_of_lt_of_le hb hc.size, fun j u hu => ?_⟩
    rw [World.cell?_of_block (w := W) (hc.block b hb (hs _ rfl))]
    exact hx j u hu
theorem regAt_ch {S : Nat → Prop} {W W' : World} {g : Nat} {C F : Cs} {N : List Nt} {z : Bool} (h : RegAt W g C F N z) (hc : Ch S W W') (hg : ¬ S g) (ht : ∀ y, Tx C F y → ¬ S y) : RegAt W' g C F N z := by
  obtain ⟨x1, x2, x3, x4, x5, x6, x7, x8⟩ := h
  refine ⟨(hc.block g x1.lt hg).trans x1, x2, x3, x4, fun i hi => ?_, fun i hi => ?_, x7, x8⟩
  · obtain ⟨a, b, c, d, e⟩ := x5 i hi
    exact ⟨a, cells_ch b hc (fun ad ha => ht _ (Or.inl ⟨i, ad, hi, ha, rfl⟩)), c, d, e⟩
  · obtain ⟨a, b, c, d, e⟩ := x6 i hi
    exact ⟨a, cells_ch b hc (fun ad ha => ht _ (Or.inr ⟨i, ad, hi, ha, rfl⟩)), c, d, e⟩
theorem Qat.ch {S : Nat → Prop} {W W' : World} {q : Nat} {c f n : Sl} {L G : List Cd} {RC RF : List Sl} {N : List Nt} {z : Bool} (h : Qat W q c f n L G RC RF N z) (hc : Ch S W W') (hq : ¬ S q) (hl : ∀ y, LB c f n y → ¬ S y)
    (hs : ∀ y cur fr, W.heap[y]? = some (.cells cur 9 fr) → ¬ S y) : Qat W' q c f n L G RC RF N z := by
  obtain ⟨h1, h2, h3, h4, h5, h6, h7, h8, h9, h10, h11⟩ := h
  refine ⟨(hc.block q (Array.getElem?_eq_some_iff.1 h1).1 hq).trans h1, rows_ch h2 hc (fun y hy => hl y (Or.inl hy)) (fun i hi y hy => ?_), rows_ch h3 hc (fun y hy => hl y (Or.inr (Or.inl hy))) (fun i hi y hy => ?_), own_ch h4 hc (fun y hy => hl y (Or.inr (Or.inr hy))), h5, h6, h7, h8, h9, h10, h11⟩
  · obtain ⟨_, _, ht⟩ := own_type (h2.2.2.2.1 i hi).2 hy
    exact hs _ _ _ ht
  · obtain ⟨_, _, ht⟩ := own_type (h3.2.2.2.1 i hi).2 hy
    exact hs _ _ _ ht
section
variable {W : World} {g q : Nat} {C F : Cs} {N : List Nt} {z : Bool} {c f n : Sl} {RC RF : List Sl}
theorem Qat.types (h : Qat W q c f n (Kr.plain C) (Kr.plain F) RC RF N z) {y : Nat} (hy : Sq q c f n y) : ∃ cur E fr, W.heap[y]? = some (.cells cur E fr) ∧ (E = 63 ∨ E = 30 ∨ E = 78) := by
  rcases hy with rfl | hy | hy | hy
  · exact ⟨_, _, _, h.blk, Or.inl rfl⟩
  · obtain ⟨_, _, ht⟩ := own_type h.cl.2.1 hy
    exact ⟨_, _, _, ht, Or.inr (Or.inl rfl)⟩
  · obtain ⟨_, _, ht⟩ := own_type h.fl.2.1 hy
    exact ⟨_, _, _, ht, Or.inr (Or.inl rfl)⟩
  · obtain ⟨_, _, ht⟩ := own_type h.nl hy
    exact ⟨_, _, _, ht, Or.inr (Or.inr rfl)⟩
theorem Qat.not_reg (h : Qat W q c f n (Kr.plain C) (Kr.plain F) RC RF N z) {y : Nat} {cur : Array Value} {E : TypeId} {fr : Nat × Nat} (hy : W.heap[y]? = some (.cells cur E fr)) (hE : E ≠ 63 ∧ E ≠ 30 ∧ E ≠ 78) : ¬ Sq q c f n y := fun e => by
  obtain ⟨_, E', _, ht, h3⟩ := h.types e
  rw [hy] at ht
  injection ht with ht
  injection ht with _ h2 _
  subst h2
  rcases h3 with h3 | h3 | h3
  · exact hE.1 h3
  · exact hE.2.1 h3
  · exact hE.2.2 h3
theorem lb_sq {y : Nat} (h : LB c f n y) : Sq q c f n y := Or.inr h
/-- Another pair's step. -/
theorem Pr.ch {W' : World} {g2 q2 : Nat} {C2 F2 : Cs} {N2 : List Nt} {z2 : Bool} {c2 f2 n2 : Sl} {RC2 RF2 : List Sl} (h : Pr W g q C F N z c f n RC RF) (h2 : Pr W g2 q2 C2 F2 N2 z2 c2 f2 n2 RC2 RF2) (hc : Ch (Wr g2 q2 c2 f2 n2) W W')
    (hg : g ≠ g2) (hq : q ≠ q2) (hl : ∀ y, LB c f n y → ¬ LB c2 f2 n2 y) (ht : ∀ y, Tx C F y → ¬ Wr g2 q2 c2 f2 n2 y) : Pr W' g q C F N z c f n RC RF := by
  have hreg : ∀ {y cur E fr}, W.heap[y]? = some (.cells cur E fr) → E ≠ 81 → y ≠ g2 := fun hy hE e => type_ne hy h2.p.blk hE e
  refine ⟨regAt_ch h.p hc (fun e => ?_) ht, h.r.ch hc (fun e => ?_) (fun y hy e => ?_) (fun y cur fr hy e => ?_), fun y hy => Nat.lt_of_lt_of_le (h.lt y hy) hc.size, h.ap⟩
  · rcases e with e | e
    · exact hg e
    · exact h2.r.not_reg h.p.blk (by decide) e
  · rcases e with e | e
    · exact hreg h.r.blk (by decide) e
    · rcases e with e | e
      · exact hq e
      · rcases e with e | e | e
        · obtain ⟨_, _, t⟩ := own_type h2.r.cl.2.1 e
          exact type_ne t h.r.blk (by decide) rfl
        · obtain ⟨_, _, t⟩ := own_type h2.r.fl.2.1 e
          exact type_ne t h.r.blk (by decide) rfl
        · obtain ⟨_, _, t⟩ := own_type h2.r.nl e
          exact type_ne t h.r.blk (by decide) rfl
  · have tl : ∃ cur E fr, W.heap[y]? = some (.cells cur E fr) ∧ E ≠ 81 ∧ E ≠ 63 := by
      rcases hy with hy | hy | hy
      · obtain ⟨_, _, t⟩ := own_type h.r.cl.2.1 hy
        exact ⟨_, _, _, t, by decide, by decide⟩
      · obtain ⟨_, _, t⟩ := own_type h.r.fl.2.1 hy
        exact ⟨_, _, _, t, by decide, by decide⟩
      · obtain ⟨_, _, t⟩ := own_type h.r.nl hy
        exact ⟨_, _, _, t, by decide, by decide⟩
    obtain ⟨_, _, _, t, e1, e2⟩ := tl
    rcases e with e | e
    · exact hreg t e1 e
    · rcases e with e | e
      · exact type_ne t h2.r.blk e2 e
      · exact hl y hy e
  · rcases e with e | e
    · exact hreg hy (by decide) e
    · exact h2.r.not_reg hy (by decide) e
end
/-- What a step leaves of a pair. -/
def Stepped (g q : Nat) (C F : Cs) (c f n : Sl) (w w' : World) : Prop :=
  ∃ C' F' N' z' c' f' n' RC' RF', Pr w' g q C' F' N' z' c' f' n' RC' RF' ∧ Ch (Wr g q c f n) w w' ∧ (∀ y, Tx C' F' y → Tx C F y ∨ w.heap.size ≤ y) ∧ Fresh w (slV c) (slV c') ∧ Fresh w (slV f) (slV f') ∧ Fresh w (slV n) (slV n')
theorem mark_same {C : Cs} {N N1 N2 : List Nt} {z : Bool} {a : Nt} {e1 e2 : Int} {m : Nat} (h1 : MarkRel C N z a N1 e1) (h2 : MRel m N z a N2 e2) (hm : m = C.length) : e1 = e2 ∧ N1 = N2 := by
  subst hm
  unfold MarkRel at h1
  unfold MRel at h2
  rcases h1 with ⟨a1, b1, d1⟩ | ⟨a1, b1, d1, f1⟩ | ⟨a1, b1, d1, f1, g1⟩ | ⟨a1, b1, d1, f1, g1⟩ <;> rcases h2 with ⟨a2, b2, d2⟩ | ⟨a2, b2, d2, f2⟩ | ⟨a2, b2, d2, f2, g2⟩ | ⟨a2, b2, d2, f2, g2⟩ <;>
    first
    | (exfalso; simp_all; done)
    | (exfalso; omega)
    | (exact ⟨by omega, by simp_all⟩)
theorem enter_same2 {C F C1 F1 : Cs} {z : Bool} {d : Cd} {B : Nat} {L1 G1 : List Cd} {e1 e2 : Int} (h1 : EnterRel C F z d B C1 F1 e1) (h2 : ERel (Kr.plain C) (Kr.plain F) z d L1 G1 e2) : e1 = e2 ∧ Kr.plain C1 = L1 ∧ Kr.plain F1 = G1 := by
  have hd : DupL (Kr.plain C) d.name ↔ Dup C d.name := by
    unfold DupL Dup Kr.plain
    constructor
    · rintro ⟨i, hi, hx⟩
      rw [List.length_map] at hi
      exact ⟨i, hi, by rw [← map_fst_at C i hi]; exact hx⟩
    · rintro ⟨i, hi, hx⟩
      exact ⟨i, by rw [List.length_map]; exact hi, by rw [map_fst_at C i hi]; exact hx⟩
  have lc : (Kr.plain C).length = C.length := by simp [Kr.plain]
  have lf : (Kr.plain F).length = F.length := by simp [Kr.plain]
  have sn : ∀ (X : Cs) (r : Sl), Kr.plain (X ++ [(d, r)]) = Kr.plain X ++ [d] := fun X r => by simp [Kr.plain]
  unfold EnterRel at h1
  unfold ERel at h2
  rw [hd, lc, lf] at h2
  rcases h1 with ⟨a1, b1, rfl, rfl⟩ | ⟨a1, k1, b1, rfl, rfl⟩ | ⟨a1, k1, p1, l1, b1, rfl, rfl⟩ | ⟨a1, k1, p1, l1, b1, rfl, r, rfl, _⟩ | ⟨a1, k1, p1, l1, b1, rfl, rfl⟩ | ⟨a1, k1, p1, l1, b1, rfl, r, rfl, _⟩ <;>
    rcases h2 with ⟨a2, b2, rfl, rfl⟩ | ⟨a2, k2, b2, rfl, rfl⟩ | ⟨a2, k2, p2, l2, b2, rfl, rfl⟩ | ⟨a2, k2, p2, l2, b2, rfl, rfl⟩ | ⟨a2, k2, p2, l2, b2, rfl, rfl⟩ | ⟨a2, k2, p2, l2, b2, rfl, rfl⟩ <;>
    first
    | (exfalso; simp_all; done)
    | (exfalso; omega)
    | (exact absurd k2 k1)
    | (exact absurd k1 k2)
    | (exact absurd p2 p1)
    | (exact absurd p1 p2)
    | (exact ⟨by omega, rfl, rfl⟩)
    | (exact ⟨by omega, sn _ _, rfl⟩)
    | (exact ⟨by omega, rfl, sn _ _⟩)
end Go.Proofs.Ytjafddkkndfphaa.Kq
