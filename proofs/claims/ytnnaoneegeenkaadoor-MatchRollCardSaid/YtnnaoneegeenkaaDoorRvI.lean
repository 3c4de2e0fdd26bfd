/- The document's Stands: one card more, one table more. -/
import Derived.Test.YtnnaoneegeenkaaDoorRvF
namespace Go.Proofs.YtnnaoneegeenkaaDoor.Kq
open Go.ChangeShapes Go.WideShapes Go.ChangeAt Go.RowKit Own Ro wordsNames Kc
open Ka (i64s i64s_len i64s_at entV Rt KR)

def offK (k : Nat) : Nat := [0, 5, 11, 16, 21, 27].getD k 0
theorem FM_off : ∀ k < 5, offK (k + 1) = offK k + (FM k).L.length ∧ offK k + (FM k).L.length ≤ 27 := by decide +kernel
theorem FM_at : ∀ k < 5, ∀ i < (FM k).L.length, AL.getD (offK k + i) cd0 = (FM k).L.getD i cd0 ∧ offK k + i < 27 := by
  intro k hk i hi
  have h6 : i < 6 := Nat.lt_of_lt_of_le hi (by
    obtain rfl | rfl | rfl | rfl | rfl : k = 0 ∨ k = 1 ∨ k = 2 ∨ k = 3 ∨ k = 4 := by omega
    all_goals decide)
  obtain rfl | rfl | rfl | rfl | rfl : k = 0 ∨ k = 1 ∨ k = 2 ∨ k = 3 ∨ k = 4 := by omega
  all_goals
    obtain rfl | rfl | rfl | rfl | rfl | rfl : i = 0 ∨ i = 1 ∨ i = 2 ∨ i = 3 ∨ i = 4 ∨ i = 5 := by omega
    all_goals first
      | exact ⟨rfl, by decide⟩
      | exact absurd hi (by decide)
theorem dupL_st {g : Nat} (hg : g < 27) : DupL (stI g) (AL.getD g cd0).name ↔ dupB g = true := by
  unfold DupL
  rw [← st_dup g hg, List.any_eq_true]
  constructor
  · rintro ⟨i, hi, he⟩
    refine ⟨_, List.getElem_mem hi, ?_⟩
    rw [List.getD_eq_getElem?_getD, List.getElem?_eq_getElem hi] at he
    exact decide_eq_true he
  · rintro ⟨x, hx, he⟩
    obtain ⟨i, hi, rfl⟩ := List.getElem_of_mem hx
    exact ⟨i, hi, by rw [List.getD_eq_getElem?_getD, List.getElem?_eq_getElem hi]; exact of_decide_eq_true he⟩
theorem erel_step {L' G' : List Cd} {g : Nat} {er : Int} (hg : g < 27) (h : ERel (stI g) (rfI g) false (AL.getD g cd0) L' G' er) : L' = stI (g + 1) ∧ G' = rfI (g + 1) := by
  have hd := dupL_st hg
  have hok := AL_ok g hg
  have lC := st_len g (by omega)
  have lF := rf_len g (by omega)
  rw [stI_succ, rfI_succ]
  rcases h with ⟨h, _⟩ | ⟨_, h, _⟩ | ⟨_, _, _, h, _⟩ | ⟨_, _, h, _, _, rfl, rfl⟩ | ⟨_, _, _, h, _⟩ | ⟨_, _, h, _, _, rfl, rfl⟩
  · cases h
  · exact absurd hok h
  · omega
  · rw [if_pos (hd.1 h), if_pos (hd.1 h)]
    exact ⟨rfl, rfl⟩
  · omega
  · have hq : ¬ dupB g = true := fun e => h (hd.2 e)
    rw [if_neg hq, if_neg hq]
    exact ⟨rfl, rfl⟩
/-- What the registry's Enter may write, seen from the world in which the families stand. -/
theorem ch_kp {s0 : Nat} {w2 W W' : World} {c f : Sl} (h : Ch (Sq s0 c f sl0) W W') (hk : Kp s0 (s0 + 1) w2 W) (hc : ∀ x, (slV c).ownBlock = some x → w2.heap.size ≤ x) (hf : ∀ x, (slV f).ownBlock = some x → w2.heap.size ≤ x) : Kp s0 (s0 + 1) w2 W' :=
  ⟨h.os.trans hk.os, h.tape.trans hk.tape, h.output.trans hk.output, Nat.le_trans hk.size h.size, fun k h1 h2 => (h.block k (Nat.lt_of_lt_of_le h1 hk.size) (fun e => by
    rcases e with e | e | e | e
    · omega
    · have := hc k e; omega
    · have := hf k e; omega
    · cases e)).trans (hk.block k h1 h2)⟩
theorem fresh_kp {w2 W : World} {c c' : Sl} (h : Fresh W (slV c) (slV c')) (hs : w2.heap.size ≤ W.heap.size) (hc : ∀ x, (slV c).ownBlock = some x → w2.heap.size ≤ x) : ∀ x, (slV c').ownBlock = some x → w2.heap.size ≤ x := fun x hx => by
  rcases h with h | h
  · exact hc x (h.symm.trans hx)
  · exact Nat.le_trans hs (h x hx)
section
variable {X : Value} {W W' : World} {q : Nat} {c f : Sl} {L G : List Cd} {RC RF : List Sl}
theorem not_sq (h : Qat X W q c f sl0 L G RC RF [] false) {b m k : Nat} {E : TypeId} {v : Value} {xs : List Value} (ho : W.ownsRow b E k v m xs) (e1 : E ≠ 94) (e2 : E ≠ 30) : ∀ g, v.ownBlock = some g → ¬ Sq q c f sl0 g := fun g hg e => by
  obtain ⟨_, _, ht⟩ := own_type ho hg
  rcases e with e | e | e | e
  · exact type_ne ht h.blk e1 e
  · obtain ⟨_, _, ht2⟩ := own_type h.cl.2.1 e
    exact type_ne ht ht2 e2 rfl
  · obtain ⟨_, _, ht2⟩ := own_type h.fl.2.1 e
    exact type_ne ht ht2 e2 rfl
  · cases e
theorem rowsT_ch {S : Nat → Prop} {b n c : Nat} {A : Option Addr} {L : List Tn} {R : List Sl} (ho : RowsOwn KT W b A n c L R) (h : Ch S W W') (hv : ∀ g, (Value.slice A n c).ownBlock = some g → ¬ S g) (hi : ∀ i, i < R.length → ∀ g, (rowV R i).ownBlock = some g → ¬ S g) : RowsOwn KT W' b A n c L R :=
  ⟨ho.1, own_ch ho.2.1 h hv, ho.2.2.1, fun i hi' => ⟨(ho.2.2.2.1 i hi').1, own_ch (ho.2.2.2.1 i hi').2 h (hi i hi')⟩, ho.2.2.2.2⟩
/-- Tables stay while a card is entered. -/
theorem tabs_enter (h : Qat X W q c f sl0 L G RC RF [] false) (hc : Ch (Sq q c f sl0) W W') {tb : Sl} {Ts : List Tn} {R : List Sl} (ht : RowsOwn KT W 0 tb.1 tb.2.1 tb.2.2 Ts R) : RowsOwn KT W' 0 tb.1 tb.2.1 tb.2.2 Ts R :=
  rowsT_ch ht hc (not_sq h ht.2.1 (by decide) (by decide)) (fun i hi => not_sq h (ht.2.2.2.1 i hi).2 (by decide) (by decide))
/-- Another list of tables stands behind the registry. -/
theorem qat_tb {X' : Value} {tb : Sl} {Ts : List Tn} {R : List Sl} (h : Qat X W q c f sl0 L G RC RF [] false) (ht : RowsOwn KT W 0 tb.1 tb.2.1 tb.2.2 Ts R) (hc : Ch (fun k => k = q ∨ (slV tb).ownBlock = some k) W W')
    (hb : W'.heap[q]? = some (.cells ⟨[slV c, slV f, slV sl0, .bool false, X']⟩ 94 (0, 0))) : Qat X' W' q c f sl0 L G RC RF [] false := by
  obtain ⟨h1, h2, h3, h4, h5, h6, h7, h8, h9, h10, h11⟩ := h
  have key : ∀ {b m k : Nat} {E : TypeId} {v : Value} {xs : List Value}, W.ownsRow b E k v m xs → E ≠ 94 → E ≠ 96 → ∀ g, v.ownBlock = some g → ¬ (g = q ∨ (slV tb).ownBlock = some g) := by
    intro b m k E v xs ho e1 e2 g hg e
    obtain ⟨_, _, ht'⟩ := own_type ho hg
    rcases e with e | e
    · exact type_ne ht' h1 e1 e
    · obtain ⟨_, _, ht2⟩ := own_type ht.2.1 e
      exact type_ne ht' ht2 e2 rfl
  exact ⟨hb, rows_ch h2 hc (key h2.2.1 (by decide) (by decide)) (fun i hi => key (h2.2.2.2.1 i hi).2 (by decide) (by decide)), rows_ch h3 hc (key h3.2.1 (by decide) (by decide)) (fun i hi => key (h3.2.2.2.1 i hi).2 (by decide) (by decide)), own_nilK _ _ _ _, rfl, h6, h7, by simp, h9, h10, h11⟩
end
theorem heap_ch {S : Nat → Prop} {W W' : World} (h : Ch S W W') {b : Nat} {o : Obj} (hb : W.heap[b]? = some o) (hn : ¬ S b) : W'.heap[b]? = some o := (h.block b (Array.getElem?_eq_some_iff.1 hb).1 hn).trans hb
end Go.Proofs.YtnnaoneegeenkaaDoor.Kq
