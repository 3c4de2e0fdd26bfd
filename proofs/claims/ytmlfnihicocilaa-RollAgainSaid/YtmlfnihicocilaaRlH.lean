/- Cards in a list of the call's own whose texts may lie elsewhere: what a store of a whole card turns; what entering leaves. -/
import Derived.Test.YtmlfnihicocilaaKsG
import Derived.Test.YtmlfnihicocilaaRlR
namespace Go.Proofs.Ytmlfnihicocilaa.Ko
open Go.ChangeShapes Go.WideShapes Go.ChangeAt Go.RowKit Own Ro wordsNames Kc Kr

theorem plain_at (C : Cs) (i : Nat) (h : i < C.length) : (plain C).getD i cd0 = (C.getD i zc).1 := map_fst_at C i h
theorem _root_.Go.Proofs.Ytmlfnihicocilaa.Kr.RegAt.keptR {W W' : World} {g : Nat} {C F : Cs} {N : List Nt} {z : Bool} {row : Option Nat} (h : RegAt W g C F N z) (hg : W.grownBy W' row) (hne : some g ≠ row) (hc : ∀ i, i < C.length → ∀ a, (C.getD i zc).2.1 = some a → some a.block ≠ row) (hf : ∀ i, i < F.length → ∀ a, (F.getD i zc).2.1 = some a → some a.block ≠ row) : RegAt W' g C F N z :=
  ⟨h.blk.kept hg hne, h.c64, h.f64, h.n256,
    fun i hi => ⟨(h.ct i hi).1, (h.ct i hi).2.1.kept hg (hc i hi), (h.ct i hi).2.2.1, (h.ct i hi).2.2.2.1, (h.ct i hi).2.2.2.2⟩,
    fun i hi => ⟨(h.ft i hi).1, (h.ft i hi).2.1.kept hg (hf i hi), (h.ft i hi).2.2.1, (h.ft i hi).2.2.2.1, (h.ft i hi).2.2.2.2⟩, h.cm, h.fm⟩
theorem enter_ok {C F : Cs} {d : Cd} {B : Nat} {C' F' : Cs} {er : Int} (h : EnterRel C F false d B C' F' er) (hd : CardOk d) (hn : ¬ Dup C d.name) (hl : C.length < 64) : er = 0 ∧ F' = F ∧ ∃ r, C' = C ++ [(d, r)] ∧ ∀ a, r.1 = some a → B ≤ a.block := by
  rcases h with ⟨h, _⟩ | ⟨_, h, _⟩ | ⟨_, _, h, _⟩ | ⟨_, _, h, _⟩ | ⟨_, _, _, h, _⟩ | ⟨_, _, _, _, h1, h2, h3⟩
  · cases h
  · exact absurd hd h
  · exact absurd h hn
  · exact absurd h hn
  · omega
  · exact ⟨h1, h2, h3⟩
theorem enter_dup {C F : Cs} {d : Cd} {B : Nat} {C' F' : Cs} {er : Int} (h : EnterRel C F false d B C' F' er) (hd : CardOk d) (hn : Dup C d.name) (hl : F.length < 64) : er = 71 ∧ C' = C ∧ ∃ r, F' = F ++ [(d, r)] ∧ ∀ a, r.1 = some a → B ≤ a.block := by
  rcases h with ⟨h, _⟩ | ⟨_, h, _⟩ | ⟨_, _, _, h, _⟩ | ⟨_, _, _, _, h1, h2, h3⟩ | ⟨_, _, h, _⟩ | ⟨_, _, h, _⟩
  · cases h
  · exact absurd hd h
  · omega
  · exact ⟨h1, h2, h3⟩
  · exact absurd hn h
  · exact absurd hn h
theorem bgb {w a b : World} {g : Nat} (h : Below w.heap.size w a) (hg : a.grownBy b (some g)) (hgw : w.heap.size ≤ g) : Below w.heap.size w b := h.grown hg h.size (fun k hk => by injection hk with hk; omega)
def HTx (W : World) (A : Option Addr) (d : Cd) (r : Sl) : Prop := r.2.1 = d.compat.length ∧ CellsIn W 1 r.1 r.2.1 (strs d.compat) ∧ Neat r ∧ r.2.1 ≤ r.2.2 ∧ ∀ a b, r.1 = some a → A = some b → a.block ≠ b.block
structure Half (W : World) (base : Nat) (A : Option Addr) (n c : Nat) (L : List Cd) (R : List Sl) : Prop where
  hn : n = L.length
  hR : R.length = L.length
  own : W.ownsRow base 34 7 (.slice A n c) n (KC.rows L R)
  tx : ∀ i, i < n → HTx W A (L.getD i cd0) (R.getD i sl0)
theorem Half.of {W : World} {base : Nat} {A : Option Addr} {n c : Nat} {L : List Cd} {R : List Sl} (h : Ro.RowsOwn KC W base A n c L R) : Half W base A n c L R :=
  ⟨h.1, h.2.2.1, h.2.1, fun i hi => by
    have hR := h.2.2.1
    have h1 := h.2.2.2.1 i (by rw [hR, ← h.1]; exact hi)
    have h2 := h.neat i
    have h3 := h.apart i (by rw [hR, ← h.1]; exact hi)
    refine ⟨h1.1, own_cells h1.2, h2.1, h2.2, fun a b ha hb e => ?_⟩
    unfold rowV at h3
    rw [show slV (R.getD i sl0) = .slice (some a) (R.getD i sl0).2.1 (R.getD i sl0).2.2 by unfold slV; rw [ha], hb] at h3
    rcases h3 with h3 | h3
    · cases h3
    · exact h3 (congrArg some e)⟩
section
variable {W W' : World} {base : Nat} {A : Option Addr} {n c : Nat} {L : List Cd} {R : List Sl}
theorem Half.rows (h : Half W base A n c L R) : Ro.RowsIn KC W A n L R := ⟨h.hn, h.hR, own_cells h.own, fun i hi => ⟨(h.tx i hi).1, (h.tx i hi).2.1⟩⟩
theorem Half.below (h : Half W base A n c L R) (hb : Below W.heap.size W W') : Half W' base A n c L R :=
  ⟨h.hn, h.hR, own_belowK h.own hb, fun i hi => ⟨(h.tx i hi).1, (h.tx i hi).2.1.below hb, (h.tx i hi).2.2⟩⟩
theorem Half.neat (h : Half W base A n c L R) (i : Nat) : Neat (R.getD i sl0) ∧ (R.getD i sl0).2.1 ≤ (R.getD i sl0).2.2 := by
  by_cases hi : i < n
  · exact ⟨(h.tx i hi).2.2.1, (h.tx i hi).2.2.2.1⟩
  · rw [List.getD_eq_getElem?_getD, List.getElem?_eq_none (by rw [h.hR, ← h.hn]; omega)]
    exact ⟨fun _ => rfl, Nat.le_refl _⟩
theorem flat_set7 (l : List (Cd × Sl)) (i : Nat) (hi : i < l.length) (d : Cd) (r : Sl) :
    ((((((((l.flatMap KC.row).set (i * 7) (.string (str d.name))).set (i * 7 + 1) (.string (str d.fam))).set (i * 7 + 2) (.int .u8 d.level)).set (i * 7 + 3) (slV r)).set (i * 7 + 4) (.int .i8 d.score)).set (i * 7 + 5) (.string (str d.quirk))).set (i * 7 + 6) (.int .i16 d.entry)) = (l.set i (d, r)).flatMap KC.row := by
  obtain ⟨⟨x, y⟩, hx⟩ : ∃ x, l[i]? = some x := ⟨_, List.getElem?_eq_getElem hi⟩
  have e1 : l = l.take i ++ (x, y) :: l.drop (i + 1) := by
    have := List.take_append_drop i l
    rw [List.drop_eq_getElem_cons hi] at this
    rw [List.getElem?_eq_getElem hi] at hx
    injection hx with hx
    rw [hx] at this
    exact this.symm
  have e2 : l.set i (d, r) = l.take i ++ (d, r) :: l.drop (i + 1) := List.set_eq_take_append_cons_drop.trans (if_pos hi)
  have hl : (l.take i).length = i := by rw [List.length_take]; omega
  rw [e2]
  generalize l.take i = p at e1 hl ⊢
  generalize l.drop (i + 1) = q at e1 ⊢
  rw [e1, List.flatMap_append, List.flatMap_cons, List.flatMap_append, List.flatMap_cons]
  have k1 : KC.row (x, y) = [.string (str x.name), .string (str x.fam), .int .u8 x.level, slV y, .int .i8 x.score, .string (str x.quirk), .int .i16 x.entry] := rfl
  have k2 : KC.row (d, r) = [.string (str d.name), .string (str d.fam), .int .u8 d.level, slV r, .int .i8 d.score, .string (str d.quirk), .int .i16 d.entry] := rfl
  rw [k1, k2]
  exact Kr.set7 (p.flatMap KC.row) (q.flatMap KC.row) _ _ _ _ _ _ _ _ _ _ _ _ _ _ (i * 7) (by rw [flatC_len, hl])
theorem zip_set2 {α β : Type} (l : List α) (m : List β) (i : Nat) (a : α) (b : β) : (l.set i a).zip (m.set i b) = (l.zip m).set i (a, b) := by
  induction l generalizing m i with
  | nil => cases m <;> simp
  | cons x l ih =>
    cases m with
    | nil => simp
    | cons y m =>
      cases i with
      | zero => simp
      | succ i => simp [ih]
theorem rows_set7 (i : Nat) (hi : i < L.length) (hR : R.length = L.length) (d : Cd) (r : Sl) :
    ((((((((KC.rows L R).set (i * 7) (.string (str d.name))).set (i * 7 + 1) (.string (str d.fam))).set (i * 7 + 2) (.int .u8 d.level)).set (i * 7 + 3) (slV r)).set (i * 7 + 4) (.int .i8 d.score)).set (i * 7 + 5) (.string (str d.quirk))).set (i * 7 + 6) (.int .i16 d.entry)) = KC.rows (L.set i d) (R.set i r) := by
  unfold Kd.rows
  rw [zip_set2]
  exact flat_set7 _ i (by rw [List.length_zip]; omega) d r
theorem getD_set2 {α : Type} (l : List α) (i j : Nat) (x z : α) (hi : i < l.length) : (l.set i x).getD j z = if j = i then x else l.getD j z := by
  by_cases h : j = i
  · subst h
    rw [if_pos rfl, List.getD_eq_getElem?_getD, List.getElem?_set_self hi]
    rfl
  · rw [if_neg h, List.getD_eq_getElem?_getD, List.getElem?_set_ne (fun e => h e.symm), List.getD_eq_getElem?_getD]
/-- A whole card is written at place i. -/
theorem Half.at (h : Half W base A n c L R) {i : Nat} (hi : i < n) : ∃ g, A = some ⟨g, 0, none⟩ ∧ base ≤ g ∧ g < W.heap.size ∧ (∀ j, W.frozen? ⟨g, j, none⟩ = false) ∧
    (∀ j u, (KC.row (L.getD i cd0, R.getD i sl0))[j]? = some u → W.cell? ⟨g, i * 7 + j, none⟩ = some u) ∧
    ∀ d r, HTx W A d r → Half (((((((W.setCell ⟨g, i * 7, none⟩ (.string (str d.name))).setCell ⟨g, i * 7 + 1, none⟩ (.string (str d.fam))).setCell ⟨g, i * 7 + 2, none⟩ (.int .u8 d.level)).setCell ⟨g, i * 7 + 3, none⟩ (slV r)).setCell ⟨g, i * 7 + 4, none⟩ (.int .i8 d.score)).setCell ⟨g, i * 7 + 5, none⟩ (.string (str d.quirk))).setCell ⟨g, i * 7 + 6, none⟩ (.int .i16 d.entry)) base A n c (L.set i d) (R.set i r) ∧
      W.grownBy (((((((W.setCell ⟨g, i * 7, none⟩ (.string (str d.name))).setCell ⟨g, i * 7 + 1, none⟩ (.string (str d.fam))).setCell ⟨g, i * 7 + 2, none⟩ (.int .u8 d.level)).setCell ⟨g, i * 7 + 3, none⟩ (slV r)).setCell ⟨g, i * 7 + 4, none⟩ (.int .i8 d.score)).setCell ⟨g, i * 7 + 5, none⟩ (.string (str d.quirk))).setCell ⟨g, i * 7 + 6, none⟩ (.int .i16 d.entry)) (some g) := by
  obtain ⟨g, hA, hb, hg⟩ := own_shapeK h.own (by omega)
  subst hA
  have hiL : i < L.length := by rw [← h.hn]; exact hi
  refine ⟨g, rfl, hb, hg, fun j => h.own.frozenAt j, fun j u hu => ?_, fun d r hd => ?_⟩
  · have hj : j < 7 := Nat.lt_of_lt_of_eq (List.getElem?_eq_some_iff.1 hu).1 (row_len KC (L.getD i cd0, R.getD i sl0))
    have := (rows_at KC L R h.hR.symm i j hiL hj).trans hu
    have hc := h.own.cells (g := g) rfl _ _ this
    rw [Ro.add_plain, Nat.zero_add] at hc
    exact hc
  · have s0 := h.own.stored (i * 7) (.string (str d.name))
    have s1 := s0.1.stored (i * 7 + 1) (.string (str d.fam))
    have s2 := s1.1.stored (i * 7 + 2) (.int .u8 d.level)
    have s3 := s2.1.stored (i * 7 + 3) (slV r)
    have s4 := s3.1.stored (i * 7 + 4) (.int .i8 d.score)
    have s5 := s4.1.stored (i * 7 + 5) (.string (str d.quirk))
    have s6 := s5.1.stored (i * 7 + 6) (.int .i16 d.entry)
    have hg := gb_trans (gb_trans (gb_trans (gb_trans (gb_trans (gb_trans s0.2 s1.2) s2.2) s3.2) s4.2) s5.2) s6.2
    have ho := s6.1
    rw [rows_set7 i hiL h.hR d r] at ho
    have kp : ∀ d r, HTx W (some ⟨g, 0, none⟩) d r → HTx _ (some ⟨g, 0, none⟩) d r := fun d r hd => ⟨hd.1, hd.2.1.kept hg (fun a ha e => hd.2.2.2.2 a ⟨g, 0, none⟩ ha rfl (by injection e)), hd.2.2⟩
    refine ⟨⟨by rw [List.length_set]; exact h.hn, by rw [List.length_set, List.length_set]; exact h.hR, ho, fun m hm => ?_⟩, hg⟩
    rw [getD_set2 L i m d cd0 hiL, getD_set2 R i m r sl0 (by rw [h.hR]; exact hiL)]
    by_cases hmi : m = i
    · rw [if_pos hmi, if_pos hmi]
      exact kp d r hd
    · rw [if_neg hmi, if_neg hmi]
      exact kp _ _ (h.tx m hm)
end
theorem mild_set {M : Nat} {L : List Cd} (h : MildL M L) {i : Nat} (hi : i < L.length) {d : Cd} (hd : MildC M d) : MildL M (L.set i d) := ⟨by rw [List.length_set]; exact h.1, fun k => by
  rw [getD_set2 L i k d cd0 hi]
  by_cases hk : k = i
  · rw [if_pos hk]; exact hd
  · rw [if_neg hk]; exact h.2 k⟩
/-- The texts of a shelf lie in blocks from B on. -/
def Hi (B : Nat) (C : Cs) : Prop := ∀ i, i < C.length → ∀ a, (C.getD i zc).2.1 = some a → B ≤ a.block
theorem Hi.nil (B : Nat) : Hi B [] := fun i hi => absurd hi (by simp)
theorem Hi.snoc {B B' : Nat} {C : Cs} {d : Cd} {r : Sl} (h : Hi B C) (hr : ∀ a, r.1 = some a → B' ≤ a.block) (hb : B ≤ B') : Hi B (C ++ [(d, r)]) := fun i hi a ha => by
  rw [List.length_append, List.length_singleton] at hi
  by_cases h1 : i < C.length
  · rw [getD_sn C _ zc i h1] at ha
    exact h i h1 a ha
  · obtain rfl : i = C.length := by omega
    rw [getD_la] at ha
    exact Nat.le_trans hb (hr a ha)
theorem Hi.enter {B B' : Nat} {C F : Cs} {z : Bool} {d : Cd} {C' F' : Cs} {er : Int} (he : EnterRel C F z d B' C' F' er) (hC : Hi B C) (hF : Hi B F) (hb : B ≤ B') : Hi B C' ∧ Hi B F' := by
  rcases he with ⟨_, _, rfl, rfl⟩ | ⟨_, _, _, rfl, rfl⟩ | ⟨_, _, _, _, _, rfl, rfl⟩ | ⟨_, _, _, _, _, rfl, r, rfl, hr⟩ | ⟨_, _, _, _, _, rfl, rfl⟩ | ⟨_, _, _, _, _, rfl, r, rfl, hr⟩
  · exact ⟨hC, hF⟩
  · exact ⟨hC, hF⟩
  · exact ⟨hC, hF⟩
  · exact ⟨hC, hF.snoc hr hb⟩
  · exact ⟨hC, hF⟩
  · exact ⟨hC.snoc hr hb, hF⟩
theorem plain_len (C : Cs) : (plain C).length = C.length := by simp [plain]
theorem plain_snoc (C : Cs) (d : Cd) (r : Sl) : plain (C ++ [(d, r)]) = plain C ++ [d] := by simp [plain]
theorem dup_iff {C : Cs} {x : List UInt8} : Dup C x ↔ ∃ i, i < (plain C).length ∧ ((plain C).getD i cd0).name = x := by
  rw [plain_len]
  constructor
  · rintro ⟨i, hi, h⟩
    exact ⟨i, hi, by rw [plain_at C i hi]; exact h⟩
  · rintro ⟨i, hi, h⟩
    exact ⟨i, hi, by rw [← plain_at C i hi]; exact h⟩
theorem tmod_lt (x : Int) (N : Nat) (h : 0 < N) : x.tmod (N : Int) < N ∧ -(N : Int) < x.tmod (N : Int) := by
  have h1 := Int.tmod_lt_of_pos x (show (0 : Int) < (N : Int) by omega)
  have h2 := Int.lt_tmod_of_pos x (show (0 : Int) < (N : Int) by omega)
  exact ⟨h1, h2⟩
theorem HTx.below {W W' : World} {A : Option Addr} {d : Cd} {r : Sl} (h : HTx W A d r) (hb : Below W.heap.size W W') : HTx W' A d r := ⟨h.1, h.2.1.below hb, h.2.2⟩
theorem HTx.kept {W W' : World} {g : Nat} {d : Cd} {r : Sl} (h : HTx W (some ⟨g, 0, none⟩) d r) (hg : W.grownBy W' (some g)) : HTx W' (some ⟨g, 0, none⟩) d r :=
  ⟨h.1, h.2.1.kept hg (fun a ha e => h.2.2.2.2 a ⟨g, 0, none⟩ ha rfl (by injection e)), h.2.2⟩
theorem _root_.Go.Proofs.Ytmlfnihicocilaa.Kr.RegAt.keptHi {W W' : World} {g g' B : Nat} {C F : Cs} {N : List Nt} {z : Bool} (h : RegAt W g C F N z) (hg : W.grownBy W' (some g')) (hne : g ≠ g') (hC : Hi B C) (hF : Hi B F) (hB : g' < B) : RegAt W' g C F N z :=
  h.keptR hg (fun e => hne (by injection e)) (fun i hi a ha e => by
    have := hC i hi a ha
    injection e with e
    omega) (fun i hi a ha e => by
    have := hF i hi a ha
    injection e with e
    omega)
end Go.Proofs.Ytmlfnihicocilaa.Ko
