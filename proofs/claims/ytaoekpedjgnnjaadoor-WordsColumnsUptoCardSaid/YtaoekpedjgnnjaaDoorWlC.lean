/- Rows of texts in memory of the call's own; the law's copy of rows. -/
import Derived.Test.YtaoekpedjgnnjaaDoorRfI
import Derived.Laws.OwnMore
namespace Go.Proofs.YtaoekpedjgnnjaaDoor.Wd
open Go.ChangeShapes Go.WideShapes Go.ChangeAt Go.RowKit Own Bld Go.Lib Nums

theorem bt {y W w9 : World} (h : Below y.heap.size y W) (h9 : Below W.heap.size W w9) : Below y.heap.size y w9 := h.trans (h9.mono h.size)
theorem below_first {W w1 : World} {E : TypeId} (hg : (W.alloc (.cells #[] E)).grownBy w1 (Value.slice (some ⟨W.heap.size, 0, none⟩) 0 0).ownBlock) : Below W.heap.size W w1 :=
  ((Below.refl W.heap.size W).alloc (Nat.le_refl _) _).grown hg (by simp) (by intro k hk; injection hk with hk; exact Nat.le_of_eq hk)
theorem own_apart {w : World} {b1 b2 : Nat} {E1 E2 : TypeId} {v1 v2 : Value} {n1 n2 : Nat} {x1 x2 : List Value} (h1 : w.ownsRow b1 E1 1 v1 n1 x1) (h2 : w.ownsRow b2 E2 1 v2 n2 x2) (hne : E1 ≠ E2) : v1.ownBlock = none ∨ v1.ownBlock ≠ v2.ownBlock := by
  rcases h1.2 with ⟨rfl, _⟩ | ⟨g1, c1, cur1, rfl, _, hh1, _⟩
  · exact .inl rfl
  · refine .inr ?_
    rcases h2.2 with ⟨rfl, _⟩ | ⟨g2, c2, cur2, rfl, _, hh2, _⟩
    · simp [Value.ownBlock]
    · intro e
      simp [Value.ownBlock] at e
      subst e
      rw [hh1] at hh2
      injection hh2 with hh2
      injection hh2 with _ ht
      exact hne ht
theorem own_shape {w : World} {base : Nat} {E : TypeId} {A : Option Addr} {n c : Nat} {xs : List Value} (h : w.ownsRow base E 1 (.slice A n c) n xs) (hn : 0 < n) : ∃ g, A = some ⟨g, 0, none⟩ ∧ base ≤ g ∧ g < w.heap.size := by
  rcases h.2 with ⟨hv, hx⟩ | ⟨g, cap, cur, hv, hg, hh, _⟩
  · injection hv with _ h2 _
    omega
  · injection hv with h1 _ _
    exact ⟨g, h1, hg, (Array.getElem?_eq_some_iff.1 hh).1⟩
theorem strs_set (xs : List (List UInt8)) (k : Nat) (y : List UInt8) : (strs xs).set k (.string (str y)) = strs (xs.set k y) := by unfold strs; rw [List.map_set]

def rowV (R : List (Option Addr × Nat × Nat)) (i : Nat) : Value := .slice (R.getD i (none, 0, 0)).1 (R.getD i (none, 0, 0)).2.1 (R.getD i (none, 0, 0)).2.2
/-- Rows in memory of the call's own, each in a block that is none other's. -/
def RowsOwn (w : World) (base : Nat) (R : List (Option Addr × Nat × Nat)) (X : List (List (List UInt8))) : Prop :=
  R.length = X.length ∧ (∀ i, i < R.length → w.ownsRow base 9 1 (rowV R i) (R.getD i (none, 0, 0)).2.1 (strs (X.getD i []))) ∧
    ∀ i j, i < R.length → j < R.length → i ≠ j → (rowV R i).ownBlock = none ∨ (rowV R i).ownBlock ≠ (rowV R j).ownBlock
section
variable {w w' : World} {base : Nat} {R : List (Option Addr × Nat × Nat)} {X : List (List (List UInt8))}
theorem RowsOwn.nil (w : World) (base : Nat) : RowsOwn w base [] [] := ⟨rfl, fun i hi => absurd hi (by simp), fun i j hi => absurd hi (by simp)⟩
theorem RowsOwn.rows (h : RowsOwn w base R X) : RowsIn w R X := ⟨h.1, fun i hi => by
  have h1 := h.2.1 i hi
  have h2 := h1.1
  rw [strs_len, Nat.mul_one] at h2
  exact ⟨h2.symm, own_srcS h1⟩⟩
theorem RowsOwn.below (h : RowsOwn w base R X) (hb : Below w.heap.size w w') : RowsOwn w' base R X := ⟨h.1, fun i hi => own_below (h.2.1 i hi) hb (Nat.le_refl _), h.2.2⟩
theorem RowsOwn.kept {row : Option Nat} (h : RowsOwn w base R X) (hg : w.grownBy w' row) (hne : ∀ i, i < R.length → (rowV R i).ownBlock = none ∨ (rowV R i).ownBlock ≠ row) : RowsOwn w' base R X :=
  ⟨h.1, fun i hi => (h.2.1 i hi).kept hg (hne i hi), h.2.2⟩
theorem getD_snocR (R : List (Option Addr × Nat × Nat)) (r : Option Addr × Nat × Nat) (i : Nat) (hi : i < R.length) : (R ++ [r]).getD i (none, 0, 0) = R.getD i (none, 0, 0) := by
  rw [List.getD_eq_getElem?_getD, List.getD_eq_getElem?_getD, List.getElem?_append_left hi]
theorem getD_lastR (R : List (Option Addr × Nat × Nat)) (r : Option Addr × Nat × Nat) : (R ++ [r]).getD R.length (none, 0, 0) = r := by
  rw [List.getD_eq_getElem?_getD, List.getElem?_append_right (Nat.le_refl _), Nat.sub_self]
  rfl
theorem RowsOwn.snoc (h : RowsOwn w base R X) {b' : Nat} {A : Option Addr} {n c : Nat} {x : List (List UInt8)} (ho : w.ownsRow b' 9 1 (.slice A n c) n (strs x)) (hb : base ≤ b') (hlt : ∀ i, i < R.length → ∀ g, (rowV R i).ownBlock = some g → g < b') : RowsOwn w base (R ++ [(A, n, c)]) (X ++ [x]) := by
  have e1 : ∀ i, i < R.length → rowV (R ++ [(A, n, c)]) i = rowV R i := fun i hi => by unfold rowV; rw [getD_snocR _ _ _ hi]
  have e2 : rowV (R ++ [(A, n, c)]) R.length = .slice A n c := by unfold rowV; rw [getD_lastR]
  refine ⟨by simp [h.1], fun i hi => ?_, fun i j hi hj hij => ?_⟩
  · by_cases hil : i < R.length
    · rw [e1 i hil, getD_snocR _ _ _ hil, List.getD_eq_getElem?_getD (l := X ++ [x]), List.getElem?_append_left (by rw [← h.1]; exact hil), ← List.getD_eq_getElem?_getD]
      exact h.2.1 i hil
    · obtain rfl : i = R.length := by simp at hi; omega
      rw [e2, getD_lastR, List.getD_eq_getElem?_getD, h.1, List.getElem?_append_right (Nat.le_refl _), Nat.sub_self]
      exact own_mono ho hb
  · by_cases hil : i < R.length
    · rw [e1 i hil]
      by_cases hjl : j < R.length
      · rw [e1 j hjl]
        exact h.2.2 i j hil hjl hij
      · obtain rfl : j = R.length := by simp at hj; omega
        rw [e2]
        cases hv : (rowV R i).ownBlock with
        | none => exact .inl rfl
        | some g =>
          refine .inr fun e => ?_
          have h1 := hlt i hil g hv
          have h2 := (ho.lt g e.symm).1
          omega
    · obtain rfl : i = R.length := by simp at hi; omega
      have hjl : j < R.length := by simp at hj; omega
      rw [e2, e1 j hjl]
      cases hv : (Value.slice A n c).ownBlock with
      | none => exact .inl rfl
      | some g =>
        refine .inr fun e => ?_
        have h1 := hlt j hjl g e.symm
        have h2 := (ho.lt g hv).1
        omega
/-- A text is written into one of the rows. -/
theorem RowsOwn.store (h : RowsOwn w base R X) {i k : Nat} (hi : i < R.length) (hk : k < (R.getD i (none, 0, 0)).2.1) :
    ∃ g, (R.getD i (none, 0, 0)).1 = some ⟨g, 0, none⟩ ∧ base ≤ g ∧ g < w.heap.size ∧ w.cell? ⟨g, k, none⟩ = some (.string (str ((X.getD i []).getD k []))) ∧ w.frozen? ⟨g, k, none⟩ = false ∧
      ∀ y, RowsOwn (w.setCell ⟨g, k, none⟩ (.string (str y))) base R (X.set i ((X.getD i []).set k y)) ∧ w.grownBy (w.setCell ⟨g, k, none⟩ (.string (str y))) (some g) := by
  have ho := h.2.1 i hi
  have hr := h.2.2 i
  unfold rowV at ho
  have hl := ho.1
  rw [strs_len, Nat.mul_one] at hl
  obtain ⟨g, hA, hb, hg⟩ := own_shape ho (by omega)
  rw [hA] at ho
  refine ⟨g, hA, hb, hg, by rw [ho.cellAt k (by omega), strs_at _ k (by omega)], ho.frozenAt k, fun y => ⟨⟨by rw [List.length_set]; exact h.1, fun j hj => ?_, h.2.2⟩, (ho.stored k _).2⟩⟩
  by_cases hji : j = i
  · subst hji
    have e : rowV R j = .slice (some ⟨g, 0, none⟩) (R.getD j (none, 0, 0)).2.1 (R.getD j (none, 0, 0)).2.2 := by unfold rowV; rw [hA]
    rw [e, List.getD_eq_getElem?_getD (l := X.set j _), List.getElem?_set_self (by rw [← h.1]; exact hj)]
    show (w.setCell ⟨g, k, none⟩ (.string (str y))).ownsRow base 9 1 _ _ (strs ((X.getD j []).set k y))
    rw [← strs_set]
    exact (ho.stored k _).1
  · rw [List.getD_eq_getElem?_getD (l := X.set i _), List.getElem?_set_ne (by omega), ← List.getD_eq_getElem?_getD]
    refine (h.2.1 j hj).kept (ho.stored k _).2 ?_
    have h1 := h.2.2 j i hj hi hji
    have e : (rowV R i).ownBlock = some g := by unfold rowV; rw [hA]; rfl
    rw [e] at h1
    exact h1
end
theorem info_slc : (Tryd.prog.info? 25).map (fun i => (i.zero, i.size, i.bytes)) = some (some (.slice none 0 0), 1, 24) := by kernel_rfl
theorem slcs_snoc (R : List (Option Addr × Nat × Nat)) (A : Option Addr) (n c : Nat) : slcs R ++ [.slice A n c] = slcs (R ++ [(A, n, c)]) := by simp [slcs]
theorem takeX (X : List (List (List UInt8))) (k : Nat) (h : k < X.length) : X.take (k + 1) = X.take k ++ [X.getD k []] := by
  rw [List.take_succ_eq_append_getElem h, List.getD_eq_getElem?_getD, List.getElem?_eq_getElem h]
  rfl
/-- What the law's copy of rows hands out. -/
def MadeC (X : List (List (List UInt8))) (w : World) (e : Ending) (w' : World) : Prop :=
  ∃ A c n R, e = .returned (.slice A n c) ∧ n = X.length ∧ w'.ownsRow w.heap.size 25 1 (.slice A n c) n (slcs R) ∧ RowsOwn w' w.heap.size R X ∧ Below w.heap.size w w'

set_option maxRecDepth 100000 in
set_option maxHeartbeats 8000000 in
theorem cells_any (A : Option Addr) (c n : Nat) (R0 : List (Option Addr × Nat × Nat)) (X : List (List (List UInt8))) (w : World) (hn : n = R0.length) (hf : Fine X) (hr : RowsIn w R0 X) (hA : Src w A n c (slcs R0)) :
    Calls Tryd.prog 5 #[.slice A n c] w (MadeC X w) := by
  have HN := Lib.hid hn
  have HNX : Hid (n = X.length) := Lib.hid (by rw [hn]; exact hr.1)
  have HF := Lib.hid hf
  have HR := Lib.hid hr
  have GA := Lib.hid hA
  have hnb : n ≤ 16777216 := by have := hf.1; have := hr.1; omega
  clear hn hf hr hA
  go_enter Tryd.func5, Tryd.ntmps5
  go_wp2_with fail
  go_loopw [3, 4] (fun v3 v4 wr => ∃ (k : Nat) (R : List (Option Addr × Nat × Nat)), k ≤ n ∧ v4 = .int .i64 k ∧ wr.ownsRow w.heap.size 25 1 v3 k (slcs R) ∧ RowsOwn wr w.heap.size R (X.take k) ∧ Below w.heap.size w wr) (fun _ v4 _ => n - (RowKit.intOf v4).toNat)
  case atStart => exact ⟨0, [], Nat.zero_le _, rfl, own_nil w _ _, RowsOwn.nil w _, Below.refl _ _⟩
  case round =>
    obtain ⟨k, R, hk, rfl, hown, hrows, hbw⟩ := hrel
    have HO := Lib.hid hown
    have HRO := Lib.hid hrows
    have HB := Lib.hid hbw
    have hsz := hbw.size
    clear hown hrows hbw
    by_cases hlt : k < n
    · obtain ⟨b, o, rfl, hbs, hc1⟩ := src_get' GA.out (by omega)
      have e0 := hc1 k _ (slcs_at R0 k (by rw [← HN.out]; exact hlt))
      obtain ⟨hx1, hx2⟩ := HR.out.2 k (by rw [← HN.out]; exact hlt)
      have hxb := (HF.out.2 k).1
      have HTX := Lib.hid (takeX X k (by rw [← HNX.out]; exact hlt))
      generalize X.getD k [] = x at hx1 hx2 hxb HTX
      generalize R0.getD k (none, 0, 0) = r at e0 hx1 hx2
      obtain ⟨ra, rn, rc⟩ := r
      replace hx1 : rn = x.length := hx1
      replace hx2 : Src w ra rn rc (strs x) := hx2
      have HX1 := Lib.hid hx1
      have HX2 := Lib.hid (hx2.below HB.out)
      have hrn : rn ≤ 16777216 := by omega
      have e1 : wr.cell? ⟨b, o + k, none⟩ = some (.slice ra rn rc) := by rw [HB.out.cell (p := ⟨b, o + k, none⟩) hbs]; exact e0
      have hbr : b < wr.heap.size := by omega
      have e2 : (wr.alloc (.cells #[] 9)).cell? ⟨b, o + k, none⟩ = some (.slice ra rn rc) := by rw [(grows' wr (.cells #[] 9)).cell (p := ⟨b, o + k, none⟩) hbr]; exact e1
      clear hx1 hx2 hc1 e0 hxb
      go_wp2_with (first
        | (at_builtin; (refine wpList_append_src (o := ⟨some 17, _, _, _, _, _⟩) rfl (.tmp 12) (.tmp 16) 25 rfl wr.heap.size 9 (.string ByteArray.empty) 16 Tryd.underlying25 info_str rfl _ 0 [] rfl (own_empty wr 9) ra rn rc (strs x) rfl (HX2.out.below (grows' wr _)) (strs_one' x) (by omega) (by omega) (by simp) ?_); intro v1 w1 ho1 hg1; simp only [Nat.zero_add, List.nil_append] at ho1; obtain ⟨A1, c1, rfl, _⟩ := own_src ho1; have hb1 := below_first hg1; have O1 := Lib.hid ho1; have OL := Lib.hid (own_below HO.out hb1 (Nat.le_refl _)); have RL := Lib.hid (HRO.out.below hb1); have B1 := Lib.hid (bt HB.out hb1); have hsz1 := B1.out.size; clear ho1 hg1 hb1)
        | (at_builtin; go_must (refine wpList_append_src (o := ⟨some 19, _, _, _, _, _⟩) rfl (.tmp 11) (.tmp 18) 22 rfl w.heap.size 25 (.slice none 0 0) 24 Tryd.underlying22 info_slc rfl _ k (slcs R) rfl (OL.out.alloc _) _ 1 1 [.slice A1 rn c1] rfl (src_new _ _ _) (by intro u hu; simp at hu; subst hu; rfl) (by omega) (by omega) (by simp; omega) ?_); intro v3 w3 ho3 hg3; rw [slcs_snoc] at ho3))
      have O3 := Lib.hid ho3
      have B3 := Lib.hid (below_grown2 B1.out hsz1 OL.out (Nat.le_refl _) hg3)
      have R3 : Hid (RowsOwn w3 w.heap.size (R ++ [(A1, rn, c1)]) (X.take (k + 1))) := Lib.hid (by
        rw [HTX.out]
        have r1 := RL.out.below (grows' w1 (.cells #[.slice A1 rn c1] 25))
        have o1 := OL.out.alloc (.cells #[.slice A1 rn c1] 25)
        have n1 := O1.out.alloc (.cells #[.slice A1 rn c1] 25)
        refine RowsOwn.snoc (b' := wr.heap.size) (r1.kept hg3 fun i hi => own_apart (r1.2.1 i hi) o1 (by decide)) (n1.kept hg3 (own_apart n1 o1 (by decide))) hsz ?_
        intro i hi g hg
        exact ((HRO.out.2.1 i hi).lt g hg).2)
      clear ho3 hg3
      go_wp2_with fail
      go_roundw
      case rel => exact ⟨k + 1, R ++ [(A1, rn, c1)], by omega, by go_num, O3.out, R3.out, B3.out⟩
      case measure => simp [RowKit.intOf]; omega
    · obtain rfl : n = k := by omega
      have HTK : Hid (X.take n = X) := Lib.hid (by rw [HNX.out, List.take_length])
      rw [HTK.out] at HRO
      obtain ⟨A1, c1, rfl, _⟩ := own_src HO.out
      go_wp2_with fail
      go_ret
      exact ⟨A1, c1, n, R, rfl, HNX.out, HO.out, HRO.out, HB.out⟩
end Go.Proofs.YtaoekpedjgnnjaaDoor.Wd
