/- The walk of the law on columns: first half. -/
import Derived.Test.YtaoekpedjgnnjaaDoorWlC
import Derived.Test.YtaoekpedjgnnjaaDoorWlO
import Derived.Deep.RegionHeld3
import Derived.Deep.QuietTactic
import Derived.BigQuiet
import Derived.RegionTactic
import Derived.StillTailTactics
namespace Go.Proofs.YtaoekpedjgnnjaaDoor.Wd
open Go.ChangeShapes Go.WideShapes Go.ChangeAt Go.RowKit Own Bld Go.Lib Nums

def Fine1 (X : List (List (List UInt8))) : Prop := X.length ≤ 1048576 ∧ ∀ k, (X.getD k []).length ≤ 1048576 ∧ ∀ j, ((X.getD k []).getD j []).length ≤ 1048576
theorem Fine1.fine {X : List (List (List UInt8))} (h : Fine1 X) : Fine X := ⟨Nat.le_trans h.1 (by omega), fun k => ⟨Nat.le_trans (h.2 k).1 (by omega), fun j => Nat.le_trans ((h.2 k).2 j) (by omega)⟩⟩
def sE : List UInt8 := [195, 169]
/-- The rows with something behind each text. -/
def rowE (x : List (List UInt8)) : List (List UInt8) := x.map fun t => t ++ sE
def addE (X : List (List (List UInt8))) : List (List (List UInt8)) := X.map rowE
theorem addE_at (X : List (List (List UInt8))) (k : Nat) : (addE X).getD k [] = rowE (X.getD k []) := by
  unfold addE
  rw [List.getD_eq_getElem?_getD, List.getD_eq_getElem?_getD, List.getElem?_map]
  cases X[k]? <;> rfl
theorem rowE_at (x : List (List UInt8)) (k : Nat) : ((rowE x).getD k []).length ≤ (x.getD k []).length + 2 := by
  unfold rowE
  rw [List.getD_eq_getElem?_getD, List.getD_eq_getElem?_getD, List.getElem?_map]
  cases x[k]? with
  | none => simp
  | some t => simp [sE]
theorem addE_fine {X : List (List (List UInt8))} (h : Fine1 X) : Fine (addE X) := by
  refine ⟨?_, fun k => ⟨?_, fun j => ?_⟩⟩
  · have := h.1
    show (X.map rowE).length ≤ _
    rw [List.length_map]
    omega
  · rw [addE_at]
    have := (h.2 k).1
    show ((X.getD k []).map _).length ≤ _
    rw [List.length_map]
    omega
  · rw [addE_at]
    have h1 := rowE_at (X.getD k []) j
    have h2 := (h.2 k).2 j
    omega
def headE (x : List (List UInt8)) (k : Nat) : List (List UInt8) := (x.take k).map (fun t => t ++ sE) ++ x.drop k
theorem headE_zero (x : List (List UInt8)) : headE x 0 = x := by simp [headE]
theorem headE_all (x : List (List UInt8)) : headE x x.length = rowE x := by simp [headE, rowE]
theorem headE_get (x : List (List UInt8)) (k : Nat) (h : k < x.length) : (headE x k).getD k [] = x.getD k [] := by
  unfold headE
  have e : ((x.take k).map fun t => t ++ sE).length = k := by simp; omega
  rw [List.getD_eq_getElem?_getD, List.getD_eq_getElem?_getD, List.getElem?_append_right (by omega), e, Nat.sub_self, List.getElem?_drop, Nat.add_zero]
theorem headE_set (x : List (List UInt8)) (k : Nat) (h : k < x.length) : (headE x k).set k (x.getD k [] ++ sE) = headE x (k + 1) := by
  unfold headE
  have e : ((x.take k).map fun t => t ++ sE).length = k := by simp; omega
  rw [List.set_append_right _ _ (by omega), e, Nat.sub_self, List.drop_eq_getElem_cons h, List.set_cons_zero, List.take_succ_eq_append_getElem h, List.map_append, List.append_assoc, List.getD_eq_getElem?_getD, List.getElem?_eq_getElem h]
  rfl
def partE (X : List (List (List UInt8))) (i : Nat) : List (List (List UInt8)) := (X.take i).map rowE ++ X.drop i
theorem partE_zero (X : List (List (List UInt8))) : partE X 0 = X := by simp [partE]
theorem partE_all (X : List (List (List UInt8))) : partE X X.length = addE X := by simp [partE, addE]
theorem partE_len (X : List (List (List UInt8))) (i : Nat) : (partE X i).length = X.length := by simp [partE]; omega
theorem partE_get (X : List (List (List UInt8))) (i : Nat) (h : i < X.length) : (partE X i).getD i [] = X.getD i [] := by
  unfold partE
  have e : ((X.take i).map rowE).length = i := by simp; omega
  rw [List.getD_eq_getElem?_getD, List.getD_eq_getElem?_getD, List.getElem?_append_right (by omega), e, Nat.sub_self, List.getElem?_drop, Nat.add_zero]
theorem partE_set (X : List (List (List UInt8))) (i : Nat) (h : i < X.length) : (partE X i).set i (rowE (X.getD i [])) = partE X (i + 1) := by
  unfold partE
  have e : ((X.take i).map rowE).length = i := by simp; omega
  rw [List.set_append_right _ _ (by omega), e, Nat.sub_self, List.drop_eq_getElem_cons h, List.set_cons_zero, List.take_succ_eq_append_getElem h, List.map_append, List.append_assoc, List.getD_eq_getElem?_getD, List.getElem?_eq_getElem h]
  rfl
theorem partE_id (X : List (List (List UInt8))) (i : Nat) (h : i < X.length) : (partE X i).set i (X.getD i []) = partE X i := by
  have e := partE_get X i h
  have hl := partE_len X i
  rw [← e, List.getD_eq_getElem?_getD, List.getElem?_eq_getElem (by omega)]
  exact List.set_getElem_self (by omega)
theorem set_at (Y : List (List (List UInt8))) (i : Nat) (y : List (List UInt8)) (h : i < Y.length) : (Y.set i y).getD i [] = y := by
  rw [List.getD_eq_getElem?_getD, List.getElem?_set_self h]
  rfl
def turnW (ws : List Int) : List Int := ws.map fun z => z.tmod 7 + 1
theorem tmod7 (z : Int) : -6 ≤ z.tmod 7 ∧ z.tmod 7 ≤ 6 := by
  by_cases h : 0 ≤ z
  · rw [Int.tmod_eq_emod_of_nonneg h]
    omega
  · have e : z.tmod 7 = -((-z).tmod 7) := by rw [Int.neg_tmod, Int.neg_neg]
    rw [e, Int.tmod_eq_emod_of_nonneg (by omega)]
    omega
theorem turn_at (ws : List Int) (k : Nat) (h : k < ws.length) : (turnW ws).getD k 0 = (ws.getD k 0).tmod 7 + 1 := by
  unfold turnW
  rw [List.getD_eq_getElem?_getD, List.getD_eq_getElem?_getD, List.getElem?_map, List.getElem?_eq_getElem h]
  rfl
theorem turn_len (ws : List Int) : (turnW ws).length = ws.length := List.length_map ..
theorem turn_in (ws : List Int) : ∀ k, k < (turnW ws).length → -9223372036854775808 ≤ (turnW ws).getD k 0 ∧ (turnW ws).getD k 0 ≤ 9223372036854775807 := fun k hk => by
  rw [turn_len] at hk
  rw [turn_at ws k hk]
  have := tmod7 (ws.getD k 0)
  omega
def partW (ws : List Int) (j : Nat) : List Int := (turnW ws).take j ++ ws.drop j
theorem partW_zero (ws : List Int) : partW ws 0 = ws := by simp [partW]
theorem partW_all (ws : List Int) : partW ws ws.length = turnW ws := by
  have h : (turnW ws).take ws.length = turnW ws := List.take_of_length_le (by rw [turn_len]; exact Nat.le_refl _)
  simp [partW, h]
theorem partW_len (ws : List Int) (j : Nat) : (partW ws j).length = ws.length := by
  unfold partW
  rw [List.length_append, List.length_take, turn_len, List.length_drop]
  omega
theorem partW_get (ws : List Int) (j : Nat) (h : j < ws.length) : (partW ws j).getD j 0 = ws.getD j 0 := by
  unfold partW
  have e : ((turnW ws).take j).length = j := by rw [List.length_take, turn_len]; omega
  rw [List.getD_eq_getElem?_getD, List.getD_eq_getElem?_getD, List.getElem?_append_right (by omega), e, Nat.sub_self, List.getElem?_drop, Nat.add_zero]
theorem partW_set (ws : List Int) (j : Nat) (h : j < ws.length) : (partW ws j).set j ((ws.getD j 0).tmod 7 + 1) = partW ws (j + 1) := by
  unfold partW
  have e : ((turnW ws).take j).length = j := by rw [List.length_take, turn_len]; omega
  have h2 : j < (turnW ws).length := by rw [turn_len]; exact h
  rw [List.set_append_right _ _ (by omega), e, Nat.sub_self, List.drop_eq_getElem_cons h, List.set_cons_zero, List.take_succ_eq_append_getElem h2, List.append_assoc, ← turn_at ws j h, List.getD_eq_getElem?_getD, List.getElem?_eq_getElem h2]
  rfl
theorem ints_set (ws : List Int) (j : Nat) (z : Int) : (ints ws).set j (.int .i64 z) = ints (ws.set j z) := by unfold ints; rw [List.map_set]
theorem info_int : (Tryd.prog.info? 3).map (fun i => (i.zero, i.size, i.bytes)) = some (some (.int .i64 0), 1, 8) := by kernel_rfl
theorem ints_one (ws : List Int) : ∀ u ∈ ints ws, u.oneCell' = true := by
  intro u hu
  obtain ⟨x, _, rfl⟩ := List.mem_map.1 hu
  rfl
theorem own_far {w : World} {base : Nat} {E : TypeId} {v : Value} {n g : Nat} {xs : List Value} (h : w.ownsRow base E 1 v n xs) (hg : g < base) : v.ownBlock = none ∨ v.ownBlock ≠ some g := by
  rcases h.2 with ⟨rfl, _⟩ | ⟨g', cap, cur, rfl, hb, _⟩
  · exact .inl rfl
  · refine .inr fun e => ?_
    injection e with e
    have e2 : g' = g := e
    omega
theorem RowsOwn.other {w : World} {base b1 : Nat} {R : List (Option Addr × Nat × Nat)} {X : List (List (List UInt8))} (h : RowsOwn w base R X) {i g : Nat} (hi : i < R.length) (hA : (R.getD i (none, 0, 0)).1 = some ⟨g, 0, none⟩) {E1 : TypeId} {v1 : Value} {n1 : Nat} {x1 : List Value} (h1 : w.ownsRow b1 E1 1 v1 n1 x1) (hne : E1 ≠ 9) : v1.ownBlock = none ∨ v1.ownBlock ≠ some g := by
  have h2 := own_apart h1 (h.2.1 i hi) hne
  unfold rowV at h2
  rw [hA] at h2
  exact h2
theorem tilde_one : ∀ u ∈ [Value.string ⟨#[126]⟩], u.oneCell' = true := by
  intro u hu
  simp at hu
  subst hu
  rfl

theorem new_cells (w : World) (v : Value) (t : TypeId) : ∀ j u, [v][j]? = some u → (w.alloc (.cells #[v] t)).cell? ((⟨w.heap.size, 0, none⟩ : Addr).add j) = some u := by
  rcases src_new w v t with ⟨h0, _⟩ | ⟨ad, h0, _, h1⟩
  · cases h0
  · injection h0 with h0
    subst h0
    exact h1

set_option maxRecDepth 100000 in
set_option maxHeartbeats 16000000 in
theorem walkColumns (A B : Option Addr) (c d n m : Nat) (R0 : List (Option Addr × Nat × Nat)) (X : List (List (List UInt8))) (ws : List Int) (w : World) (hn : n = R0.length) (hm : m = ws.length) (hmx : m ≤ 1048576) (hf : Fine1 X)
    (hw : ∀ k, k < ws.length → -9223372036854775808 ≤ ws.getD k 0 ∧ ws.getD k 0 ≤ 9223372036854775807) (hr : RowsIn w R0 X) (hA : Src w A n c (slcs R0)) (hB : Src w B m d (ints ws)) (hT : U8 w) :
    Calls Tryd.prog 3 #[.slice A n c, .slice B m d] w fun e w' => e = .returned (.bool true) ∧ Below w.heap.size w w' := by
  obtain ⟨T, er, hTl, k1, k2⟩ := cols_both X ws hf.fine (by omega) hw
  obtain ⟨T2, er2, hTl2, k3, k4⟩ := cols_both (addE X) (turnW ws) (addE_fine hf) (by rw [turn_len]; omega) (turn_in ws)
  have K1 := Lib.hid k1
  have K2 := Lib.hid k2
  have K3 := Lib.hid k3
  have K4 := Lib.hid k4
  have HN := Lib.hid hn
  have HM := Lib.hid hm
  have HF := Lib.hid hf
  have HW := Lib.hid hw
  have HR := Lib.hid hr
  have GA := Lib.hid hA
  have GB := Lib.hid hB
  have HT := Lib.hid hT
  have HNX : Hid (n = X.length) := Lib.hid (by rw [hn]; exact hr.1)
  have hnb : n ≤ 1048576 := by rw [HNX.out]; exact hf.1
  clear k1 k2 k3 k4 hn hm hf hw hr hA hB hT
  go_enter Tryd.func3, Tryd.ntmps3
  go_wp2_with fail
  refine (cells_any A c n R0 X _ HN.out HF.out.fine HR.out GA.out).mono ?_
  rintro e w1 ⟨A1, c1, n1, R, rfl, hn1, ho1, hro1, b1⟩
  obtain rfl : n1 = n := hn1.trans HNX.out.symm
  have O1 := Lib.hid ho1
  have RO1 := Lib.hid hro1
  have B1 := Lib.hid b1
  have hw1 := b1.size
  clear hn1 ho1 hro1 b1
  go_wp2_with (at_builtin; go_must (refine wpList_append_src rfl (.tmp 21) (.tmp 22) 23 rfl w1.heap.size 3 (.int .i64 0) 8 Tryd.underlying23 info_int rfl _ 0 [] rfl (own_empty w1 3) B m d (ints ws) rfl ((GB.out.below B1.out).below (grows' w1 _)) (ints_one ws) (by omega) (by omega) (by simp) ?_); intro v2 w2 ho2 hg2)
  have D2 := Lib.hid (below_first hg2)
  simp only [Nat.zero_add, List.nil_append] at ho2
  obtain ⟨A2, c2, rfl, _⟩ := own_src ho2
  have OW2 := Lib.hid ho2
  have O2 := Lib.hid (own_below O1.out D2.out (Nat.le_refl _))
  have RO2 := Lib.hid (RO1.out.below D2.out)
  have B2 := Lib.hid (bt B1.out D2.out)
  clear ho2 hg2 D2 O1 RO1 B1
  refine (K1.out A B c d n1 m R0 _ HN.out HM.out (HR.out.below B2.out) (GA.out.below B2.out) (GB.out.below B2.out) trivial).mono ?_
  rintro e w3 ⟨A3, k, c3, hk, rfl, ho3, b3⟩
  have HK := Lib.hid hk
  have hkb : k ≤ 16777216 := by omega
  have S3 := Lib.hid (own_srcS ho3)
  have OW3 := Lib.hid (own_below OW2.out b3 (Nat.le_refl _))
  have O3 := Lib.hid (own_below O2.out b3 (Nat.le_refl _))
  have RO3 := Lib.hid (RO2.out.below b3)
  have B3 := Lib.hid (bt B2.out b3)
  clear hk ho3 b3 OW2 O2 RO2 B2
  have HNR : Hid (n1 = R.length) := Lib.hid (by have h := O3.out.1; rw [show (slcs R).length = R.length from List.length_map .., Nat.mul_one] at h; exact h.symm)
  go_wp2_with fail
  refine (K2.out A1 A2 c1 c2 n1 m R _ HNR.out HM.out RO3.out.rows (own_srcS O3.out) (own_srcS OW3.out) (HT.out.below B3.out)).mono ?_
  rintro e w4 ⟨A4, k4, c4, hk4, rfl, ho4, b4⟩
  obtain rfl : k4 = k := hk4.trans HK.out.symm
  have P4 := Lib.hid ho4
  have D4 := Lib.hid b4
  clear hk4 ho4 b4
  go_wp2_with fail
  refine (K2.out A1 A2 c1 c2 n1 m R _ HNR.out HM.out (RO3.out.below D4.out).rows (own_srcS (own_below O3.out D4.out (Nat.le_refl _))) (own_srcS (own_below OW3.out D4.out (Nat.le_refl _))) (HT.out.below (bt B3.out D4.out))).mono ?_
  rintro e w5 ⟨A5, k5, c5, hk5, rfl, ho5, b5⟩
  obtain rfl : k5 = k4 := hk5.trans HK.out.symm
  have P5 := Lib.hid ho5
  have Q5 := Lib.hid (own_below P4.out b5 (Nat.le_refl _))
  have D5 := Lib.hid (bt D4.out b5)
  clear hk5 ho5 b5
  go_wp2_with fail
  refine (sameTexts_any A4 A3 c4 c3 k5 T _ HK.out (by omega) (own_srcS Q5.out) (S3.out.below D5.out)).mono ?_
  rintro e w6 ⟨rfl, q, rfl⟩
  have P6 : Hid ((w5.drewN q).ownsRow w4.heap.size 9 1 (.slice A5 k5 c5) k5 (strs T)) := Lib.hid P5.out
  have Q6 : Hid ((w5.drewN q).ownsRow w3.heap.size 9 1 (.slice A4 k5 c4) k5 (strs T)) := Lib.hid Q5.out
  have D6 := Lib.hid (below_dr D5.out q)
  clear P5 Q5 D5
  generalize w5.drewN q = w6 at P6 Q6 D6 ⊢
  go_wp2_with fail
  refine (sameTexts_any A5 A3 c5 c3 k5 T _ HK.out (by omega) (own_srcS P6.out) (S3.out.below D6.out)).mono ?_
  rintro e w7 ⟨rfl, q, rfl⟩
  have P7 : Hid ((w6.drewN q).ownsRow w4.heap.size 9 1 (.slice A5 k5 c5) k5 (strs T)) := Lib.hid P6.out
  have Q7 : Hid ((w6.drewN q).ownsRow w3.heap.size 9 1 (.slice A4 k5 c4) k5 (strs T)) := Lib.hid Q6.out
  have D7 := Lib.hid (below_dr D6.out q)
  clear P6 Q6 D6
  generalize w6.drewN q = w7 at P7 Q7 D7 ⊢
  go_wp2_with fail
  go_loopw [13] (fun i wr => ∃ (j : Nat) (us : List Value), j ≤ k5 ∧ i = .int .i64 j ∧ wr.ownsRow w3.heap.size 9 1 (.slice A4 k5 c4) k5 us ∧ wr.ownsRow w4.heap.size 9 1 (.slice A5 k5 c5) k5 (strs T) ∧ Below w3.heap.size w3 wr) (fun i _ => k5 - (RowKit.intOf i).toNat)
  case atStart => exact ⟨0, strs T, by omega, rfl, Q7.out, P7.out, D7.out⟩
  case round =>
    clear P7 Q7 D7
    obtain ⟨j, us, hj, rfl, hoa, hob, hbw⟩ := hrel
    have OA := Lib.hid hoa
    have OB := Lib.hid hob
    have HB := Lib.hid hbw
    clear hoa hob hbw
    by_cases hlt : j < k5
    · obtain ⟨g, rfl, hg, hgs⟩ := own_shape P4.out (by omega)
      obtain ⟨u, hu⟩ : ∃ u, us[j]? = some u := ⟨us[j]'(by have h := OA.out.1; omega), List.getElem?_eq_getElem _⟩
      have e1 : wr.cell? ⟨g, j, none⟩ = some u := by rw [OA.out.cellAt j (by omega), hu]
      have f1 := OA.out.frozenAt j
      clear hu
      go_wp2_with fail
      go_roundw
      case rel => exact ⟨j + 1, _, by omega, by go_num, (OA.out.stored j _).1, OB.out.kept (OA.out.stored j _).2 (own_far OB.out hgs), HB.out.setCell (p := ⟨g, j, none⟩) hg _⟩
      case measure => simp [RowKit.intOf]; omega
    · obtain rfl : k5 = j := by omega
      have HAP : Hid ((Value.slice A5 k5 c5).ownBlock = none ∨ (Value.slice A5 k5 c5).ownBlock ≠ (Value.slice A4 k5 c4).ownBlock) := Lib.hid (by
        cases hv : (Value.slice A4 k5 c4).ownBlock with
        | none => cases (Value.slice A5 k5 c5).ownBlock <;> simp
        | some g => exact own_far OB.out ((P4.out.lt g hv).2))
      go_wp2_with fail
      go_loopw [9, 14] (fun v9 v14 wr => ∃ (j N : Nat) (us : List Value), j ≤ 20 ∧ v14 = .int .i64 j ∧ N = k5 + j ∧ (∃ A' c', v9 = .slice A' N c') ∧ wr.ownsRow w3.heap.size 9 1 v9 N us ∧ ((Value.slice A5 k5 c5).ownBlock = none ∨ (Value.slice A5 k5 c5).ownBlock ≠ v9.ownBlock) ∧ wr.ownsRow w4.heap.size 9 1 (.slice A5 k5 c5) k5 (strs T) ∧ Below w3.heap.size w3 wr) (fun _ v14 _ => 20 - (RowKit.intOf v14).toNat)
      case atStart => exact ⟨0, k5, us, by omega, rfl, rfl, ⟨_, _, rfl⟩, OA.out, HAP.out, OB.out, HB.out⟩
      case round =>
        clear OA OB HB HAP
        obtain ⟨j, N, us, hj, rfl, hN, ⟨A', c', rfl⟩, hoa, hap, hob, hbw⟩ := hrel
        have OA := Lib.hid hoa
        have HAP := Lib.hid hap
        have OB := Lib.hid hob
        have HB := Lib.hid hbw
        have hsz := hbw.size
        clear hoa hap hob hbw
        by_cases hlt : j < 20
        · go_wp2_with (at_builtin; go_must (refine wpList_append_apart rfl (.tmp 75) (.tmp 76) 25 rfl w3.heap.size 9 (.string ByteArray.empty) 16 Tryd.underlying25 info_str rfl _ N us rfl (OA.out.alloc _) ⟨wr.heap.size, 0, none⟩ 1 1 [.string ⟨#[126]⟩] rfl (by omega) rfl (new_cells wr _ _) tilde_one (by omega) (by omega) (by simp; omega) ?_); intro v1 w8 ho8 hg8 hx8)
          obtain ⟨A8, c8, rfl, _⟩ := own_src ho8
          have OA8 := Lib.hid ho8
          have HB8 := Lib.hid (below_grown' HB.out hsz OA.out (Nat.le_refl _) hg8)
          have OB8 := Lib.hid ((OB.out.alloc (.cells #[.string ⟨#[126]⟩] 9)).kept hg8 HAP.out)
          have HAP8 : Hid ((Value.slice A5 k5 c5).ownBlock = none ∨ (Value.slice A5 k5 c5).ownBlock ≠ (Value.slice A8 (N + 1) c8).ownBlock) := Lib.hid (by
            rcases hx8 with e | hlow
            · rw [e]; exact HAP.out
            · cases hv : (Value.slice A5 k5 c5).ownBlock with
              | none => exact .inl rfl
              | some g =>
                refine .inr fun e => ?_
                have h1 := hlow g e.symm
                have h2 := (OB.out.lt g hv).2
                simp at h1
                omega)
          clear ho8 hg8 hx8
          go_wp2_with fail
          go_roundw
          case rel => exact ⟨j + 1, N + 1, _, by omega, by go_num, by omega, ⟨_, _, rfl⟩, OA8.out, HAP8.out, OB8.out, HB8.out⟩
          case measure => simp [RowKit.intOf]; omega
        · obtain rfl : j = 20 := by omega
          have t1 : decide ((N : Int) < 20) = false := decide_eq_false (by omega)
          have t2 : decide (N < 20) = false := decide_eq_false (by omega)
          go_wp2_with fail
          refine (sameTexts_any A5 A3 c5 c3 k5 T _ HK.out (by omega) (own_srcS OB.out) (S3.out.below HB.out)).mono ?_
          rintro e w9 ⟨rfl, q, rfl⟩
          have D9 := Lib.hid (below_dr HB.out q)
          have O9 := Lib.hid (own_below O3.out D9.out (Nat.le_refl _))
          have RO9 := Lib.hid (RO3.out.below D9.out)
          have OW9 := Lib.hid (own_below OW3.out D9.out (Nat.le_refl _))
          have B9 := Lib.hid (bt B3.out D9.out)
          clear D9 OA OB HAP HB O3 RO3 OW3 B3
          generalize wr.drewN q = w9 at O9 RO9 OW9 B9 ⊢
          go_wp2_with fail
          go_loopw [15] (fun i wr => ∃ i' : Nat, i' ≤ n1 ∧ i = .int .i64 i' ∧ wr.ownsRow w.heap.size 25 1 (.slice A1 n1 c1) n1 (slcs R) ∧ RowsOwn wr w.heap.size R (partE X i') ∧ wr.ownsRow w1.heap.size 3 1 (.slice A2 m c2) m (ints ws) ∧ Below w.heap.size w wr) (fun i _ => n1 - (RowKit.intOf i).toNat)
          case atStart => exact ⟨0, by omega, rfl, O9.out, by rw [partE_zero]; exact RO9.out, OW9.out, B9.out⟩
          case round =>
            clear O9 RO9 OW9 B9
            obtain ⟨i, hi, rfl, ho, hro, how, hb⟩ := hrel
            have HO := Lib.hid ho
            have HRO := Lib.hid hro
            have HOW := Lib.hid how
            have HB := Lib.hid hb
            clear ho hro how hb
            by_cases hil : i < n1
            · obtain ⟨g, rfl, hg, hgs⟩ := own_shape HO.out (by omega)
              obtain ⟨b, o, rfl, hbs, hc1⟩ := src_get' GA.out (by omega)
              have hiR : i < R.length := by rw [← HNR.out]; exact hil
              have hiX : i < X.length := by rw [← HNX.out]; exact hil
              have e1 : wr.cell? ⟨g, i, none⟩ = some (.slice (R.getD i (none, 0, 0)).1 (R.getD i (none, 0, 0)).2.1 (R.getD i (none, 0, 0)).2.2) := by rw [HO.out.cellAt i (by omega)]; exact slcs_at R i hiR
              have e2 := hc1 i _ (slcs_at R0 i (by rw [← HN.out]; exact hil))
              obtain ⟨hr1, hr2⟩ := HRO.out.rows.2 i hiR
              rw [partE_get X i hiX] at hr1 hr2
              obtain ⟨hq1, hq2⟩ := HR.out.2 i (by rw [← HN.out]; exact hil)
              have hxb := (HF.out.2 i).1
              obtain ⟨x, hx⟩ : ∃ x, x = X.getD i [] := ⟨_, rfl⟩
              rw [← hx] at hr1 hr2 hq1 hq2 hxb
              have HX := Lib.hid hx
              obtain ⟨⟨ra, rn, rc⟩, hR⟩ : ∃ r, r = R.getD i (none, 0, 0) := ⟨_, rfl⟩
              rw [← hR] at e1 hr1 hr2
              have HRI := Lib.hid hR
              replace e1 : wr.cell? ⟨g, i, none⟩ = some (.slice ra rn rc) := e1
              replace hr1 : rn = x.length := hr1
              replace hr2 : Src wr ra rn rc (strs x) := hr2
              generalize R0.getD i (none, 0, 0) = r0 at e2 hq1 hq2
              obtain ⟨qa, qn, qc⟩ := r0
              replace e2 : w.cell? ⟨b, o + i, none⟩ = some (.slice qa qn qc) := e2
              replace hq1 : qn = x.length := hq1
              obtain rfl : qn = rn := hq1.trans hr1.symm
              replace hq2 : Src w qa qn qc (strs x) := hq2
              have HX1 := Lib.hid hr1
              have hqb : qn ≤ 1048576 := by omega
              have HKP : Hid (∀ W, Below wr.heap.size wr W → (W.cell? ⟨g, i, none⟩ = some (.slice ra qn rc) ∧ W.cell? ⟨b, o + i, none⟩ = some (.slice qa qn qc)) ∧ Below wr.heap.size wr W) := Lib.hid fun W hW =>
                ⟨⟨by rw [hW.cell (p := ⟨g, i, none⟩) hgs]; exact e1, by rw [(bt HB.out hW).cell (p := ⟨b, o + i, none⟩) hbs]; exact e2⟩, hW⟩
              have HS1 : Hid (∀ W, Below wr.heap.size wr W → Src W ra qn rc (strs x) ∧ Src W qa qn qc (strs x)) := Lib.hid fun W hW => ⟨hr2.below hW, hq2.below (bt HB.out hW)⟩
              clear hx hR e1 e2 hr1 hr2 hq1 hq2 hxb hc1
              have i1 : (0 : Int) ≤ (i : Int) := by omega
              have i2 : (i : Int) < (n1 : Int) := by omega
              go_wp2_with fail
              go_region_held3 (fun w' => (w'.cell? ⟨g, i, none⟩ = some (.slice ra qn rc) ∧ w'.cell? ⟨b, o + i, none⟩ = some (.slice qa qn qc)) ∧ Below wr.heap.size wr w') (first | exact HKP.out _ (by assumption) | exact HKP.out _ (Below.refl _ _) | exact HKP.out _ (below_dr (Below.refl _ _) _))
                (first
                  | (go_at_call 8; refine (sameTexts_any ra qa rc qc qn x _ HX1.out (by omega) (HS1.out _ (by first | assumption | exact Below.refl _ _ | exact below_dr (Below.refl _ _) 1 | exact And.right (by assumption))).1 (HS1.out _ (by first | assumption | exact Below.refl _ _ | exact below_dr (Below.refl _ _) 1 | exact And.right (by assumption))).2).mono ?_; rintro e w10 ⟨rfl, q9, rfl⟩))
              all_goals
                have B9 := below_dr (Below.refl wr.heap.size wr) (1 + q9)
                generalize wr.drewN (1 + q9) = w10 at B9 ⊢
                have O9 := Lib.hid (own_below HO.out B9 (Nat.le_refl _))
                have RO9 := Lib.hid (HRO.out.below B9)
                have OW9 := Lib.hid (own_below HOW.out B9 (Nat.le_refl _))
                have W9 := Lib.hid (bt HB.out B9)
                clear B9 HO HRO HOW HB HKP HS1
                go_wp2_with fail
                go_loopw [16] (fun v16 wi => ∃ k : Nat, k ≤ qn ∧ v16 = .int .i64 k ∧ wi.ownsRow w.heap.size 25 1 (.slice (some ⟨g, 0, none⟩) n1 c1) n1 (slcs R) ∧ RowsOwn wi w.heap.size R ((partE X i).set i (headE x k)) ∧ wi.ownsRow w1.heap.size 3 1 (.slice A2 m c2) m (ints ws) ∧ Below w.heap.size w wi) (fun v16 _ => qn - (RowKit.intOf v16).toNat)
                case atStart => exact ⟨0, by omega, rfl, O9.out, by rw [headE_zero, HX.out, partE_id X i hiX]; exact RO9.out, OW9.out, W9.out⟩
                case round =>
                  clear O9 RO9 OW9 W9
                  obtain ⟨k, hk, rfl, ho, hro, how, hb⟩ := hrel
                  have HO := Lib.hid ho
                  have HRO := Lib.hid hro
                  have HOW := Lib.hid how
                  have HB := Lib.hid hb
                  clear ho hro how hb
                  have e1 : wr.cell? ⟨g, i, none⟩ = some (.slice ra qn rc) := by
                    rw [HO.out.cellAt i (by omega), slcs_at R i hiR, ← HRI.out]
                  by_cases hkl : k < qn
                  · obtain ⟨g2, hA2, hg2, hgs2, e3, f3, hst⟩ := HRO.out.store hiR (k := k) (by rw [← HRI.out]; exact hkl)
                    have HA1 := Lib.hid (HRO.out.other hiR hA2 HO.out (by decide))
                    have HA2 := Lib.hid (HRO.out.other hiR hA2 HOW.out (by decide))
                    rw [← HRI.out] at hA2
                    replace hA2 : ra = some ⟨g2, 0, none⟩ := hA2
                    subst hA2
                    rw [set_at _ _ _ (by rw [partE_len]; exact hiX), headE_get x k (by rw [← HX1.out]; exact hkl)] at e3
                    have HST := Lib.hid (hst (x.getD k [] ++ sE))
                    have HTS := Lib.hid (app_str (x.getD k []) sE)
                    have HHS := Lib.hid (headE_set x k (by rw [← HX1.out]; exact hkl))
                    have htz : (str (x.getD k [])).size ≤ 1048576 := by rw [HX.out, str_size]; exact (HF.out.2 i).2 k
                    clear hst
                    generalize x.getD k [] = t at e3 HST HTS HHS htz
                    generalize hTT : str t = T0 at e3 HTS htz
                    have htz2 : ¬ 9223372036854775807 < T0.size + 2 := by omega
                    clear hTT
                    have k1 : (0 : Int) ≤ (k : Int) := by omega
                    have k2 : (k : Int) < (qn : Int) := by omega
                    go_wp2_with fail
                    go_region
                    all_goals
                      have hst2 := HST.out
                      rw [← HTS.out, set_at _ _ _ (by rw [partE_len]; exact hiX), List.set_set, HHS.out] at hst2
                      obtain ⟨hs1, hs2⟩ := hst2
                      have HS1 := Lib.hid hs1
                      have HS2 := Lib.hid (HO.out.kept hs2 HA1.out)
                      have HS3 := Lib.hid (HOW.out.kept hs2 HA2.out)
                      have HS4 := Lib.hid (HB.out.setCell (p := ⟨g2, k, none⟩) hg2 (.string (T0 ++ str sE)))
                      clear hs1 hs2
                      go_wp2_with fail
                      go_roundw
                      case rel => exact ⟨k + 1, by omega, by go_num, HS2.out, HS1.out, HS3.out, below_dr HS4.out 1⟩
                      case measure => simp [RowKit.intOf]; omega
                  · obtain rfl : qn = k := by omega
                    have HRO2 : Hid (RowsOwn wr w.heap.size R (partE X (i + 1))) := Lib.hid (by
                      have h := HRO.out
                      rw [HX1.out, headE_all, HX.out, partE_set X i hiX] at h
                      exact h)
                    go_wp2_with fail
                    go_roundw
                    case rel => exact ⟨i + 1, by omega, by go_num, HO.out, HRO2.out, HOW.out, HB.out⟩
                    case measure => simp [RowKit.intOf]; omega
            · obtain rfl : n1 = i := by omega
              have HRO2 : Hid (RowsOwn wr w.heap.size R (addE X)) := Lib.hid (by
                have h := HRO.out
                rw [HNX.out, partE_all] at h
                exact h)
              clear HRO
              go_wp2_with fail
              go_loopw [17] (fun v17 wi => ∃ j : Nat, j ≤ m ∧ v17 = .int .i64 j ∧ wi.ownsRow w.heap.size 25 1 (.slice A1 n1 c1) n1 (slcs R) ∧ RowsOwn wi w.heap.size R (addE X) ∧ wi.ownsRow w1.heap.size 3 1 (.slice A2 m c2) m (ints (partW ws j)) ∧ Below w.heap.size w wi) (fun v17 _ => m - (RowKit.intOf v17).toNat)
              case atStart => exact ⟨0, by omega, rfl, HO.out, HRO2.out, by rw [partW_zero]; exact HOW.out, HB.out⟩
              case round =>
                clear HO HRO2 HOW HB
                obtain ⟨j, hj, rfl, ho, hro, how, hb⟩ := hrel
                have HO := Lib.hid ho
                have HRO := Lib.hid hro
                have HOW := Lib.hid how
                have HB := Lib.hid hb
                clear ho hro how hb
                by_cases hjl : j < m
                · obtain ⟨g, rfl, hg, hgs⟩ := own_shape HOW.out (by omega)
                  obtain ⟨b, o, rfl, hbs, hc1⟩ := src_get' GB.out (by omega)
                  have hjw : j < ws.length := by rw [← HM.out]; exact hjl
                  have e1 : wr.cell? ⟨g, j, none⟩ = some (.int .i64 (ws.getD j 0)) := by rw [HOW.out.cellAt j (by omega), intsZ_at _ j (by rw [partW_len]; exact hjw), partW_get ws j hjw]
                  have e2 : wr.cell? ⟨b, o + j, none⟩ = some (.int .i64 (ws.getD j 0)) := by rw [HB.out.cell (p := ⟨b, o + j, none⟩) hbs]; exact hc1 j _ (intsZ_at ws j hjw)
                  have f1 := HOW.out.frozenAt j
                  have hzw := HW.out j hjw
                  have ht7 := tmod7 (ws.getD j 0)
                  have HST := Lib.hid (partW_set ws j hjw)
                  generalize ws.getD j 0 = z at e1 e2 hzw ht7 HST
                  have HS0 := Lib.hid (HOW.out.stored j (.int .i64 (z.tmod 7 + 1)))
                  have HS1 := Lib.hid (HO.out.kept HS0.out.2 (own_apart HO.out HOW.out (by decide)))
                  have HS2 := Lib.hid (HRO.out.kept HS0.out.2 fun i hi => own_apart (HRO.out.2.1 i hi) HOW.out (by decide))
                  have k1 : (0 : Int) ≤ (j : Int) := by omega
                  have k2 : (j : Int) < (m : Int) := by omega
                  clear hc1
                  go_wp2_with fail
                  go_quiet (fail)
                  go_wp2_with fail
                  go_roundw
                  case rel =>
                    refine ⟨j + 1, by omega, by go_num, HS1.out, HS2.out, ?_, (below_dr HB.out _).setCell (p := ⟨g, j, none⟩) (Nat.le_trans hw1 hg) _⟩
                    rw [← HST.out, ← ints_set]
                    exact HS0.out.1
                  case measure => simp [RowKit.intOf]; omega
                · obtain rfl : m = j := by omega
                  have HOW2 : Hid (wr.ownsRow w1.heap.size 3 1 (.slice A2 m c2) m (ints (turnW ws))) := Lib.hid (by
                    have h := HOW.out
                    have e : partW ws m = turnW ws := by rw [HM.out, partW_all]
                    rw [e] at h
                    exact h)
                  have HMT : Hid (m = (turnW ws).length) := Lib.hid (by rw [turn_len]; exact HM.out)
                  have HAL : Hid ((addE X).length = n1) := Lib.hid (by show (X.map rowE).length = _; rw [List.length_map]; exact HNX.out.symm)
                  clear HOW
                  go_wp2_with fail
                  refine (cells_any A1 c1 n1 R (addE X) _ HNR.out (addE_fine HF.out) HRO.out.rows (own_srcS HO.out)).mono ?_
                  rintro e w10 ⟨A6, c6, n6, R6, rfl, hn6, ho6, hro6, b6⟩
                  obtain rfl : n6 = n1 := hn6.trans HAL.out
                  have O6 := Lib.hid ho6
                  have RO6 := Lib.hid hro6
                  have D6 := Lib.hid b6
                  clear hn6 ho6 hro6 b6
                  go_wp2_with (at_builtin; go_must (refine wpList_append_src rfl (.tmp 153) (.tmp 154) 23 rfl w10.heap.size 3 (.int .i64 0) 8 Tryd.underlying23 info_int rfl _ 0 [] rfl (own_empty w10 3) A2 m c2 (ints (turnW ws)) rfl (((own_srcS HOW2.out).below D6.out).below (grows' w10 _)) (ints_one _) (by omega) (by omega) (by simp) ?_); intro v11 w11 ho11 hg11)
                  have D11 := Lib.hid (below_first hg11)
                  simp only [Nat.zero_add, List.nil_append] at ho11
                  obtain ⟨A7, c7, rfl, _⟩ := own_src ho11
                  have OW11 := Lib.hid ho11
                  have O11 := Lib.hid (own_below O6.out D11.out (Nat.le_refl _))
                  have RO11 := Lib.hid (RO6.out.below D11.out)
                  have DD := Lib.hid (bt D6.out D11.out)
                  have HN6 : Hid (n6 = R6.length) := Lib.hid (by have h := O11.out.1; rw [show (slcs R6).length = R6.length from List.length_map .., Nat.mul_one] at h; exact h.symm)
                  clear ho11 hg11 D11 D6 O6 RO6
                  refine (K3.out A6 A7 c6 c7 n6 m R6 _ HN6.out HMT.out RO11.out.rows (own_srcS O11.out) (own_srcS OW11.out) trivial).mono ?_
                  rintro e w12 ⟨A8, k8, c8, hk8, rfl, ho8, b8⟩
                  have HK8 := Lib.hid hk8
                  have hkb8 : k8 ≤ 16777216 := by omega
                  have S8 := Lib.hid (own_srcS ho8)
                  have D12 := Lib.hid (bt DD.out b8)
                  clear hk8 ho8 b8 DD O11 RO11 OW11
                  go_wp2_with fail
                  refine (K4.out A1 A2 c1 c2 n6 m R _ HNR.out HMT.out (HRO.out.below D12.out).rows ((own_srcS HO.out).below D12.out) ((own_srcS HOW2.out).below D12.out) (HT.out.below (bt HB.out D12.out))).mono ?_
                  rintro e w13 ⟨A9, k9, c9, hk9, rfl, ho9, b9⟩
                  obtain rfl : k9 = k8 := hk9.trans HK8.out.symm
                  have S9 := Lib.hid (own_srcS ho9)
                  have S13 := Lib.hid (S8.out.below b9)
                  have D13 := Lib.hid (bt D12.out b9)
                  clear hk9 ho9 b9
                  go_wp2_with fail
                  refine (sameTexts_any A9 A8 c9 c8 k9 T2 _ HK8.out (by omega) S9.out S13.out).mono ?_
                  rintro e w14 ⟨rfl, q, rfl⟩
                  go_wp2_with fail
                  go_ret
                  exact ⟨rfl, below_dr (bt HB.out D13.out) q⟩
end Go.Proofs.YtaoekpedjgnnjaaDoor.Wd
