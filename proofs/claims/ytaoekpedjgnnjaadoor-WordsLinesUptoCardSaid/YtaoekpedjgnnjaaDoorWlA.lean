/- The walk of the law on lines and words. -/
import Derived.Test.YtaoekpedjgnnjaaDoorRfY
import Derived.Test.YtaoekpedjgnnjaaDoorRfG
import Derived.Laws.OwnMore
namespace Go.Proofs.YtaoekpedjgnnjaaDoor.Wd
open Go.ChangeShapes Go.WideShapes Go.ChangeAt Go.RowKit Own Bld Go.Lib Nums

theorem below_dr {B : Nat} {a w : World} (h : Below B a w) (q : Nat) : Below B a (w.drewN q) := ⟨h.os, h.tape, h.output, h.size, h.block⟩
/-- The first k texts, each with a blank behind it. -/
def addB (xs : List (List UInt8)) (k : Nat) : List (List UInt8) := (xs.take k).map (fun x => x ++ [32]) ++ xs.drop k
theorem addB_zero (xs : List (List UInt8)) : addB xs 0 = xs := by simp [addB]
theorem addB_len (xs : List (List UInt8)) (k : Nat) : (addB xs k).length = xs.length := by simp [addB]; omega
theorem addB_get (xs : List (List UInt8)) (k : Nat) (h : k < xs.length) : (addB xs k).getD k [] = xs.getD k [] := by
  unfold addB
  have e : ((xs.take k).map fun x => x ++ [32]).length = k := by simp; omega
  rw [List.getD_eq_getElem?_getD, List.getD_eq_getElem?_getD, List.getElem?_append_right (by omega), e, Nat.sub_self, List.getElem?_drop, Nat.add_zero]
theorem addB_set (xs : List (List UInt8)) (k : Nat) (h : k < xs.length) : (addB xs k).set k (xs.getD k [] ++ [32]) = addB xs (k + 1) := by
  unfold addB
  have e : ((xs.take k).map fun x => x ++ [32]).length = k := by simp; omega
  rw [List.set_append_right _ _ (by omega), e, Nat.sub_self, List.drop_eq_getElem_cons h, List.set_cons_zero, take_snoc xs k h, List.map_append, List.append_assoc]
  rfl
theorem bulk_app (a b : List (List UInt8)) : bulkL (a ++ b) = bulkL a + bulkL b := by
  induction a with
  | nil => simp [bulkL]
  | cons x a ih =>
    show x.length + 1 + bulkL (a ++ b) = x.length + 1 + bulkL a + bulkL b
    omega
theorem bulk_blank (a : List (List UInt8)) : bulkL (a.map fun x => x ++ [32]) = bulkL a + a.length := by
  induction a with
  | nil => rfl
  | cons x a ih =>
    show (x ++ [32]).length + 1 + bulkL (a.map fun x => x ++ [32]) = x.length + 1 + bulkL a + (a.length + 1)
    rw [List.length_append, List.length_singleton]
    omega
theorem addB_bulk (xs : List (List UInt8)) (k : Nat) : bulkL (addB xs k) ≤ 2 * bulkL xs := by
  unfold addB
  rw [bulk_app, bulk_blank]
  have h1 : bulkL (xs.take k) + bulkL (xs.drop k) = bulkL xs := by rw [← bulk_app, List.take_append_drop]
  have h2 := bulk_len (xs.take k)
  omega
theorem strs_set (xs : List (List UInt8)) (k : Nat) (y : List UInt8) : (strs xs).set k (.string (str y)) = strs (xs.set k y) := by unfold strs; rw [List.map_set]
theorem own_shape {w : World} {base : Nat} {E : TypeId} {A : Option Addr} {n c : Nat} {xs : List Value} (h : w.ownsRow base E 1 (.slice A n c) n xs) (hn : 0 < n) : ∃ g, A = some ⟨g, 0, none⟩ ∧ base ≤ g ∧ g < w.heap.size := by
  rcases h.2 with ⟨hv, hx⟩ | ⟨g, cap, cur, hv, hg, hh, _⟩
  · injection hv with _ h2 _
    omega
  · injection hv with h1 _ _
    exact ⟨g, h1, hg, (Array.getElem?_eq_some_iff.1 hh).1⟩
theorem own_base' {w : World} {b b' : Nat} {E : TypeId} {v : Value} {n : Nat} {xs : List Value} (h : w.ownsRow b E 1 v n xs) (hb : b' ≤ b) : w.ownsRow b' E 1 v n xs := own_mono h hb
theorem bt {y W w9 : World} (h : Below y.heap.size y W) (h9 : Below W.heap.size W w9) : Below y.heap.size y w9 := h.trans (h9.mono h.size)
theorem ba {y W : World} (h : Below y.heap.size y W) (o : Obj) : Below y.heap.size y (W.alloc o) := h.alloc h.size o
theorem below_first {W w1 : World} {E : TypeId} (hg : (W.alloc (.cells #[] E)).grownBy w1 (Value.slice (some ⟨W.heap.size, 0, none⟩) 0 0).ownBlock) : Below W.heap.size W w1 :=
  ((Below.refl W.heap.size W).alloc (Nat.le_refl _) _).grown hg (by simp) (by intro k hk; injection hk with hk; exact Nat.le_of_eq hk)

theorem own_far {w : World} {base : Nat} {E : TypeId} {v : Value} {n g : Nat} {xs : List Value} (h : w.ownsRow base E 1 v n xs) (hg : g < base) : v.ownBlock = none ∨ v.ownBlock ≠ some g := by
  rcases h.2 with ⟨rfl, _⟩ | ⟨g', cap, cur, rfl, hb, _⟩
  · exact .inl rfl
  · refine .inr fun e => ?_
    injection e with e
    have e2 : g' = g := e
    omega
theorem fld_len (l : List UInt8) : (fldR l).1.length ≤ l.length + 1 := by
  rw [fld_doc]
  split
  · have h1 := wds_bulk _ l (Nat.le_refl _)
    have h2 := bulk_len (wdsW l)
    show (wdsW l).length ≤ _
    omega
  · exact Nat.zero_le _

set_option maxRecDepth 100000 in
set_option maxHeartbeats 16000000 in
theorem walkLines (A : Option Addr) (c n : Nat) (xs : List (List UInt8)) (line : ByteArray) (w : World) (hn : n = xs.length) (hx : bulkL xs ≤ 1048576) (hl : line.size ≤ 1048575) (hA : Src w A n c (strs xs)) (he : En w) :
    Calls Tryd.prog 4 #[.slice A n c, .string line] w fun e w' => e = .returned (.bool true) ∧ Below w.heap.size w w' := by
  have HE := Lib.hid he
  have HN := Lib.hid hn
  have GA := Lib.hid hA
  have hnb : n ≤ 1048576 := by have := bulk_len xs; omega
  have HX := Lib.hid hx
  clear he hn hA hx
  go_enter Tryd.func4, Tryd.ntmps4
  go_wp2_with (at_builtin; go_must (refine wpList_append_src rfl (.tmp 14) (.tmp 15) 25 rfl w.heap.size 9 (.string ByteArray.empty) 16 Tryd.underlying25 info_str rfl _ 0 [] rfl (own_empty w 9) A n c (strs xs) rfl (GA.out.below (grows' w _)) (strs_one' xs) (by omega) (by omega) (by simp) ?_); intro v1 w2 hown1 hg1)
  have B2 := Lib.hid (below_first hg1)
  clear hg1
  simp only [Nat.zero_add, List.nil_append] at hown1
  obtain ⟨A1, c1, rfl, hs1⟩ := own_src hown1
  have O2 := Lib.hid hown1
  have S2 := Lib.hid hs1
  clear hown1 hs1
  refine (line_any A1 c1 n xs _ HN.out HX.out S2.out (HE.out.below B2.out)).mono ?_
  rintro e w3 ⟨rfl, b3⟩
  have O3 := Lib.hid (own_below O2.out b3 (Nat.le_refl _))
  have B3 := Lib.hid (bt B2.out b3)
  clear b3 B2 S2 O2
  go_wp2_with fail
  refine (refLine_any A c n xs _ HN.out HX.out (GA.out.below B3.out)).mono ?_
  rintro e w4 ⟨rfl, b4⟩
  have O4 := Lib.hid (own_below O3.out b4 (Nat.le_refl _))
  have B4 := Lib.hid (bt B3.out b4)
  clear b4 B3 O3
  generalize str (lineL xs) = P
  go_wp2_with fail
  refine (sameTexts_any A1 A c1 c n xs _ HN.out (by omega) (own_srcS O4.out) (GA.out.below B4.out)).mono ?_
  rintro e w5 ⟨rfl, q, rfl⟩
  have O5 : Hid ((w4.drewN q).ownsRow w.heap.size 9 1 (.slice A1 n c1) n (strs xs)) := Lib.hid O4.out
  have B5 := Lib.hid (below_dr B4.out q)
  clear B4 O4
  generalize w4.drewN q = w5 at O5 B5 ⊢
  go_wp2_with fail
  go_loopw [6] (fun i wr => ∃ k : Nat, k ≤ n ∧ i = .int .i64 k ∧ wr.ownsRow w.heap.size 9 1 (.slice A1 n c1) n (strs (addB xs k)) ∧ Below w.heap.size w wr) (fun i _ => n - (RowKit.intOf i).toNat)
  case atStart => exact ⟨0, by omega, rfl, by rw [addB_zero]; exact O5.out, B5.out⟩
  case round =>
    clear O5 B5
    obtain ⟨k, hk, rfl, hown, hbw⟩ := hrel
    have HO := Lib.hid hown
    have HB := Lib.hid hbw
    have hsz := hbw.size
    clear hown hbw
    by_cases hlt : k < n
    · obtain ⟨g, rfl, hg, hgs⟩ := own_shape HO.out (by omega)
      have hkx : k < xs.length := by rw [← HN.out]; exact hlt
      have hka : k < (addB xs k).length := by rw [addB_len]; exact hkx
      have e1 : wr.cell? ⟨g, k, none⟩ = some (.string (str (xs.getD k []))) := by rw [HO.out.cellAt k (by omega), strs_at _ k hka, addB_get xs k hkx]
      have hxs : (str (xs.getD k [])).size ≤ 1048576 := by have := bulk_at xs k hkx; have := HX.out; rw [str_size]; omega
      have HQ := Lib.hid fun W (h : En W) => quote_any (str (xs.getD k [])) W (by omega) (quote_room _ (by omega)) h
      have HR := Lib.hid fun W => refQuote_any (str (xs.getD k [])) W (by omega)
      have HST := Lib.hid (addB_set xs k hkx)
      have HAP := Lib.hid (app_str (xs.getD k []) [32])
      rw [str_list] at HQ HR
      generalize quoteW (xs.getD k []) = qx at HQ HR
      generalize xs.getD k [] = x at e1 HQ HR HST HAP hxs
      generalize str qx = Q at HQ HR
      have E1 : Hid (∀ W, Below wr.heap.size wr W → W.cell? ⟨g, k, none⟩ = some (.string (str x))) := Lib.hid fun W h => by rw [h.cell (p := ⟨g, k, none⟩) hgs]; exact e1
      have EN : Hid (∀ W, Below wr.heap.size wr W → En W) := Lib.hid fun W h => (HE.out.below HB.out).below h
      generalize hX : str x = X at e1 HQ HR HAP hxs E1
      have i1 : (0 : Int) ≤ (k : Int) := by omega
      have i2 : (k : Int) < (n : Int) := by omega
      have KP : ∀ W, Below wr.heap.size wr W → W.cell? ⟨g, k, none⟩ = some (.string X) ∧ Below wr.heap.size wr W := fun W h => ⟨E1.out W h, h⟩
      have HKP := Lib.hid KP
      clear KP
      go_wp2_with fail
      go_region_held3 (fun w' => w'.cell? ⟨g, k, none⟩ = some (.string X) ∧ Below wr.heap.size wr w') (first | exact HKP.out _ (by assumption) | exact HKP.out _ (Below.refl _ _) | exact HKP.out _ (below_dr (Below.refl _ _) 1))
        (first
          | (go_at_call 11; refine (HQ.out _ (EN.out _ (by first | assumption | exact Below.refl _ _ | exact below_dr (Below.refl _ _) 1 | exact And.right (by assumption)))).mono ?_; rintro e w9 ⟨rfl, b9⟩; have B9 := bt (y := wr) (by first | assumption | exact Below.refl _ _ | exact below_dr (Below.refl _ _) 1 | exact And.right (by assumption)) b9; clear b9)
          | (go_at_call 12; refine (HR.out _).mono ?_; rintro e w9 ⟨rfl, b9⟩; have B9 := bt (y := wr) (by first | assumption | exact Below.refl _ _ | exact below_dr (Below.refl _ _) 1 | exact And.right (by assumption)) b9; clear b9))
      all_goals
        have O9 := Lib.hid (own_below HO.out B9 (Nat.le_refl _))
        have e9 := E1.out _ B9
        have f9 := O9.out.frozenAt k
        have W9 := Lib.hid (bt HB.out B9)
        clear i1 i2
        go_wp2_with fail
        go_roundw
        case rel =>
          refine ⟨k + 1, by omega, by go_num, ?_, ?_⟩
          · rw [← HST.out, ← strs_set, ← HAP.out]
            exact (O9.out.stored k _).1
          · exact W9.out.setCell (p := ⟨g, k, none⟩) hg _
        case measure => simp [RowKit.intOf]; omega
    · obtain rfl : n = k := by omega
      have HX2 : Hid (bulkL (addB xs n) ≤ 2097152) := Lib.hid (by have := addB_bulk xs n; have := HX.out; omega)
      have HN2 : Hid (n = (addB xs n).length) := Lib.hid (by rw [addB_len]; exact HN.out)
      generalize addB xs n = ys at HO HX2 HN2
      have HS := Lib.hid (own_srcS HO.out)
      have HFL := Lib.hid (fld_len line.data.toList)
      have HLZ : Hid (line.data.toList.length = line.size) := Lib.hid rfl
      have F1 := Lib.hid fun W => refFields_any line W (by omega)
      have F2 := Lib.hid fun W (h : En W) => fields_any line W (by omega) h
      generalize fldR line.data.toList = p at HFL F1 F2
      obtain ⟨T, er⟩ := p
      replace HFL : Hid (T.length ≤ line.data.toList.length + 1) := HFL
      replace F1 : Hid (∀ W, Calls Tryd.prog 13 #[.string line] W (Made T er W)) := F1
      replace F2 : Hid (∀ W, En W → Calls Tryd.prog 14 #[.string line] W (Made T er W)) := F2
      have hTm : ∀ m, m = T.length → m ≤ 1048576 := fun m hm => by have h1 := HFL.out; have h2 := HLZ.out; omega
      have HTM := Lib.hid hTm
      clear hTm HFL HLZ HO
      go_wp2_with fail
      refine (line_big A1 c1 n ys _ HN2.out HX2.out HS.out (HE.out.below HB.out)).mono ?_
      rintro e w3 ⟨rfl, b3⟩
      have S3 := Lib.hid (HS.out.below b3)
      have B3 := Lib.hid (bt HB.out b3)
      clear b3 HS HB
      generalize hY : str (lineL ys) = Y
      go_wp2_with (at_builtin; go_must (refine wpList_append_src rfl (.tmp 55) (.tmp 56) 25 rfl w3.heap.size 9 (.string ByteArray.empty) 16 Tryd.underlying25 info_str rfl _ 0 [] rfl (own_empty w3 9) A1 n c1 (strs ys) rfl (S3.out.below (grows' w3 _)) (strs_one' ys) (by omega) (by omega) (by simp) ?_); intro v1 w4 hown1 hg1)
      have B4 := Lib.hid (bt B3.out (below_first hg1))
      clear hg1
      simp only [Nat.zero_add, List.nil_append] at hown1
      obtain ⟨A4, c4, rfl, hs4⟩ := own_src hown1
      have S4 := Lib.hid hs4
      clear hown1 hs4 S3 B3
      have HRL := Lib.hid (refLine_big A4 c4 n ys _ HN2.out HX2.out S4.out)
      rw [hY] at HRL
      clear hY
      refine HRL.out.mono ?_
      rintro e w5 ⟨rfl, b5⟩
      have B5 := Lib.hid (bt B4.out b5)
      clear b5 B4 S4
      go_wp2_with fail
      refine (F1.out _).mono ?_
      rintro e w6 ⟨A6, m, c6, hm, rfl, ho6, b6⟩
      have HM := Lib.hid hm
      have hmb := HTM.out m hm
      have S6 := Lib.hid (own_srcS ho6)
      have B6 := Lib.hid (bt B5.out b6)
      clear hm ho6 b6 B5
      go_wp2_with fail
      refine (F2.out _ (HE.out.below B6.out)).mono ?_
      rintro e w7 ⟨A7, m7, c7, hm7, rfl, ho7, b7⟩
      obtain rfl : m7 = m := hm7.trans HM.out.symm
      have O7 := Lib.hid ho7
      have B7 := Lib.hid b7
      clear hm7 ho7 b7
      go_wp2_with fail
      refine (F2.out _ (HE.out.below (bt B6.out B7.out))).mono ?_
      rintro e w8 ⟨A8, m8, c8, hm8, rfl, ho8, b8⟩
      obtain rfl : m8 = m7 := hm8.trans HM.out.symm
      have O8 := Lib.hid ho8
      have OA8 := Lib.hid (own_below O7.out b8 (Nat.le_refl _))
      have B8 := Lib.hid (bt B7.out b8)
      clear hm8 ho8 b8
      go_wp2_with fail
      refine (sameTexts_any A7 A6 c7 c6 m8 T _ HM.out (by omega) (own_srcS OA8.out) (S6.out.below B8.out)).mono ?_
      rintro e w9 ⟨rfl, q, rfl⟩
      have O9 : Hid ((w8.drewN q).ownsRow w7.heap.size 9 1 (.slice A8 m8 c8) m8 (strs T)) := Lib.hid O8.out
      have OA9 : Hid ((w8.drewN q).ownsRow w6.heap.size 9 1 (.slice A7 m8 c7) m8 (strs T)) := Lib.hid OA8.out
      have B9 := Lib.hid (below_dr B8.out q)
      clear O8 OA8 B8
      generalize w8.drewN q = w9 at O9 OA9 B9 ⊢
      go_wp2_with fail
      go_loopw [13] (fun i wr => ∃ (k : Nat) (us : List Value), k ≤ m8 ∧ i = .int .i64 k ∧ wr.ownsRow w6.heap.size 9 1 (.slice A7 m8 c7) m8 us ∧ wr.ownsRow w7.heap.size 9 1 (.slice A8 m8 c8) m8 (strs T) ∧ Below w6.heap.size w6 wr) (fun i _ => m8 - (RowKit.intOf i).toNat)
      case atStart => exact ⟨0, strs T, by omega, rfl, OA9.out, O9.out, B9.out⟩
      case round =>
        clear O9 OA9 B9
        obtain ⟨k, us, hk, rfl, hoa, hob, hbw⟩ := hrel
        have OA := Lib.hid hoa
        have OB := Lib.hid hob
        have HB := Lib.hid hbw
        clear hoa hob hbw
        by_cases hlt : k < m8
        · obtain ⟨g, rfl, hg, hgs⟩ := own_shape O7.out (by omega)
          obtain ⟨u, hu⟩ : ∃ u, us[k]? = some u := ⟨us[k]'(by have h := OA.out.1; omega), List.getElem?_eq_getElem _⟩
          have e1 : wr.cell? ⟨g, k, none⟩ = some u := by rw [OA.out.cellAt k (by omega), hu]
          have f1 := OA.out.frozenAt k
          clear hu
          go_wp2_with fail
          go_roundw
          case rel => exact ⟨k + 1, _, by omega, by go_num, (OA.out.stored k _).1, OB.out.kept (OA.out.stored k _).2 (own_far OB.out hgs), HB.out.setCell (p := ⟨g, k, none⟩) hg _⟩
          case measure => simp [RowKit.intOf]; omega
        · obtain rfl : m8 = k := by omega
          go_wp2_with fail
          refine (sameTexts_any A8 A6 c8 c6 m8 T _ HM.out (by omega) (own_srcS OB.out) (S6.out.below HB.out)).mono ?_
          rintro e w10 ⟨rfl, q2, rfl⟩
          go_wp2_with fail
          go_ret
          exact ⟨rfl, below_dr (bt B6.out HB.out) q2⟩
end Go.Proofs.YtaoekpedjgnnjaaDoor.Wd
