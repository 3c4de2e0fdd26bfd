/- Steps of the script where there is no registry. -/
import Derived.Test.YtjafddkkndfphaaKqI
namespace Go.Proofs.Ytjafddkkndfphaa.Kq
open Go.ChangeShapes Go.WideShapes Go.ChangeAt Go.RowKit Own Ro wordsNames Kc Kr

set_option maxRecDepth 100000 in
set_option maxHeartbeats 16000000 in
theorem nil_mark (s : Sp) (r : Sl) (w : World) (hk : s.kind = 1) :
    Calls Try.prog 31 #[.pointer none, .pointer none, spV s r] w fun e w' => e = .returned (.bool true) ∧ Below w.heap.size w w' := by
  have b1 := Lib.hid (grows' w (.cells ⟨spCells s r⟩ 66))
  have k1 := spBox w s r 66 1 _ rfl
  have k9 := spBox w s r 66 9 _ rfl
  have k10 := spBox w s r 66 10 _ rfl
  have k11 := spBox w s r 66 11 _ rfl
  obtain ⟨who, kind, card, pack, init, sum⟩ := s
  simp only at hk
  subst hk
  unfold spV
  unfold spCells at k1 k9 k10 k11 b1 ⊢
  simp only at k1 k9 k10 k11 b1 ⊢
  go_enter Try.func31, Try.ntmps31
  go_wp2_with fail
  refine (mark_nil pack init sum _).mono ?_
  rintro e W ⟨rfl, rfl⟩
  go_wp2_with fail
  go_ret
  exact ⟨rfl, b1.out⟩
set_option maxRecDepth 100000 in
set_option maxHeartbeats 16000000 in
theorem nil_freeze (s : Sp) (r : Sl) (w : World) (hk : s.kind = 2) :
    Calls Try.prog 31 #[.pointer none, .pointer none, spV s r] w fun e w' => e = .returned (.bool true) ∧ Below w.heap.size w w' := by
  have b1 := Lib.hid (grows' w (.cells ⟨spCells s r⟩ 66))
  have k1 := spBox w s r 66 1 _ rfl
  have k9 := spBox w s r 66 9 _ rfl
  have k10 := spBox w s r 66 10 _ rfl
  have k11 := spBox w s r 66 11 _ rfl
  obtain ⟨who, kind, card, pack, init, sum⟩ := s
  simp only at hk
  subst hk
  unfold spV
  unfold spCells at k1 k9 k10 k11 b1 ⊢
  simp only at k1 k9 k10 k11 b1 ⊢
  go_enter Try.func31, Try.ntmps31
  go_wp2_with fail
  refine (freeze_nil _).mono ?_
  rintro e W ⟨rfl, rfl⟩
  go_wp2_with fail
  go_ret
  exact ⟨rfl, b1.out⟩
set_option maxRecDepth 100000 in
set_option maxHeartbeats 16000000 in
theorem nil_tell (s : Sp) (r : Sl) (w : World) (hk : s.kind = 3) :
    Calls Try.prog 31 #[.pointer none, .pointer none, spV s r] w fun e w' => e = .returned (.bool true) ∧ Below w.heap.size w w' := by
  have b1 := Lib.hid (grows' w (.cells ⟨spCells s r⟩ 66))
  have k1 := spBox w s r 66 1 _ rfl
  have k9 := spBox w s r 66 9 _ rfl
  have k10 := spBox w s r 66 10 _ rfl
  have k11 := spBox w s r 66 11 _ rfl
  obtain ⟨who, kind, card, pack, init, sum⟩ := s
  simp only at hk
  subst hk
  unfold spV
  unfold spCells at k1 k9 k10 k11 b1 ⊢
  simp only at k1 k9 k10 k11 b1 ⊢
  go_enter Try.func31, Try.ntmps31
  go_wp2_with fail
  refine (cards_nil _).mono ?_
  rintro e W ⟨rfl, rfl⟩
  go_wp2_with fail
  refine (refused_nil _).mono ?_
  rintro e W ⟨rfl, rfl⟩
  go_wp2_with fail
  refine (notes_nil _).mono ?_
  rintro e W ⟨rfl, rfl⟩
  go_wp2_with fail
  refine (frozen_nil _).mono ?_
  rintro e W ⟨rfl, rfl⟩
  go_wp2_with fail
  go_ret
  exact ⟨rfl, b1.out⟩
set_option maxRecDepth 100000 in
set_option maxHeartbeats 16000000 in
theorem nil_enter (s : Sp) (r : Sl) (w : World) (hm : MildC 1099511627776 s.card) (hr : r.2.1 = s.card.compat.length) (hne : Neat r)
    (hs : CellsIn w 1 r.1 r.2.1 (strs s.card.compat)) (hk1 : s.kind ≠ 1) (hk2 : s.kind ≠ 2) (hk3 : s.kind ≠ 3) :
    Calls Try.prog 31 #[.pointer none, .pointer none, spV s r] w fun e w' => e = .returned (.bool true) ∧ Below w.heap.size w w' := by
  have HM := Lib.hid hm
  have b1 := Lib.hid (grows' w (.cells ⟨spCells s r⟩ 66))
  have HTW := Lib.hid (fun V (hV : Below w.heap.size w V) => twin_any s.card r V hm hr hne (hs.below hV))
  have HEN := Lib.hid (fun (A : Option Addr) (c' n' : Nat) V => enter_nil s.card (A, n', c') V)
  have HSA := Lib.hid (fun (A : Option Addr) (c' n' base : Nat) V (hV : Below w.heap.size w V) (hn : n' = s.card.compat.length) (ho : V.ownsRow base 9 1 (.slice A n' c') n' (strs s.card.compat)) => refSame_any s.card s.card (A, n', c') r true V (by simp) hm hm hn hr (own_cells ho) (hs.below hV))
  have HBOX : Hid (∀ V, Below (w.alloc (.cells ⟨spCells s r⟩ 66)).heap.size (w.alloc (.cells ⟨spCells s r⟩ 66)) V → V.cell? ⟨w.heap.size, 2, none⟩ = some (.string (str s.card.name)) ∧ V.cell? ⟨w.heap.size, 3, none⟩ = some (.string (str s.card.fam)) ∧ V.cell? ⟨w.heap.size, 4, none⟩ = some (.int .u8 s.card.level) ∧ V.cell? ⟨w.heap.size, 5, none⟩ = some (slV r) ∧ V.cell? ⟨w.heap.size, 6, none⟩ = some (.int .i8 s.card.score) ∧ V.cell? ⟨w.heap.size, 7, none⟩ = some (.string (str s.card.quirk)) ∧ V.cell? ⟨w.heap.size, 8, none⟩ = some (.int .i16 s.card.entry)) := Lib.hid (fun V hV => by
    have hb := hV.block w.heap.size (by simp)
    exact ⟨(World.cell?_of_block hb).trans (spBox w s r _ 2 _ rfl), (World.cell?_of_block hb).trans (spBox w s r _ 3 _ rfl), (World.cell?_of_block hb).trans (spBox w s r _ 4 _ rfl), (World.cell?_of_block hb).trans (spBox w s r _ 5 _ rfl), (World.cell?_of_block hb).trans (spBox w s r _ 6 _ rfl), (World.cell?_of_block hb).trans (spBox w s r _ 7 _ rfl), (World.cell?_of_block hb).trans (spBox w s r _ 8 _ rfl)⟩)
  have k1 := spBox w s r 66 1 _ rfl
  obtain ⟨k2, k3, k4, k5, k6, k7, k8⟩ := HBOX.out _ (Below.refl _ _)
  clear hm hr hne hs
  obtain ⟨who, kind, card, pack, init, sum⟩ := s
  simp only at hk1 hk2 hk3
  have d1 : decide (kind = 1) = false := decide_eq_false hk1
  have d2 : decide (kind = 2) = false := decide_eq_false hk2
  have d3 : decide (kind = 3) = false := decide_eq_false hk3
  unfold spV
  unfold spCells at k1 k2 k3 k4 k5 k6 k7 k8 b1 HBOX ⊢
  simp only at k1 k2 k3 k4 k5 k6 k7 k8 b1 HBOX HM HTW HEN HSA ⊢
  obtain ⟨nm, fm, lv, cp, sc, qk, en⟩ := card
  simp only at k1 k2 k3 k4 k5 k6 k7 k8 b1 HBOX ⊢
  obtain ⟨ra, rn, rc⟩ := r
  unfold slV at k5
  unfold slV at b1 HBOX ⊢
  simp only at k5 b1 HBOX ⊢
  go_enter Try.func31, Try.ntmps31
  go_wp2_with fail
  refine (HTW.out _ b1.out).mono ?_
  rintro e w2 ⟨A, c2, n2, rfl, hn2, ho2, hb2⟩
  have HN2 := Lib.hid hn2
  have HLB : Hid (∀ y, (Value.slice A n2 c2).ownBlock = some y → y < w2.heap.size) := Lib.hid (fun y hy => (ho2.lt y hy).2)
  have HO2 : Hid (w2.ownsRow (w.heap.size + 1) 9 1 (.slice A n2 c2) n2 (strs cp)) := Lib.hid (own_monoK ho2 (by simp))
  have HB2 := Lib.hid (bt b1.out hb2)
  have HD2 := Lib.hid hb2
  clear hn2 ho2 hb2 k1
  obtain ⟨k2, k3, k4, k5, k6, k7, k8⟩ := HBOX.out w2 HD2.out
  have hsz2 : w.heap.size < w2.heap.size := by have := HD2.out.size; simp at this; omega
  simp only [cardV, cells7, slV]
  go_wp2_with (first | refine wpList_store_new (op := ⟨none, .store 30 (.tmp 9) (.tmp 100), _, _, _, _⟩) rfl 30 (.tmp 9) (.tmp 100) rfl _ #[.string (str nm), .string (str fm), .int .u8 lv, .slice A n2 c2, .int .i8 sc, .string (str qk), .int .i16 en] rfl rfl (by kernel_rfl) (by rfl) (by rfl) ?_)
  clear k2 k3 k4 k5 k6 k7 k8
  have HB3 := Lib.hid (bt HB2.out (grows' w2 (.cells #[.string (str nm), .string (str fm), .int .u8 lv, .slice A n2 c2, .int .i8 sc, .string (str qk), .int .i16 en] 30)))
  have HD3 := Lib.hid (bt HD2.out (grows' w2 (.cells #[.string (str nm), .string (str fm), .int .u8 lv, .slice A n2 c2, .int .i8 sc, .string (str qk), .int .i16 en] 30)))
  have HO3 := Lib.hid (own_belowK HO2.out (grows' w2 (.cells #[.string (str nm), .string (str fm), .int .u8 lv, .slice A n2 c2, .int .i8 sc, .string (str qk), .int .i16 en] 30)))
  have HH3 := Lib.hid (heap_alloc_new w2 (.cells #[.string (str nm), .string (str fm), .int .u8 lv, .slice A n2 c2, .int .i8 sc, .string (str qk), .int .i16 en] 30))
  have hsz3 : w2.heap.size < (w2.alloc (.cells #[.string (str nm), .string (str fm), .int .u8 lv, .slice A n2 c2, .int .i8 sc, .string (str qk), .int .i16 en] 30)).heap.size := by simp
  clear HTW HB2 HD2 HO2
  refine (HEN.out A c2 n2 _).mono ?_
  generalize w2.alloc (.cells #[.string (str nm), .string (str fm), .int .u8 lv, .slice A n2 c2, .int .i8 sc, .string (str qk), .int .i16 en] 30) = w3 at HB3 HD3 HO3 HH3 hsz3
  rintro e w4 ⟨rfl, hb4⟩
  have HB4 := Lib.hid (bt HB3.out hb4)
  have HD4 := Lib.hid (bt HD3.out hb4)
  have HO4 := Lib.hid (own_belowK HO3.out hb4)
  have HH4 := Lib.hid ((hb4.block w2.heap.size hsz3).trans HH3.out)
  have hsz4 : w3.heap.size ≤ w4.heap.size := hb4.size
  clear hb4 HB3 HD3 HO3 HH3 HEN
  obtain ⟨k2, k3, k4, k5, k6, k7, k8⟩ := HBOX.out w4 HD4.out
  have u0 := Lib.cell_of_heap HH4.out 0
  have u1 := Lib.cell_of_heap HH4.out 1
  have u2 := Lib.cell_of_heap HH4.out 2
  have u3 := Lib.cell_of_heap HH4.out 3
  have u4 := Lib.cell_of_heap HH4.out 4
  have u5 := Lib.cell_of_heap HH4.out 5
  have u6 := Lib.cell_of_heap HH4.out 6
  simp only [List.getElem?_toArray, List.getElem?_cons_zero, List.getElem?_cons_succ] at u0 u1 u2 u3 u4 u5 u6
  go_wp2_with fail
  refine (HSA.out A c2 n2 (w.heap.size + 1) w4 HB4.out HN2.out HO4.out).mono ?_
  clear HSA u0 u1 u2 u3 u4 u5 u6 k2 k3 k4 k5 k6 k7 k8
  rintro e w5 ⟨rfl, hb5⟩
  have HB5 := Lib.hid (bt HB4.out hb5)
  have HO5 := Lib.hid (own_belowK HO4.out hb5)
  have HH5 := Lib.hid ((hb5.block w2.heap.size (by omega)).trans HH4.out)
  have hsz5 : w4.heap.size ≤ w5.heap.size := hb5.size
  clear hb5
  have hn2 : (n2 : Int) ≤ 1099511627776 := by have := HM.out.2.2.2.1; have h2 := HN2.out; simp only at this; omega
  go_wp2_with fail
  clear HO4 HH4 HB4 HD4 HBOX
  go_loopw [11] (fun v11 wx => ∃ k : Nat, k ≤ n2 ∧ v11 = .int .i64 (k : Int) ∧ wx.heap[w2.heap.size]? = w5.heap[w2.heap.size]? ∧ Below w.heap.size w wx ∧ ∃ ys, wx.ownsRow (w.heap.size + 1) 9 1 (.slice A n2 c2) n2 ys) (fun v11 _ => n2 - (RowKit.intOf v11).toNat)
  case atStart => exact ⟨0, by omega, rfl, rfl, HB5.out, _, HO5.out⟩
  case round =>
    obtain ⟨k, hk, rfl, hbx, hch, ys, hown⟩ := hrel
    have HBX := Lib.hid (hbx.trans HH5.out)
    have HCH := Lib.hid hch
    have HOW := Lib.hid hown
    have u3 := Lib.cell_of_heap HBX.out 3
    simp only [List.getElem?_toArray, List.getElem?_cons_zero, List.getElem?_cons_succ] at u3
    clear hbx hch hown HO5
    by_cases hlt : k < n2
    · have i1 : (0 : Int) ≤ (k : Int) := by omega
      have i2 : (k : Int) < (n2 : Int) := by omega
      obtain ⟨gi, rfl, hgi, _⟩ := own_shapeK HOW.out (by omega)
      obtain ⟨u, hu⟩ : ∃ u, ys[k]? = some u := ⟨_, List.getElem?_eq_getElem (by rw [HOW.out.1]; omega)⟩
      have t0 : wr.cell? ⟨gi, k, none⟩ = some u := by rw [HOW.out.cellAt k (by omega)]; exact hu
      have t1 := HOW.out.frozenAt k
      clear hu
      go_wp2_with fail
      go_roundw
      case rel =>
        refine ⟨k + 1, by omega, by go_num, ?_, HCH.out.setCell (p := ⟨gi, k, none⟩) (by show w.heap.size ≤ gi; omega) _, own_text (r := (some ⟨gi, 0, none⟩, n2, c2)) HOW.out⟩
        have := HLB.out gi rfl
        rw [Below.heap_setCell _ _ _ _ (show w2.heap.size ≠ gi by omega)]
        exact HBX.out.trans HH5.out.symm
      case measure => simp [RowKit.intOf]; omega
    · have hge : decide ((k : Int) < (n2 : Int)) = false := decide_eq_false (by omega)
      clear HOW
      go_wp2_with fail
      go_ret
      exact ⟨rfl, HCH.out⟩
end Go.Proofs.Ytjafddkkndfphaa.Kq
