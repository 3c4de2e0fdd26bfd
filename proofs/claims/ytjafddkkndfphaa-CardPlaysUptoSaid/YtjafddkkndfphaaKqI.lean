/- A step of the script that enters a card, walked. -/
import Derived.Test.YtjafddkkndfphaaKqH
import Derived.Test.YtjafddkkndfphaaKrW
namespace Go.Proofs.Ytjafddkkndfphaa.Kq
open Go.ChangeShapes Go.WideShapes Go.ChangeAt Go.RowKit Own Ro wordsNames Kc Kr

theorem enter_own (d : Cd) (g : Nat) (C F : Cs) (N : List Nt) (z : Bool) (A : Option Addr) (c n base : Nat) (w : World) (hm : MildC 1099511627776 d) (h : RegAt w g C F N z) (hn : n = d.compat.length) (ho : w.ownsRow base 9 1 (.slice A n c) n (strs d.compat)) :
    Calls Try.prog 12 #[.pointer (some ⟨g, 0, none⟩), cardV d (A, n, c)] w (EnterPost g C F N z d w) :=
  enter_any g C F N z d (A, n, c) w h hm hn (own_neat ho).1 (own_neat ho).2 (own_cells ho)
theorem Ch.trans {S : Nat → Prop} {a b c : World} (h : Ch S a b) (h2 : Ch S b c) : Ch S a c :=
  ⟨h2.os.trans h.os, h2.tape.trans h.tape, h2.output.trans h.output, Nat.le_trans h.size h2.size, fun k x1 x2 => (h2.block k (Nat.lt_of_lt_of_le x1 h.size) x2).trans (h.block k x1 x2)⟩
theorem Ch.news {S S' : Nat → Prop} {a b c : World} (h : Ch S a b) (h2 : Ch S' b c) (hn : ∀ y, S' y → a.heap.size ≤ y) : Ch S a c :=
  ⟨h2.os.trans h.os, h2.tape.trans h.tape, h2.output.trans h.output, Nat.le_trans h.size h2.size, fun k x1 x2 => (h2.block k (Nat.lt_of_lt_of_le x1 h.size) (fun e => by have := hn k e; omega)).trans (h.block k x1 x2)⟩
theorem qat_g {w W : World} {g q : Nat} {C F : Cs} {N : List Nt} {z : Bool} {c f n : Sl} {RC RF : List Sl} (h : Pr w g q C F N z c f n RC RF) (hWc : Ch (fun k => k = g) w W) : Qat W q c f n (Kr.plain C) (Kr.plain F) RC RF N z := by
  refine h.r.ch hWc (fun e => type_ne h.r.blk h.p.blk (by decide) e) (fun y hy e => ?_) (fun y cur fr hy e => type_ne hy h.p.blk (by decide) e)
  rcases hy with hy | hy | hy
  · obtain ⟨_, _, t⟩ := own_type h.r.cl.2.1 hy
    exact type_ne t h.p.blk (by decide) e
  · obtain ⟨_, _, t⟩ := own_type h.r.fl.2.1 hy
    exact type_ne t h.p.blk (by decide) e
  · obtain ⟨_, _, t⟩ := own_type h.r.nl hy
    exact type_ne t h.p.blk (by decide) e
set_option maxRecDepth 100000 in
set_option maxHeartbeats 16000000 in
theorem step_enter {g q : Nat} {C F : Cs} {N : List Nt} {z : Bool} {c f n : Sl} {RC RF : List Sl} (s : Sp) (r : Sl) (w : World) (h : Pr w g q C F N z c f n RC RF) (hm : MildC 1099511627776 s.card) (hr : r.2.1 = s.card.compat.length) (hne : Neat r)
    (hs : CellsIn w 1 r.1 r.2.1 (strs s.card.compat)) (hsr : 0 < r.2.1 → ∀ a, r.1 = some a → ¬ Wr g q c f n a.block) (hk1 : s.kind ≠ 1) (hk2 : s.kind ≠ 2) (hk3 : s.kind ≠ 3) :
    Calls Try.prog 31 #[.pointer (some ⟨g, 0, none⟩), .pointer (some ⟨q, 0, none⟩), spV s r] w fun e w' => e = .returned (.bool true) ∧ Stepped g q C F c f n w w' := by
  have HPR := Lib.hid h
  have HM := Lib.hid hm
  have HR := Lib.hid hr
  have b1 := Lib.hid (grows' w (.cells ⟨spCells s r⟩ 66))
  have HSX : Hid (∀ V, Ch (Wr g q c f n) w V → CellsIn V 1 r.1 r.2.1 (strs s.card.compat)) := Lib.hid (fun V hV => if hp : 0 < r.2.1 then cells_ch hs hV (hsr hp) else ⟨hs.1, .inl (by omega)⟩)
  have hgl := h.p.blk.lt
  have HTW := Lib.hid (fun V (hV : Ch (Wr g q c f n) w V) => twin_any s.card r V hm hr hne (HSX.out V hV))
  have HEN := Lib.hid (fun (A : Option Addr) (c' n' base : Nat) V (hV : Below w.heap.size w V) (hn : n' = s.card.compat.length) (ho : V.ownsRow base 9 1 (.slice A n' c') n' (strs s.card.compat)) => enter_own s.card g C F N z A c' n' base V hm (h.p.below hV) hn ho)
  have HSA := Lib.hid (fun (A : Option Addr) (c' n' base : Nat) V (hV : Ch (Wr g q c f n) w V) (hn : n' = s.card.compat.length) (ho : V.ownsRow base 9 1 (.slice A n' c') n' (strs s.card.compat)) => refSame_any s.card s.card (A, n', c') r true V (by simp) hm hm hn hr (own_cells ho) (HSX.out V hV))
  have HRE := Lib.hid (fun V (hQ : Qat V q c f n (Kr.plain C) (Kr.plain F) RC RF N z) (hV : Ch (Wr g q c f n) w V) => rEnter_any s.card r V hQ hm hr hne (HSX.out V hV))
  have HBOX : Hid (∀ V, Ch (Wr g q c f n) (w.alloc (.cells ⟨spCells s r⟩ 66)) V → V.cell? ⟨w.heap.size, 2, none⟩ = some (.string (str s.card.name)) ∧ V.cell? ⟨w.heap.size, 3, none⟩ = some (.string (str s.card.fam)) ∧ V.cell? ⟨w.heap.size, 4, none⟩ = some (.int .u8 s.card.level) ∧ V.cell? ⟨w.heap.size, 5, none⟩ = some (slV r) ∧ V.cell? ⟨w.heap.size, 6, none⟩ = some (.int .i8 s.card.score) ∧ V.cell? ⟨w.heap.size, 7, none⟩ = some (.string (str s.card.quirk)) ∧ V.cell? ⟨w.heap.size, 8, none⟩ = some (.int .i16 s.card.entry)) := Lib.hid (fun V hV => by
    have hne : ¬ Wr g q c f n w.heap.size := fun e => by
      rcases e with e | e
      · omega
      · obtain ⟨_, _, _, ht, _⟩ := h.r.types e
        have := (Array.getElem?_eq_some_iff.1 ht).1
        omega
    have hb := hV.block w.heap.size (by simp) hne
    exact ⟨(World.cell?_of_block hb).trans (spBox w s r _ 2 _ rfl), (World.cell?_of_block hb).trans (spBox w s r _ 3 _ rfl), (World.cell?_of_block hb).trans (spBox w s r _ 4 _ rfl), (World.cell?_of_block hb).trans (spBox w s r _ 5 _ rfl), (World.cell?_of_block hb).trans (spBox w s r _ 6 _ rfl), (World.cell?_of_block hb).trans (spBox w s r _ 7 _ rfl), (World.cell?_of_block hb).trans (spBox w s r _ 8 _ rfl)⟩)
  have k1 := spBox w s r 66 1 _ rfl
  obtain ⟨k2, k3, k4, k5, k6, k7, k8⟩ := HBOX.out _ (Ch.refl _ _)
  clear h hm hr hne hs hsr
  obtain ⟨who, kind, card, pack, init, sum⟩ := s
  simp only at hk1 hk2 hk3
  have d1 : decide (kind = 1) = false := decide_eq_false hk1
  have d2 : decide (kind = 2) = false := decide_eq_false hk2
  have d3 : decide (kind = 3) = false := decide_eq_false hk3
  unfold spV
  unfold spCells at k1 k2 k3 k4 k5 k6 k7 k8 b1 HBOX ⊢
  simp only at k1 k2 k3 k4 k5 k6 k7 k8 b1 HBOX HM HR HSX HTW HEN HSA HRE ⊢
  obtain ⟨nm, fm, lv, cp, sc, qk, en⟩ := card
  simp only at k1 k2 k3 k4 k5 k6 k7 k8 b1 HBOX ⊢
  obtain ⟨ra, rn, rc⟩ := r
  unfold slV at k5
  unfold slV at b1 HBOX ⊢
  simp only at k5 b1 HBOX ⊢
  go_enter Try.func31, Try.ntmps31
  go_wp2_with fail
  refine (HTW.out _ (Ch.of_below b1.out)).mono ?_
  rintro e w2 ⟨A, c2, n2, rfl, hn2, ho2, hb2⟩
  have HN2 := Lib.hid hn2
  have HO2 : Hid (w2.ownsRow (w.heap.size + 1) 9 1 (.slice A n2 c2) n2 (strs cp)) := Lib.hid (own_monoK ho2 (by simp))
  have HB2 := Lib.hid (bt b1.out hb2)
  have HD2 := Lib.hid hb2
  clear hn2 ho2 hb2 k1
  obtain ⟨k2, k3, k4, k5, k6, k7, k8⟩ := HBOX.out w2 (Ch.of_below HD2.out)
  have hsz2 : w.heap.size < w2.heap.size := by have := HD2.out.size; simp at this; omega
  simp only [cardV, cells7, slV]
  go_wp2_with (first | refine wpList_store_new (op := ⟨none, .store 30 (.tmp 9) (.tmp 100), _, _, _, _⟩) rfl 30 (.tmp 9) (.tmp 100) rfl _ #[.string (str nm), .string (str fm), .int .u8 lv, .slice A n2 c2, .int .i8 sc, .string (str qk), .int .i16 en] rfl rfl (by kernel_rfl) (by rfl) (by rfl) ?_)
  clear k2 k3 k4 k5 k6 k7 k8
  have HB3 := Lib.hid (bt HB2.out (grows' w2 (.cells #[.string (str nm), .string (str fm), .int .u8 lv, .slice A n2 c2, .int .i8 sc, .string (str qk), .int .i16 en] 30)))
  have HD3 := Lib.hid (bt HD2.out (grows' w2 (.cells #[.string (str nm), .string (str fm), .int .u8 lv, .slice A n2 c2, .int .i8 sc, .string (str qk), .int .i16 en] 30)))
  have HO3 := Lib.hid (own_belowK HO2.out (grows' w2 (.cells #[.string (str nm), .string (str fm), .int .u8 lv, .slice A n2 c2, .int .i8 sc, .string (str qk), .int .i16 en] 30)))
  have HH3 := Lib.hid (heap_alloc_new w2 (.cells #[.string (str nm), .string (str fm), .int .u8 lv, .slice A n2 c2, .int .i8 sc, .string (str qk), .int .i16 en] 30))
  have hsz3 : w2.heap.size < (w2.alloc (.cells #[.string (str nm), .string (str fm), .int .u8 lv, .slice A n2 c2, .int .i8 sc, .string (str qk), .int .i16 en] 30)).heap.size := by simp
  have HLB : Hid (∀ y, (Value.slice A n2 c2).ownBlock = some y → y < w2.heap.size) := Lib.hid (fun y hy => (HO2.out.lt y hy).2)
  have HLA : Hid (∀ y, (Value.slice A n2 c2).ownBlock = some y → w.heap.size + 1 ≤ y) := Lib.hid (fun y hy => (HO2.out.lt y hy).1)
  refine (HEN.out A c2 n2 (w.heap.size + 1) _ HB3.out HN2.out HO3.out).mono ?_
  clear HEN HTW HB2 HD2 HO2
  generalize w2.alloc (.cells #[.string (str nm), .string (str fm), .int .u8 lv, .slice A n2 c2, .int .i8 sc, .string (str qk), .int .i16 en] 30) = w3 at HB3 HD3 HO3 HH3 hsz3
  rintro e w4 ⟨C1, F1, e1, rfl, h1, hgb, her⟩
  have H1 := Lib.hid h1
  have HGB := Lib.hid hgb
  have HER := Lib.hid her
  clear h1 hgb her
  have HH4 := Lib.hid ((HGB.out.block w2.heap.size hsz3 (fun e => by injection e; omega)).trans HH3.out)
  have HO4 := Lib.hid (own_keptLow HO3.out HGB.out (Nat.lt_succ_of_lt hgl))
  have HC4 := Lib.hid (show Ch (Wr g q c f n) (w.alloc (.cells ⟨[.int .i64 who, .int .i64 kind, .string (str nm), .string (str fm), .int .u8 lv, .slice ra rn rc, .int .i8 sc, .string (str qk), .int .i16 en, .string (str pack), .int .i64 init, .int .i64 sum]⟩ 66)) w4 from (Ch.of_below HD3.out).trans (ch_gb HGB.out))
  have HW4 := Lib.hid ((Ch.of_below b1.out).trans HC4.out)
  obtain ⟨k2, k3, k4, k5, k6, k7, k8⟩ := HBOX.out w4 HC4.out
  have u0 := Lib.cell_of_heap HH4.out 0
  have u1 := Lib.cell_of_heap HH4.out 1
  have u2 := Lib.cell_of_heap HH4.out 2
  have u3 := Lib.cell_of_heap HH4.out 3
  have u4 := Lib.cell_of_heap HH4.out 4
  have u5 := Lib.cell_of_heap HH4.out 5
  have u6 := Lib.cell_of_heap HH4.out 6
  simp only [List.getElem?_toArray, List.getElem?_cons_zero, List.getElem?_cons_succ] at u0 u1 u2 u3 u4 u5 u6
  have hsz4 : w3.heap.size ≤ w4.heap.size := HGB.out.size
  clear HO3 HD3 HH3
  go_wp2_with fail
  refine (HSA.out A c2 n2 (w.heap.size + 1) w4 HW4.out HN2.out HO4.out).mono ?_
  clear HSA u0 u1 u2 u3 u4 u5 u6 k2 k3 k4 k5 k6 k7 k8
  rintro e w5 ⟨rfl, hb5⟩
  have HB5 := Lib.hid hb5
  clear hb5
  have HO5 := Lib.hid (own_belowK HO4.out HB5.out)
  have HH5 := Lib.hid ((HB5.out.block w2.heap.size (by omega)).trans HH4.out)
  have hsz5 : w4.heap.size ≤ w5.heap.size := HB5.out.size
  have hn2 : (n2 : Int) ≤ 1099511627776 := by have := HM.out.2.2.2.1; have h2 := HN2.out; simp only at this; omega
  go_wp2_with fail
  clear HO4 HH4
  go_loopw [11] (fun v11 wx => ∃ k : Nat, k ≤ n2 ∧ v11 = .int .i64 (k : Int) ∧ wx.heap[w2.heap.size]? = w5.heap[w2.heap.size]? ∧ Ch (fun y => (Value.slice A n2 c2).ownBlock = some y) w5 wx ∧ ∃ ys, wx.ownsRow (w.heap.size + 1) 9 1 (.slice A n2 c2) n2 ys) (fun v11 _ => n2 - (RowKit.intOf v11).toNat)
  case atStart => exact ⟨0, by omega, rfl, rfl, Ch.refl _ _, _, HO5.out⟩
  case round =>
    obtain ⟨k, hk, rfl, hbx, hch, ys, hown⟩ := hrel
    have HBX := Lib.hid (hbx.trans HH5.out)
    have HCH := Lib.hid hch
    have HOW := Lib.hid hown
    have u3 := Lib.cell_of_heap HBX.out 3
    simp only [List.getElem?_toArray, List.getElem?_cons_zero, List.getElem?_cons_succ] at u3
    clear hbx hch hown HO5
    by_cases hlt : k < n2
    · have i1 : (0 : Int) ≤ (k : Int) := by omega
      have i2 : (k : Int) < (n2 : Int) := by omega
      obtain ⟨gi, rfl, hgi, _⟩ := own_shapeK HOW.out (by omega)
      obtain ⟨u, hu⟩ : ∃ u, ys[k]? = some u := ⟨_, List.getElem?_eq_getElem (by rw [HOW.out.1]; omega)⟩
      have t0 : wr.cell? ⟨gi, k, none⟩ = some u := by rw [HOW.out.cellAt k (by omega)]; exact hu
      have t1 := HOW.out.frozenAt k
      clear hu
      go_wp2_with fail
      go_roundw
      case rel =>
        refine ⟨k + 1, by omega, by go_num, ?_, HCH.out.set (p := ⟨gi, k, none⟩) (.inl rfl) _, own_text (r := (some ⟨gi, 0, none⟩, n2, c2)) HOW.out⟩
        have := HLB.out gi rfl
        rw [Below.heap_setCell _ _ _ _ (show w2.heap.size ≠ gi by omega)]
        exact HBX.out.trans HH5.out.symm
      case measure => simp [RowKit.intOf]; omega
    · have hge : decide ((k : Int) < (n2 : Int)) = false := decide_eq_false (by omega)
      have HC6 := Lib.hid ((HC4.out.below HB5.out).news HCH.out (fun y hy => by have := HLA.out y hy; simp only [World.alloc, Array.size_push]; exact this))
      have HV6 := Lib.hid ((HW4.out.below HB5.out).news HCH.out (fun y hy => by have := HLA.out y hy; omega))
      obtain ⟨k2, k3, k4, k5, k6, k7, k8⟩ := HBOX.out wr HC6.out
      have hsz6 : w5.heap.size ≤ wr.heap.size := HCH.out.size
      clear HOW
      have HGC := Lib.hid ((((Ch.of_below HB3.out).grown (S := fun k => k = g) HGB.out (fun k hk => by injection hk with hk; exact .inl hk.symm)).below HB5.out).news HCH.out (fun y hy => by have := HLA.out y hy; omega))
      have HRX := Lib.hid (regAt_ch (H1.out.below HB5.out) HCH.out (fun e => by have := HLA.out g e; omega) (fun y hy e => by
        have a1 := HLA.out y e
        have a2 := HLB.out y e
        rcases tx_new HER.out H1.out y hy with h2 | h2
        · have := HPR.out.lt y h2; omega
        · omega))
      go_wp2_with fail
      refine (HRE.out wr (qat_g HPR.out HGC.out) HV6.out).mono ?_
      clear HRE k2 k3 k4 k5 k6 k7 k8 u3
      rintro e w7 ⟨L1, G1, e2, c', f', RC', RF', rfl, hq, hc, he, hfc, hff⟩
      obtain ⟨rfl, hst⟩ := entered HPR.out HB3.out H1.out HGB.out HER.out HRX.out HGC.out (by omega) hq hc he hfc hff
      have HST := Lib.hid hst
      clear hq hc he hfc hff hst HER
      go_wp2_with fail
      go_ret
      exact ⟨rfl, HST.out⟩
end Go.Proofs.Ytjafddkkndfphaa.Kq
