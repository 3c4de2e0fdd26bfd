/- Cards with a mark behind their lists: the law's lentCards. -/
import Derived.Test.YtnnaoneegeenkaaMvD
namespace Go.Proofs.Ytnnaoneegeenkaa.Mv
open Go.ChangeShapes Go.WideShapes Go.ChangeAt Go.RowKit Own Ro Kc wordsNames Go.Maps Go.WideMaps
open Mt

/-- While the marks are put: the first i rows have theirs. -/
structure Mid (W : World) (base : Nat) (A : Option Addr) (n c i : Nat) (L : List Cd) (R0 R : List Sl) : Prop where
  rn : R.length = L.length
  hd : W.ownsRow base 37 7 (.slice A n c) n (KC.rows L R)
  old : ∀ k, i ≤ k → k < n → R.getD k sl0 = R0.getD k sl0 ∧ CellsIn W 1 (R0.getD k sl0).1 (R0.getD k sl0).2.1 (strs (L.getD k cd0).compat)
  len : ∀ k, k < i → (R.getD k sl0).2.1 = (L.getD k cd0).compat.length
  inn : ∀ k, k < i → W.ownsRow base 9 1 (innV (R.getD k sl0)) ((R.getD k sl0).2.1 + 1) (strs (L.getD k cd0).compat ++ [.string (str markT)])
  ne : ∀ j k, j < i → k < i → j ≠ k → (innV (R.getD j sl0)).ownBlock ≠ (innV (R.getD k sl0)).ownBlock
theorem Mid.below {W V : World} {base n c i : Nat} {A : Option Addr} {L : List Cd} {R0 R : List Sl} (h : Mid W base A n c i L R0 R) (hb : Below W.heap.size W V) : Mid V base A n c i L R0 R :=
  ⟨h.rn, own_belowK h.hd hb, fun k h1 h2 => ⟨(h.old k h1 h2).1, (h.old k h1 h2).2.below hb⟩, h.len, fun k hk => own_belowK (h.inn k hk) hb, h.ne⟩
theorem own_some {w : World} {base m : Nat} {r : Sl} {xs : List Value} (h : w.ownsRow base 9 1 (innV r) (m + 1) xs) : ∃ g, r.1 = some ⟨g, 0, none⟩ ∧ (innV r).ownBlock = some g ∧ base ≤ g ∧ g < w.heap.size := by
  unfold innV at h ⊢
  obtain ⟨A, n, c⟩ := r
  rcases h.2 with ⟨h', _⟩ | ⟨g, cap, cur, h', hb, hg, _⟩
  · simp at h'
  · simp only [Value.slice.injEq] at h'
    obtain ⟨rfl, _, _⟩ := h'
    refine ⟨g, rfl, rfl, hb, (Array.getElem?_eq_some_iff.1 hg).1⟩
theorem Mid.step {W : World} {base c i n g g3 c3 m b3 : Nat} {L : List Cd} {R0 R : List Sl} (h : Mid W base (some ⟨g, 0, none⟩) n c i L R0 R) (hn : n = L.length) (hi : i < n) (hm : m = (L.getD i cd0).compat.length)
    (hne0 : ∀ k, k < n → ∀ a, (R0.getD k sl0).1 = some a → a.block ≠ g) (ho : W.ownsRow b3 9 1 (.slice (some ⟨g3, 0, none⟩) (m + 1) c3) (m + 1) (strs (L.getD i cd0).compat ++ [.string (str markT)])) (hb : base ≤ b3) (hgb : g < b3)
    (hlow : ∀ k, k < i → ∀ q, (innV (R.getD k sl0)).ownBlock = some q → q < b3) :
    Mid (W.setCell ⟨g, i * 7 + 3, none⟩ (.slice (some ⟨g3, 0, none⟩) m c3)) base (some ⟨g, 0, none⟩) n c (i + 1) L R0 (R.set i (some ⟨g3, 0, none⟩, m, c3)) := by
  have hiR : i < R.length := by rw [h.rn, ← hn]; exact hi
  have hst := h.hd.stored (i * 7 + 3) (.slice (some ⟨g3, 0, none⟩) m c3)
  have e := rows_setR L R i (some ⟨g3, 0, none⟩, m, c3) h.rn.symm (by rw [← hn]; exact hi)
  have hr : (KC.rows L R).set (i * 7 + 3) (.slice (some ⟨g3, 0, none⟩) m c3) = KC.rows L (R.set i (some ⟨g3, 0, none⟩, m, c3)) := e
  rw [hr] at hst
  have hg3 : b3 ≤ g3 := (ho.lt g3 rfl).1
  have hget : ∀ k, (R.set i (some ⟨g3, 0, none⟩, m, c3)).getD k sl0 = if k = i then (some ⟨g3, 0, none⟩, m, c3) else R.getD k sl0 := fun k => getD_set _ _ _ _ _ hiR
  refine ⟨by rw [List.length_set]; exact h.rn, hst.1, fun k h1 h2 => ?_, fun k hk => ?_, fun k hk => ?_, fun j k hj hk hjk => ?_⟩
  · rw [hget, if_neg (by omega)]
    obtain ⟨h3, h4⟩ := h.old k (by omega) h2
    exact ⟨h3, h4.kept hst.2 (fun a ha e => by injection e with e; exact hne0 k h2 a ha e)⟩
  · rw [hget]
    by_cases hki : k = i
    · rw [if_pos hki, hki]; exact hm
    · rw [if_neg hki]; exact h.len k (by omega)
  · rw [hget]
    by_cases hki : k = i
    · rw [if_pos hki, hki]
      exact own_monoK (ho.kept hst.2 (.inr (fun e => by
        have e2 : some g3 = some g := e
        injection e2 with e2
        omega))) hb
    · rw [if_neg hki]
      obtain ⟨q, _, hq, _, _⟩ := own_some (h.inn k (by omega))
      refine (h.inn k (by omega)).kept hst.2 (.inr fun e => ?_)
      rcases own_apartK (h.inn k (by omega)) h.hd (by decide) with h0 | h0
      · rw [hq] at h0; cases h0
      · exact h0 e
  · rw [hget, hget]
    by_cases hji : j = i
    · rw [if_pos hji, if_neg (by omega)]
      intro e
      have := hlow k (by omega) g3 e.symm
      omega
    · rw [if_neg hji]
      by_cases hki : k = i
      · rw [if_pos hki]
        intro e
        have := hlow j (by omega) g3 e
        omega
      · rw [if_neg hki]
        exact h.ne j k (by omega) (by omega) hjk
theorem mildL_mono {M N : Nat} {L : List Cd} (h : MildL M L) (hn : M ≤ N) : MildL N L := ⟨Nat.le_trans h.1 hn, fun k => ⟨Nat.le_trans (h.2 k).1 hn, Nat.le_trans (h.2 k).2.1 hn, Nat.le_trans (h.2 k).2.2.1 hn, Nat.le_trans (h.2 k).2.2.2.1 hn, fun j => Nat.le_trans ((h.2 k).2.2.2.2 j) hn⟩⟩
theorem src_mark (w : World) : SrcK 1 (w.alloc (.cells #[.string (str markT)] 9)) (some ⟨w.heap.size, 0, none⟩) 1 1 [.string (str markT)] := .inr ⟨_, rfl, rfl, fun j u hu => by
  rw [Ro.add_plain, Lib.cell_of_heap (heap_alloc_new w _), Nat.zero_add]
  simpa using hu⟩
theorem src_mk (w : World) : SrcK 7 (w.alloc (.cells #[.string ⟨#[109, 97, 114, 107]⟩, .string ⟨#[]⟩, .int .u8 0, .slice none 0 0, .int .i8 0, .string ⟨#[]⟩, .int .i16 0] 37)) (some ⟨w.heap.size, 0, none⟩) 1 1 (KC.row (mkC, sl0)) := .inr ⟨_, rfl, rfl, fun j u hu => by
  rw [Ro.add_plain, Lib.cell_of_heap (heap_alloc_new w _), Nat.zero_add]
  have e : KC.row (mkC, sl0) = [.string ⟨#[109, 97, 114, 107]⟩, .string ⟨#[]⟩, .int .u8 0, .slice none 0 0, .int .i8 0, .string ⟨#[]⟩, .int .i16 0] := rfl
  rw [e] at hu
  simpa using hu⟩
theorem v_shape {w : World} {base m : Nat} {v : Value} {xs : List Value} (h : w.ownsRow base 9 1 v (m + 1) xs) : ∃ g : Nat, v.ownBlock = some g ∧ base ≤ g ∧ g < w.heap.size := by
  rcases h.2 with ⟨_, h'⟩ | ⟨g, cap, cur, rfl, hb, hg, _⟩
  · simp at h'
  · exact ⟨g, rfl, hb, (Array.getElem?_eq_some_iff.1 hg).1⟩
theorem rows_cell3 (L : List Cd) (R : List Sl) (i : Nat) (h : L.length = R.length) (hi : i < L.length) : (KC.rows L R)[i * 7 + 3]? = some (slV (R.getD i sl0)) := (rows_at KC L R h i 3 hi (by decide)).trans rfl
set_option maxRecDepth 100000 in
set_option maxHeartbeats 16000000 in
theorem lent_any (A : Option Addr) (c n : Nat) (L : List Cd) (R0 : List Sl) (w : World) (hm : MildL 1048576 L) (hA : Ro.RowsIn KC w A n L R0) (hneat : ∀ k, Neat (R0.getD k sl0)) :
    Calls Try.prog 5 #[.slice A n c] w fun e w' => ∃ A' c' R, e = .returned (.slice A' n c') ∧ Lent w' w.heap.size A' n c' L R ∧ n + 1 ≤ c' ∧ Below w.heap.size w w' := by
  have HTW := Lib.hid (twins_any A c n L R0 w (mildL_mono hm (by decide)) hA hneat)
  have hnb : n ≤ 1048576 := by rw [hA.1]; exact hm.1
  have HN := Lib.hid hA.1
  have HM := Lib.hid hm
  unfold MadeL at HTW
  clear hm hA hneat
  go_enter Try.func5, Try.ntmps5
  go_wp2_with fail
  refine HTW.out.mono ?_
  rintro e w1 ⟨A1, c1, n1, R1, rfl, ho1, hb1⟩
  obtain rfl : n1 = n := ho1.1.trans HN.out.symm
  have B1 := Lib.hid hb1
  have HNE := Lib.hid (fun k => ho1.neat k)
  have HAP := Lib.hid (fun k (hk : k < n1) a (ha : (R1.getD k sl0).1 = some a) g (hg : A1 = some ⟨g, 0, none⟩) => show a.block ≠ g from fun e => by
    have hk2 : k < R1.length := by rw [ho1.2.2.1, ← ho1.1]; exact hk
    have h0 := ho1.apart k hk2
    have h3 : (rowV R1 k).ownBlock = some a.block := by
      unfold rowV slV
      rw [ha]
      rfl
    rw [h3, hg, e] at h0
    rcases h0 with h0 | h0
    · cases h0
    · exact h0 rfl)
  have HMID : Hid (Mid w1 w.heap.size A1 n1 c1 0 L R1 R1) := Lib.hid ⟨ho1.2.2.1, ho1.2.1, fun k _ hk => ⟨rfl, own_cells (ho1.2.2.2.1 k (by rw [ho1.2.2.1, ← ho1.1]; exact hk)).2⟩, fun k hk => absurd hk (Nat.not_lt_zero k), fun k hk => absurd hk (Nat.not_lt_zero k), fun j k hj => absurd hj (Nat.not_lt_zero j)⟩
  have HLN := Lib.hid (fun k (hk : k < n1) => show (R1.getD k sl0).2.1 = (L.getD k cd0).compat.length from (ho1.2.2.2.1 k (by rw [ho1.2.2.1, ← ho1.1]; exact hk)).1)
  clear ho1 hb1 HTW
  go_wp2_with fail
  go_loopw [4, 5] (fun v4 _ wr => ∃ (i : Nat) (R : List Sl), i ≤ n1 ∧ v4 = .int .i64 (i : Nat) ∧ Mid wr w.heap.size A1 n1 c1 i L R1 R ∧ Below w.heap.size w wr) (fun v4 _ _ => n1 - (RowKit.intOf v4).toNat)
  case atStart => exact ⟨0, R1, by omega, rfl, HMID.out, B1.out⟩
  case round =>
    clear HMID B1
    obtain ⟨i, R, hi, rfl, hmid, hbw⟩ := hrel
    have MD := Lib.hid hmid
    have BW := Lib.hid hbw
    clear hmid hbw
    by_cases hlt : i < n1
    · have i1 : (0 : Int) ≤ (i : Int) := by omega
      have i2 : (i : Int) < (n1 : Int) := by omega
      obtain ⟨g, rfl, hgb, hgl⟩ := own_shapeK MD.out.hd (by omega)
      have hiL : i < L.length := by rw [← HN.out]; exact hlt
      have e3 : wr.cell? ⟨g, i * 7 + 3, none⟩ = some (slV (R.getD i sl0)) := by
        have hc := MD.out.hd.cells (g := g) rfl _ _ (rows_cell3 L R i MD.out.rn.symm hiL)
        rw [Ro.add_plain, Nat.zero_add] at hc
        exact hc
      have hfz := MD.out.hd.frozenAt (i * 7 + 3)
      obtain ⟨hro, hci⟩ := MD.out.old i (Nat.le_refl i) hlt
      rw [hro] at e3
      have hln := HLN.out i hlt
      have hmc : (L.getD i cd0).compat.length ≤ 1048576 := (HM.out.2 i).2.2.2.1
      have hng := (HNE.out i).1
      have HCI := Lib.hid hci
      have HLI := Lib.hid (show (L.getD i cd0).compat = (L.getD i cd0).compat from rfl)
      have HST := Lib.hid (fun W g3 c3 m b3 (hW : Below wr.heap.size wr W) hm ho hb => (MD.out.below hW).step (g3 := g3) (c3 := c3) (m := m) (b3 := b3) HN.out hlt hm (fun k hk a ha => HAP.out k hk a ha g rfl) ho hb)
      have HLOW := Lib.hid (fun k (hk : k < i) q (hq : (innV (R.getD k sl0)).ownBlock = some q) => show q < wr.heap.size from by
        obtain ⟨q', _, h2, _, h4⟩ := own_some (MD.out.inn k hk)
        rw [h2] at hq
        injection hq with hq
        omega)
      clear hro hci MD
      generalize hcp : (L.getD i cd0).compat = cp at *
      clear hcp HLI
      generalize R1.getD i sl0 = r at *
      obtain ⟨ra, rn, rc⟩ := r
      simp only [slV] at e3
      dsimp only at hln HCI hng
      obtain rfl : rn = cp.length := hln
      have hz0 : g < wr.heap.size := hgl
      go_wp2_with (first
        | ((with_reducible (show wpList _ _ _ ((⟨some 28, _, _, _, _, _⟩ : Oper) :: _) _ _)); refine wpList_append_srcK (o := ⟨some 28, _, _, _, _, _⟩) rfl (.tmp 22) (.tmp 27) 23 rfl wr.heap.size 9 (.string ⟨#[]⟩) 1 16 (by omega) Try.underlying23 info_str rfl _ 0 [] rfl (own_emptyK wr 9 1) ra cp.length rc (strs cp) rfl ((HCI.out.below (grows' wr _)).src hng) (one_strs cp) (by omega) (by omega) (by simp) ?_; intro v2 w2 ho2 hg2; rw [Nat.zero_add, List.nil_append] at ho2; have B2 := Lib.hid (below_first hg2); have HO2 := Lib.hid ho2; clear ho2 hg2)
        | ((with_reducible (show wpList _ _ _ ((⟨some 30, _, _, _, _, _⟩ : Oper) :: _) _ _)); refine wpList_append_srcK (o := ⟨some 30, _, _, _, _, _⟩) rfl (.tmp 28) (.tmp 29) 23 rfl wr.heap.size 9 (.string ⟨#[]⟩) 1 16 (by omega) Try.underlying23 info_str rfl _ cp.length (strs cp) rfl (own_belowK HO2.out (grows' w2 _)) _ 1 1 [.string (str markT)] rfl (src_mark w2) (by intro u hu; simp at hu; subst hu; rfl) (by omega) (by omega) (by have := B2.out.size; simp; omega) ?_; intro v3 w3 ho3 hg3; have B3 := Lib.hid (below_grown' B2.out B2.out.size HO2.out (Nat.le_refl _) hg3); have HO3 := Lib.hid ho3; clear ho3 hg3; obtain ⟨A3, c3, rfl, _, hc3⟩ := own_srcK HO3.out; obtain ⟨g3, rfl, hb3, hl3⟩ := own_shapeK HO3.out (by omega); have e4 := (B3.out.cell (p := ⟨g, i * 7 + 3, none⟩) hz0).trans e3; have z4 := (B3.out.frozen (p := ⟨g, i * 7 + 3, none⟩) hz0).trans hfz; have hc4 : cp.length ≤ c3 := by omega)
        | fail)
      have HFIN := Lib.hid (HST.out w3 g3 c3 cp.length wr.heap.size B3.out rfl HO3.out BW.out.size hz0 HLOW.out)
      have B9 := Lib.hid ((bt BW.out B3.out).setCell hgb (p := ⟨g, i * 7 + 3, none⟩) (.slice (some ⟨g3, 0, none⟩) cp.length c3))
      go_roundw
      case rel => exact ⟨i + 1, R.set i (some ⟨g3, 0, none⟩, cp.length, c3), by omega, by go_num, HFIN.out, B9.out⟩
      case measure => simp [RowKit.intOf]; omega
    · obtain rfl : i = n1 := by omega
      have G1 := Lib.hid (grows' wr (.cells #[.string ⟨#[109, 97, 114, 107]⟩, .string ⟨#[]⟩, .int .u8 0, .slice none 0 0, .int .i8 0, .string ⟨#[]⟩, .int .i16 0] 37))
      have HDX := Lib.hid (own_belowK MD.out.hd G1.out)
      have HBX := Lib.hid (bt BW.out G1.out)
      go_wp2_with ((with_reducible (show wpList _ _ _ ((⟨some 38, _, _, _, _, _⟩ : Oper) :: _) _ _)); refine wpList_append_srcK (o := ⟨some 38, _, _, _, _, _⟩) rfl (.tmp 35) (.tmp 37) 22 rfl w.heap.size 37 (.agg #[.string ⟨#[]⟩, .string ⟨#[]⟩, .int .u8 0, .slice none 0 0, .int .i8 0, .string ⟨#[]⟩, .int .i16 0]) 7 96 (by omega) Try.underlying22 info_card rfl _ i (KC.rows L R) rfl HDX.out _ 1 1 (KC.row (mkC, sl0)) rfl (src_mk wr) (one_row KC (mkC, sl0)) (by omega) (by omega) HBX.out.size ?_; intro v4 w4 ho4 hg4; obtain ⟨A4, c4, rfl, _, hc4⟩ := own_srcK ho4; have hc5 : i ≤ c4 := (by omega); have HO4 := Lib.hid ho4; have HG4 := Lib.hid hg4; clear ho4 hg4)
      go_ret
      have hB4 : Below w.heap.size w w4 := HBX.out.grown HG4.out HBX.out.size (fun q hq => (HDX.out.lt q hq).1)
      refine ⟨A4, c4, R, rfl, ⟨HN.out, MD.out.rn, HO4.out, fun k hk => MD.out.len k hk, fun k hk => ?_, fun j k hj hk hjk => MD.out.ne j k hj hk hjk⟩, hc4, hB4⟩
      exact (own_belowK (MD.out.inn k hk) G1.out).kept HG4.out (own_apartK (own_belowK (MD.out.inn k hk) G1.out) HDX.out (by decide))
end Go.Proofs.Ytnnaoneegeenkaa.Mv
