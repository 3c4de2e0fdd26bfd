/- Lists of cards copied and compared: Twins, SameAll, sameCards. -/
import Derived.Test.YtnnaoneegeenkaaKcX
namespace Go.Proofs.Ytnnaoneegeenkaa.Kc
open Go.ChangeShapes Go.WideShapes Go.ChangeAt Go.RowKit Own Ro wordsNames

theorem info_card : (Try.prog.info? 37).map (fun i => (i.zero, i.size, i.bytes)) = some (some (.agg #[.string ⟨#[]⟩, .string ⟨#[]⟩, .int .u8 0, .slice none 0 0, .int .i8 0, .string ⟨#[]⟩, .int .i16 0]), 7, 96) := by kernel_rfl
theorem src_new7 (w : World) (xs : Array Value) (t : TypeId) {g : Nat} (hg : g = w.heap.size) (h7 : xs.size = 7) : SrcK 7 (w.alloc (.cells xs t)) (some ⟨g, 0, none⟩) 1 1 xs.toList := by
  subst hg
  exact .inr ⟨_, rfl, by simp [h7], fun j u hu => by
    rw [Ro.add_plain, Lib.cell_of_heap (heap_alloc_new w _), Nat.zero_add]
    simpa using hu⟩
/-- Cards in memory of the call's own. -/
def MadeL (L : List Cd) (w : World) (e : Ending) (w' : World) : Prop :=
  ∃ A c n R, e = .returned (.slice A n c) ∧ Ro.RowsOwn KC w' w.heap.size A n c L R ∧ Below w.heap.size w w'
set_option maxRecDepth 100000 in
set_option maxHeartbeats 8000000 in
theorem twins_any (A : Option Addr) (c n : Nat) (L : List Cd) (R0 : List Sl) (w : World) (hm : MildL 1099511627776 L) (hA : Ro.RowsIn KC w A n L R0) (hneat : ∀ k, Neat (R0.getD k sl0)) :
    Calls Try.prog 9 #[.slice A n c] w (MadeL L w) := by
  have HN := Lib.hid hA.1
  have hb : n ≤ 1099511627776 := by have := hm.1; rw [hA.1]; exact this
  have GA := Lib.hid hA
  have HM := Lib.hid hm
  have HNE := Lib.hid hneat
  clear hm hA hneat
  go_enter Try.func9, Try.ntmps9
  go_wp2_with fail
  go_loopw [3, 4] (fun v3 v4 wr => ∃ (k : Nat) (R : List Sl), k ≤ n ∧ v4 = .int .i64 k ∧ (∃ A1 c1, v3 = .slice A1 k c1 ∧ Ro.RowsOwn KC wr w.heap.size A1 k c1 (L.take k) R) ∧ Below w.heap.size w wr) (fun _ v4 _ => n - (RowKit.intOf v4).toNat)
  case atStart => exact ⟨0, [], Nat.zero_le _, rfl, ⟨none, 0, rfl, rfl, own_nilK w _ _ _, InnOwn.nil w _⟩, Below.refl _ _⟩
  case round =>
    obtain ⟨k, R, hk, rfl, ⟨A1, c1, rfl, hro⟩, hbw⟩ := hrel
    have HRO := Lib.hid hro
    have HB := Lib.hid hbw
    have hsz := hbw.size
    clear hro hbw
    by_cases hlt : k < n
    · obtain ⟨b0, o0, rfl, hbs, hc, hlen, hin⟩ := (GA.out.below HB.out).at hlt
      have e0 := hc 0 _ rfl
      have e1 := hc 1 _ rfl
      have e2 := hc 2 _ rfl
      have e3 := hc 3 _ rfl
      have e4 := hc 4 _ rfl
      have e5 := hc 5 _ rfl
      have e6 := hc 6 _ rfl
      replace e0 : wr.cell? ⟨b0, o0 + k * 7, none⟩ = some (.string (str (L.getD k cd0).name)) := e0
      replace e1 : wr.cell? ⟨b0, o0 + k * 7 + 1, none⟩ = some (.string (str (L.getD k cd0).fam)) := e1
      replace e2 : wr.cell? ⟨b0, o0 + k * 7 + 2, none⟩ = some (.int .u8 (L.getD k cd0).level) := e2
      replace e3 : wr.cell? ⟨b0, o0 + k * 7 + 3, none⟩ = some (slV (R0.getD k sl0)) := e3
      replace e4 : wr.cell? ⟨b0, o0 + k * 7 + 4, none⟩ = some (.int .i8 (L.getD k cd0).score) := e4
      replace e5 : wr.cell? ⟨b0, o0 + k * 7 + 5, none⟩ = some (.string (str (L.getD k cd0).quirk)) := e5
      replace e6 : wr.cell? ⟨b0, o0 + k * 7 + 6, none⟩ = some (.int .i16 (L.getD k cd0).entry) := e6
      have HTK := Lib.hid (takeS L cd0 k (by rw [← HN.out]; exact hlt))
      have HT := Lib.hid (twin_any (L.getD k cd0) (R0.getD k sl0) wr (HM.out.2 k) hlen (HNE.out k) hin)
      have k1 : (0 : Int) ≤ (k : Int) := by omega
      have k2 : (k : Int) < (n : Int) := by omega
      clear hc hlen hin
      generalize L.getD k cd0 = d at e0 e1 e2 e3 e4 e5 e6 HT HTK
      generalize R0.getD k sl0 = r at e3 HT
      obtain ⟨nm, fm, lv, cp, sc, qk, en⟩ := d
      obtain ⟨ra, rn, rc⟩ := r
      simp only [slV, cardV, cells7] at e0 e1 e2 e3 e4 e5 e6 HT
      go_wp2_with (first
        | (go_at_call 17; refine HT.out.mono ?_; rintro e w1 ⟨A2, c2, n2, rfl, hn2, ho2, b2⟩; simp only [slV, cardV, cells7]; have O2 := Lib.hid ho2; have hb1 := b2; have HN2 := Lib.hid hn2; clear ho2 b2 hn2)
        | (at_builtin; (refine wpList_append_srcK (o := ⟨some 18, _, _, _, _, _⟩) rfl (.tmp 11) (.tmp 17) 22 rfl w.heap.size 37 (.agg #[.string ⟨#[]⟩, .string ⟨#[]⟩, .int .u8 0, .slice none 0 0, .int .i8 0, .string ⟨#[]⟩, .int .i16 0]) 7 96 (by omega) Try.underlying22 info_card rfl _ k (KC.rows (L.take k) R) rfl (HRO.out.below (bal hb1 rfl _)).2.1 _ 1 1 [.string (str nm), .string (str fm), .int .u8 lv, .slice A2 n2 c2, .int .i8 sc, .string (str qk), .int .i16 en] rfl (src_new7 w1 _ _ rfl rfl) (by intro u hu; simp at hu; rcases hu with rfl | rfl | rfl | rfl | rfl | rfl | rfl <;> rfl) (by omega) (by omega) (bt HB.out (bal hb1 rfl _)).size ?_); intro v3 w3 ho3 hg3; obtain ⟨A3, c3, rfl, hr3⟩ := RowsOwn.snoc (r := (A2, n2, c2)) (d := ⟨nm, fm, lv, cp, sc, qk, en⟩) (HRO.out.below (bal hb1 rfl _)) HN2.out (own_belowK O2.out (grows' w1 _)) hsz HRO.out.2.2.lt hg3 ho3; have hb3 := RowsOwn.grown (HRO.out.below (bal hb1 rfl _)) (bt HB.out (bal hb1 rfl _)) (Nat.le_refl _) (bt HB.out (bal hb1 rfl _)).size hg3; rw [← HTK.out] at hr3; have HR3 := Lib.hid hr3; clear ho3 hg3 hr3))
      go_roundw
      case rel => exact ⟨k + 1, _, by omega, by go_num, ⟨A3, c3, rfl, HR3.out⟩, hb3⟩
      case measure => simp [RowKit.intOf]; omega
    · obtain rfl : n = k := by omega
      have HTK : Hid (L.take n = L) := Lib.hid (by rw [HN.out, List.take_length])
      rw [HTK.out] at HRO
      go_wp2_with fail
      go_ret
      exact ⟨A1, c1, _, R, rfl, HRO.out, HB.out⟩
theorem cards_eq (L L2 : List Cd) (h : L.length = L2.length) : L = L2 ↔ ∀ i, i < L.length → L.getD i cd0 = L2.getD i cd0 := by
  constructor
  · rintro rfl i _
    rfl
  · exact fun h2 => list_ext cd0 h h2
set_option maxRecDepth 100000 in
set_option maxHeartbeats 8000000 in
theorem sameAll_any (A B : Option Addr) (c n d m : Nat) (L L2 : List Cd) (R R2 : List Sl) (g : Bool) (w : World) (hg : g = true ↔ L = L2) (hm : MildL 1099511627776 L) (hm2 : MildL 1099511627776 L2) (hA : Ro.RowsIn KC w A n L R) (hB : Ro.RowsIn KC w B m L2 R2) :
    Calls Try.prog 16 #[.slice A n c, .slice B m d] w fun e w' => e = .returned (.bool g) ∧ Below w.heap.size w w' := by
  have HN := Lib.hid hA.1
  have HN2 := Lib.hid hB.1
  have hnb : n ≤ 1099511627776 := by have := hm.1; rw [hA.1]; exact this
  have hmb : m ≤ 1099511627776 := by have := hm2.1; rw [hB.1]; exact this
  have GA := Lib.hid hA
  have GB := Lib.hid hB
  have HM := Lib.hid hm
  have HM2 := Lib.hid hm2
  have HG := Lib.hid hg
  clear hg hm hm2 hA hB
  by_cases hl : n = m
  case neg =>
    have t4 : ((n : Int) != (m : Int)) = true := by rw [int_neb, decide_eq_false (by omega)]; rfl
    have HF : Hid (g = false) := Lib.hid (Bool.eq_false_iff.2 fun e => hl (by rw [HN.out, HN2.out, HG.out.1 e]))
    go_enter Try.func16, Try.ntmps16
    go_wp2_with fail
    go_ret
    rw [HF.out]
    exact ⟨rfl, Below.refl _ _⟩
  subst hl
  have t4 : ((n : Int) != (n : Int)) = false := by rw [int_neb, decide_eq_true rfl]; rfl
  have HLE : Hid (L = L2 ↔ ∀ i, i < n → L.getD i cd0 = L2.getD i cd0) := Lib.hid (by rw [HN.out]; exact cards_eq L L2 (by rw [← HN.out, ← HN2.out]))
  go_enter Try.func16, Try.ntmps16
  go_wp2_with fail
  go_loopw [5] (fun v5 wr => ∃ (k : Nat), k ≤ n ∧ v5 = .int .i64 k ∧ Below w.heap.size w wr ∧ Hid (∀ i, i < k → L.getD i cd0 = L2.getD i cd0)) (fun v5 _ => n - (RowKit.intOf v5).toNat)
  case atStart => exact ⟨0, by omega, rfl, Below.refl _ _, Lib.hid fun i hi => by omega⟩
  case round =>
    obtain ⟨k, hk, rfl, hbw, HK⟩ := hrel
    have HB := Lib.hid hbw
    clear hbw
    by_cases hlt : k < n
    · obtain ⟨b0, o0, rfl, hbs, hc, hlen, hin⟩ := (GA.out.below HB.out).at hlt
      obtain ⟨b1, o1, rfl, hbs1, hd, hlen1, hin1⟩ := (GB.out.below HB.out).at hlt
      have e0 := hc 0 _ rfl
      replace e0 : wr.cell? ⟨b0, o0 + k * 7, none⟩ = some (.string (str (L.getD k cd0).name)) := e0
      have e1 := hc 1 _ rfl
      replace e1 : wr.cell? ⟨b0, o0 + k * 7 + 1, none⟩ = some (.string (str (L.getD k cd0).fam)) := e1
      have e2 := hc 2 _ rfl
      replace e2 : wr.cell? ⟨b0, o0 + k * 7 + 2, none⟩ = some (.int .u8 (L.getD k cd0).level) := e2
      have e3 := hc 3 _ rfl
      replace e3 : wr.cell? ⟨b0, o0 + k * 7 + 3, none⟩ = some (slV (R.getD k sl0)) := e3
      have e4 := hc 4 _ rfl
      replace e4 : wr.cell? ⟨b0, o0 + k * 7 + 4, none⟩ = some (.int .i8 (L.getD k cd0).score) := e4
      have e5 := hc 5 _ rfl
      replace e5 : wr.cell? ⟨b0, o0 + k * 7 + 5, none⟩ = some (.string (str (L.getD k cd0).quirk)) := e5
      have e6 := hc 6 _ rfl
      replace e6 : wr.cell? ⟨b0, o0 + k * 7 + 6, none⟩ = some (.int .i16 (L.getD k cd0).entry) := e6
      have f0 := hd 0 _ rfl
      replace f0 : wr.cell? ⟨b1, o1 + k * 7, none⟩ = some (.string (str (L2.getD k cd0).name)) := f0
      have f1 := hd 1 _ rfl
      replace f1 : wr.cell? ⟨b1, o1 + k * 7 + 1, none⟩ = some (.string (str (L2.getD k cd0).fam)) := f1
      have f2 := hd 2 _ rfl
      replace f2 : wr.cell? ⟨b1, o1 + k * 7 + 2, none⟩ = some (.int .u8 (L2.getD k cd0).level) := f2
      have f3 := hd 3 _ rfl
      replace f3 : wr.cell? ⟨b1, o1 + k * 7 + 3, none⟩ = some (slV (R2.getD k sl0)) := f3
      have f4 := hd 4 _ rfl
      replace f4 : wr.cell? ⟨b1, o1 + k * 7 + 4, none⟩ = some (.int .i8 (L2.getD k cd0).score) := f4
      have f5 := hd 5 _ rfl
      replace f5 : wr.cell? ⟨b1, o1 + k * 7 + 5, none⟩ = some (.string (str (L2.getD k cd0).quirk)) := f5
      have f6 := hd 6 _ rfl
      replace f6 : wr.cell? ⟨b1, o1 + k * 7 + 6, none⟩ = some (.int .i16 (L2.getD k cd0).entry) := f6
      have k1 : (0 : Int) ≤ (k : Int) := by omega
      have k2 : (k : Int) < (n : Int) := by omega
      obtain ⟨gk, hgk⟩ := bool_ex (L.getD k cd0 = L2.getD k cd0)
      have HS := Lib.hid fun (W : World) (hW : Below wr.heap.size wr W) => refSame_any (L.getD k cd0) (L2.getD k cd0) (R.getD k sl0) (R2.getD k sl0) gk W hgk (HM.out.2 k) (HM2.out.2 k) hlen hlen1 (hin.below hW) (hin1.below hW)
      have HGK := Lib.hid hgk
      have HNE : Hid (gk = false → g = false) := Lib.hid fun h => Bool.eq_false_iff.2 fun e => by rw [hgk.2 (HLE.out.1 (HG.out.1 e) k hlt)] at h; cases h
      clear hc hd hlen hlen1 hin hin1 hgk t4
      have HGK2 : Hid (gk = true → L.getD k cd0 = L2.getD k cd0) := Lib.hid HGK.out.1
      clear HGK
      generalize hdk : L.getD k cd0 = dk at e0 e1 e2 e3 e4 e5 e6 HS
      generalize hdk2 : L2.getD k cd0 = dk2 at f0 f1 f2 f3 f4 f5 f6 HS
      generalize R.getD k sl0 = r at e3 HS
      generalize R2.getD k sl0 = r2 at f3 HS
      clear hdk hdk2
      obtain ⟨nm, fm, lv, cp, sc, qk, en⟩ := dk
      obtain ⟨nm2, fm2, lv2, cp2, sk2, qk2, en2⟩ := dk2
      obtain ⟨ra, rn, rc⟩ := r
      obtain ⟨sa, sn, sc2⟩ := r2
      simp only [slV, cardV, cells7] at e0 e1 e2 e3 e4 e5 e6 f0 f1 f2 f3 f4 f5 f6 HS
      generalize str nm = S1 at e0 HS
      generalize str fm = S2 at e1 HS
      generalize str qk = S3 at e5 HS
      generalize str nm2 = T1 at f0 HS
      generalize str fm2 = T2 at f1 HS
      generalize str qk2 = T3 at f5 HS
      have HEK : Hid (∀ W : World, Below wr.heap.size wr W → (W.cell? ⟨b0, o0 + k * 7, none⟩ = some (.string S1) ∧ W.cell? ⟨b0, o0 + k * 7 + 1, none⟩ = some (.string S2) ∧ W.cell? ⟨b0, o0 + k * 7 + 2, none⟩ = some (.int .u8 lv) ∧ W.cell? ⟨b0, o0 + k * 7 + 3, none⟩ = some (.slice ra rn rc) ∧ W.cell? ⟨b0, o0 + k * 7 + 4, none⟩ = some (.int .i8 sc) ∧ W.cell? ⟨b0, o0 + k * 7 + 5, none⟩ = some (.string S3) ∧ W.cell? ⟨b0, o0 + k * 7 + 6, none⟩ = some (.int .i16 en) ∧ W.cell? ⟨b1, o1 + k * 7, none⟩ = some (.string T1) ∧ W.cell? ⟨b1, o1 + k * 7 + 1, none⟩ = some (.string T2) ∧ W.cell? ⟨b1, o1 + k * 7 + 2, none⟩ = some (.int .u8 lv2) ∧ W.cell? ⟨b1, o1 + k * 7 + 3, none⟩ = some (.slice sa sn sc2) ∧ W.cell? ⟨b1, o1 + k * 7 + 4, none⟩ = some (.int .i8 sk2) ∧ W.cell? ⟨b1, o1 + k * 7 + 5, none⟩ = some (.string T3) ∧ W.cell? ⟨b1, o1 + k * 7 + 6, none⟩ = some (.int .i16 en2)) ∧ Below wr.heap.size wr W) := Lib.hid fun W hW => ⟨⟨(hW.cell (p := ⟨b0, o0 + k * 7, none⟩) hbs).trans e0, (hW.cell (p := ⟨b0, o0 + k * 7 + 1, none⟩) hbs).trans e1, (hW.cell (p := ⟨b0, o0 + k * 7 + 2, none⟩) hbs).trans e2, (hW.cell (p := ⟨b0, o0 + k * 7 + 3, none⟩) hbs).trans e3, (hW.cell (p := ⟨b0, o0 + k * 7 + 4, none⟩) hbs).trans e4, (hW.cell (p := ⟨b0, o0 + k * 7 + 5, none⟩) hbs).trans e5, (hW.cell (p := ⟨b0, o0 + k * 7 + 6, none⟩) hbs).trans e6, (hW.cell (p := ⟨b1, o1 + k * 7, none⟩) hbs1).trans f0, (hW.cell (p := ⟨b1, o1 + k * 7 + 1, none⟩) hbs1).trans f1, (hW.cell (p := ⟨b1, o1 + k * 7 + 2, none⟩) hbs1).trans f2, (hW.cell (p := ⟨b1, o1 + k * 7 + 3, none⟩) hbs1).trans f3, (hW.cell (p := ⟨b1, o1 + k * 7 + 4, none⟩) hbs1).trans f4, (hW.cell (p := ⟨b1, o1 + k * 7 + 5, none⟩) hbs1).trans f5, (hW.cell (p := ⟨b1, o1 + k * 7 + 6, none⟩) hbs1).trans f6⟩, hW⟩
      clear e0 e1 e2 e3 e4 e5 e6 f0 f1 f2 f3 f4 f5 f6
      go_wp2_with fail
      refine wp_region_noPanic ?_
      refine wp_region_held_drew (S := fun w' => (w'.cell? ⟨b0, o0 + k * 7, none⟩ = some (.string S1) ∧ w'.cell? ⟨b0, o0 + k * 7 + 1, none⟩ = some (.string S2) ∧ w'.cell? ⟨b0, o0 + k * 7 + 2, none⟩ = some (.int .u8 lv) ∧ w'.cell? ⟨b0, o0 + k * 7 + 3, none⟩ = some (.slice ra rn rc) ∧ w'.cell? ⟨b0, o0 + k * 7 + 4, none⟩ = some (.int .i8 sc) ∧ w'.cell? ⟨b0, o0 + k * 7 + 5, none⟩ = some (.string S3) ∧ w'.cell? ⟨b0, o0 + k * 7 + 6, none⟩ = some (.int .i16 en) ∧ w'.cell? ⟨b1, o1 + k * 7, none⟩ = some (.string T1) ∧ w'.cell? ⟨b1, o1 + k * 7 + 1, none⟩ = some (.string T2) ∧ w'.cell? ⟨b1, o1 + k * 7 + 2, none⟩ = some (.int .u8 lv2) ∧ w'.cell? ⟨b1, o1 + k * 7 + 3, none⟩ = some (.slice sa sn sc2) ∧ w'.cell? ⟨b1, o1 + k * 7 + 4, none⟩ = some (.int .i8 sk2) ∧ w'.cell? ⟨b1, o1 + k * 7 + 5, none⟩ = some (.string T3) ∧ w'.cell? ⟨b1, o1 + k * 7 + 6, none⟩ = some (.int .i16 en2)) ∧ Below wr.heap.size wr w') (by kernel_rfl) (HEK.out _ (below_dr (Below.refl _ _) 1)) (fun hHeld => ?_)
      first | (refine skipH (i := 0) (dst := some 17) rfl rfl (by kernel_rfl) (by kernel_rfl) (by kernel_rfl) (fun _ _ _ h => h) (by rfl) hHeld ?_) | (refine' takeH (i := 0) (dst := some 17) (v := _) rfl rfl (by kernel_rfl) (by kernel_rfl) (by kernel_rfl) (fun _ _ _ h => h) (by rfl) ?hy hHeld ?_; case hy => (intro w hSw; clear hSw; (first | done | go_simp); try with_reducible rfl)) | fail
      try simp only [Act.put, List.setIfInBounds_toArray, List.set_cons_zero, List.set_cons_succ]
      first | (refine skipH (i := 1) (dst := some 18) rfl rfl (by kernel_rfl) (by kernel_rfl) (by kernel_rfl) (fun _ _ _ h => h) (by rfl) hHeld ?_) | (refine' takeH (i := 1) (dst := some 18) (v := _) rfl rfl (by kernel_rfl) (by kernel_rfl) (by kernel_rfl) (fun _ _ _ h => h) (by rfl) ?hy hHeld ?_; case hy => (intro w hSw; clear hSw; (first | done | go_simp); try with_reducible rfl)) | fail
      try simp only [Act.put, List.setIfInBounds_toArray, List.set_cons_zero, List.set_cons_succ]
      first | (refine skipH (i := 2) (dst := some 19) rfl rfl (by kernel_rfl) (by kernel_rfl) (by kernel_rfl) (fun _ _ _ h => h) (by rfl) hHeld ?_) | (refine' takeH (i := 2) (dst := some 19) (v := _) rfl rfl (by kernel_rfl) (by kernel_rfl) (by kernel_rfl) (fun _ _ _ h => h) (by rfl) ?hy hHeld ?_; case hy => (intro w hSw; clear hSw; (first | done | go_simp); try with_reducible rfl)) | fail
      try simp only [Act.put, List.setIfInBounds_toArray, List.set_cons_zero, List.set_cons_succ]
      first | (refine skipH (i := 3) (dst := some 20) rfl rfl (by kernel_rfl) (by kernel_rfl) (by kernel_rfl) (fun _ _ _ h => h) (by rfl) hHeld ?_) | (refine' takeH (i := 3) (dst := some 20) (v := _) rfl rfl (by kernel_rfl) (by kernel_rfl) (by kernel_rfl) (fun _ _ _ h => h) (by rfl) ?hy hHeld ?_; case hy => (intro w hSw; obtain ⟨⟨_, _, _, _, _, _, _, _, _, _, _, _, _, _⟩, _⟩ := hSw; (first | done | go_simp); try with_reducible rfl)) | fail
      try simp only [Act.put, List.setIfInBounds_toArray, List.set_cons_zero, List.set_cons_succ]
      first | (refine skipH (i := 4) (dst := some 21) rfl rfl (by kernel_rfl) (by kernel_rfl) (by kernel_rfl) (fun _ _ _ h => h) (by rfl) hHeld ?_) | (refine' takeH (i := 4) (dst := some 21) (v := _) rfl rfl (by kernel_rfl) (by kernel_rfl) (by kernel_rfl) (fun _ _ _ h => h) (by rfl) ?hy hHeld ?_; case hy => (intro w hSw; clear hSw; (first | done | go_simp); try with_reducible rfl)) | fail
      try simp only [Act.put, List.setIfInBounds_toArray, List.set_cons_zero, List.set_cons_succ]
      first | (refine skipH (i := 5) (dst := some 22) rfl rfl (by kernel_rfl) (by kernel_rfl) (by kernel_rfl) (fun _ _ _ h => h) (by rfl) hHeld ?_) | (refine' takeH (i := 5) (dst := some 22) (v := _) rfl rfl (by kernel_rfl) (by kernel_rfl) (by kernel_rfl) (fun _ _ _ h => h) (by rfl) ?hy hHeld ?_; case hy => (intro w hSw; clear hSw; (first | done | go_simp); try with_reducible rfl)) | fail
      try simp only [Act.put, List.setIfInBounds_toArray, List.set_cons_zero, List.set_cons_succ]
      first | (refine skipH (i := 6) (dst := some 23) rfl rfl (by kernel_rfl) (by kernel_rfl) (by kernel_rfl) (fun _ _ _ h => h) (by rfl) hHeld ?_) | (refine' takeH (i := 6) (dst := some 23) (v := _) rfl rfl (by kernel_rfl) (by kernel_rfl) (by kernel_rfl) (fun _ _ _ h => h) (by rfl) ?hy hHeld ?_; case hy => (intro w hSw; clear hSw; (first | done | go_simp); try with_reducible rfl)) | fail
      try simp only [Act.put, List.setIfInBounds_toArray, List.set_cons_zero, List.set_cons_succ]
      first | (refine skipH (i := 7) (dst := some 24) rfl rfl (by kernel_rfl) (by kernel_rfl) (by kernel_rfl) (fun _ _ _ h => h) (by rfl) hHeld ?_) | (refine' takeH (i := 7) (dst := some 24) (v := _) rfl rfl (by kernel_rfl) (by kernel_rfl) (by kernel_rfl) (fun _ _ _ h => h) (by rfl) ?hy hHeld ?_; case hy => (intro w hSw; obtain ⟨⟨_, _, _, _, _, _, _, _, _, _, _, _, _, _⟩, _⟩ := hSw; (first | done | go_simp); try with_reducible rfl)) | fail
      try simp only [Act.put, List.setIfInBounds_toArray, List.set_cons_zero, List.set_cons_succ]
      refine wpAnyH_ready (rs := [8]) (by kernel_rfl) (by simp) ?_
      refine AllReadyH.cons (i := 8) (o := ⟨some 25, .call _, _, _, _, _⟩) rfl (fun K hK => ?_) AllReadyH.nil
      go_simp
      refine (HS.out _ hHeld.2).mono ?_
      rintro e w5 ⟨rfl, b5⟩
      have hH := HEK.out _ (bt hHeld.2 b5)
      clear b5
      refine hK.out _ _ hH (fun _ => ?_)
      clear hK K hHeld
      have hHeld := hH
      clear hH
      try simp only [Act.put, List.setIfInBounds_toArray, List.set_cons_zero, List.set_cons_succ]
      first | (refine skipH (i := 9) (dst := some 26) rfl rfl (by kernel_rfl) (by kernel_rfl) (by kernel_rfl) (fun _ _ _ h => h) (by rfl) hHeld ?_) | (refine' takeH (i := 9) (dst := some 26) (v := _) rfl rfl (by kernel_rfl) (by kernel_rfl) (by kernel_rfl) (fun _ _ _ h => h) (by rfl) ?hy hHeld ?_; case hy => (intro w hSw; clear hSw; (first | done | go_simp); try with_reducible rfl)) | fail
      try simp only [Act.put, List.setIfInBounds_toArray, List.set_cons_zero, List.set_cons_succ]
      refine wpAnyH_done (by kernel_rfl) (NoPanic.normal ?_) _
      have B5 := Lib.hid (bt HB.out hHeld.2)
      clear hHeld
      cases gk with
      | false =>
        have HF : Hid (g = false) := Lib.hid (HNE.out rfl)
        go_wp2_with fail
        go_ret
        rw [HF.out]
        exact ⟨rfl, B5.out⟩
      | true =>
        have HQ := Lib.hid (HGK2.out rfl)
        go_wp2_with fail
        go_roundw
        case rel => exact ⟨k + 1, by omega, by go_num, B5.out, Lib.hid fun i hi => by
          by_cases hik : i = k
          · rw [hik]; exact HQ.out
          · exact HK.out i (by omega)⟩
        case measure => simp [RowKit.intOf]; omega
    · obtain rfl : n = k := by omega
      have HT : Hid (g = true) := Lib.hid (HG.out.2 (HLE.out.2 HK.out))
      go_wp2_with fail
      go_ret
      rw [HT.out]
      exact ⟨rfl, HB.out⟩
end Go.Proofs.Ytnnaoneegeenkaa.Kc
