/- The number that a card points to: the program's Entry. -/
import Derived.Test.YtmlfnihicocilaaDoorRvL
namespace Go.Proofs.YtmlfnihicocilaaDoor.Kq
open Go.ChangeShapes Go.WideShapes Go.ChangeAt Go.RowKit Own Ro wordsNames Kc Go.Maps Go.WideMaps
open Ka (i64s i64s_len i64s_at)
open Rm (Fams crystalN supplyN busN sensorN radioN found_c found_v found_b found_s found_r TabPost T5 arrays_any DA rd zeroFn fnV)

theorem fam_found (nm : List UInt8) (h : nm ∈ Fams) : ∃ f n T, Rm.Found nm f n (i64s (lookT (tabsI 5) nm)) T ∧ n = (lookT (tabsI 5) nm).length := by
  rw [tabs5]
  simp only [Fams, List.mem_cons, List.not_mem_nil, or_false] at h
  rcases h with rfl | rfl | rfl | rfl | rfl
  · exact ⟨_, _, _, found_c, rfl⟩
  · exact ⟨_, _, _, found_v, rfl⟩
  · exact ⟨_, _, _, found_b, rfl⟩
  · exact ⟨_, _, _, found_s, rfl⟩
  · exact ⟨_, _, _, found_r, rfl⟩
theorem step_look {H : Type} {P : Program} {w : World} {ops : Array Oper} {o : Oper} {a : Act} {K : Act → World → Prop} {Q : Exit → Act → World → Prop} {E' : Prop} (hw : Region.wanted o (yielded ops a.tmps) = true) (m x : Operand) (t : TypeId) (hop : o.op = Op.lookup t m x false)
    (k e : TypeId) (KK : Keyed P k) (ht : P.underlying t = some (.map k e)) (R : Value → Option (DataW H × List MemPlace)) {z : Value} (hz : (zeroValue e).run P w = .ok z w) (zd : DataW H) (zp : List MemPlace) (hzd : R z = some (zd, zp)) (b n : Nat) (D : DataW H)
    (hm : a.eval m = .map (some b)) (hown : w.ownsMap P k R b n D) (key : Value) (kl : Lit) (hx : a.eval x = key) (hkey : keyOf P k key = some kl)
    (h : ∀ v ps, R v = some (D.atKey kl zd, ps) → K (a.put o.dst v) w) : if Region.wanted o (yielded ops a.tmps) = true then Oper.wp P o a w K Q else E' := by
  rw [if_pos hw]
  obtain ⟨v, ps, hrun, hv⟩ := hown.lookup KK ht hz hzd hkey
  unfold Oper.wp
  simp [execOp, hop, hm, hx, hrun, Result.andThen]
  exact h v ps hv
set_option maxRecDepth 100000 in
set_option maxHeartbeats 8000000 in
theorem rEntry_any (nm : List UInt8) (w : World) (ht5 : T5 w) : Calls Tryd.prog 17 #[.string (str nm)] w (EntPost nm w) := by
  have HF := Lib.hid (rFind_any nm w)
  have HT := Lib.hid ht5
  clear ht5
  generalize str nm = X at HF ⊢
  go_enter Tryd.func17, Tryd.ntmps17
  go_wp2_with fail
  refine HF.out.mono ?_
  rintro e w1 ⟨d, r, er, rfl, hrel, hlen, hown, hb⟩
  have HREL := Lib.hid hrel
  have HB := Lib.hid hb
  have HT1 := Lib.hid (HT.out.below hb)
  clear hown hlen hb HF HT
  rcases hrel with ⟨hmem, _, rfl⟩ | ⟨_, rfl, rfl⟩
  · have hE := ent_mem hmem
    obtain ⟨k9, hk9, hd9⟩ := SL_at hmem
    have hfl : d.fam.length ≤ 1000 := by rw [← hd9]; exact Nat.le_trans (SL_small k9 hk9).2.1 (by omega)
    clear hmem hd9 hk9
    by_cases h0 : 0 ≤ d.entry
    · have hv : EntV d 0 = ((lookT (tabsI 5) d.fam).getD d.entry.toNat 0, 0) := if_pos ⟨rfl, h0⟩
      have HFIN := Lib.hid (fun w' (h : Below w.heap.size w w') => show EntPost nm w (.returned (.tuple #[.int .i64 ((lookT (tabsI 5) d.fam).getD d.entry.toNat 0), .int .i64 0])) w' from ⟨d, 0, HREL.out, by rw [hv], h⟩)
      obtain ⟨ff, fnn, fT, hfound, hfn⟩ := fam_found d.fam hE.1
      have HFD := Lib.hid hfound
      have HKEY := Lib.hid (nameKey d.fam hfl)
      have hlt := hE.2 h0
      have heg := hfound.2.2.2
      clear hv HREL hE hfound hfl
      obtain ⟨dn, df, dl, dc, ds, dq, de⟩ := d
      obtain ⟨ra, rn, rc⟩ := r
      unfold cardV cells7
      dsimp only at h0 HFIN HFD HKEY hlt hfn ⊢
      simp only [slV]
      obtain ⟨en, rfl⟩ : ∃ en : Nat, de = (en : Int) := ⟨de.toNat, by omega⟩
      rw [Int.toNat_natCast] at hlt HFIN
      generalize str df = D1 at HKEY ⊢
      generalize str dn = D0
      generalize str dq = D5
      have BX := Lib.hid (grows' w1 (.cells #[.string D0, .string D1, .int .u8 dl, .slice ra rn rc, .int .i8 ds, .string D5, .int .i16 (en : Int)] 27))
      have HCX : Hid (∀ j u, [Value.string D0, .string D1, .int .u8 dl, .slice ra rn rc, .int .i8 ds, .string D5, .int .i16 (en : Int)][j]? = some u → (w1.alloc (.cells #[.string D0, .string D1, .int .u8 dl, .slice ra rn rc, .int .i8 ds, .string D5, .int .i16 (en : Int)] 27)).cell? ⟨w1.heap.size, j, none⟩ = some u) := Lib.hid (fun j u hu => by
        rw [World.cell?_alloc_at _ _ _ _ rfl]
        simpa using hu)
      have hd : decide ((en : Int) < 0) = false := decide_eq_false (by omega)
      go_upto_region 4 with (fail)
      have hbz : w1.heap.size < (w1.alloc (.cells #[.string D0, .string D1, .int .u8 dl, .slice ra rn rc, .int .i8 ds, .string D5, .int .i16 (en : Int)] 27)).heap.size := by simp
      have HT2 := Lib.hid (HT1.out.below BX.out)
      have HB2 := Lib.hid (bt HB.out BX.out)
      generalize w1.alloc (.cells #[.string D0, .string D1, .int .u8 dl, .slice ra rn rc, .int .i8 ds, .string D5, .int .i16 (en : Int)] 27) = w2 at BX HCX hbz HT2 HB2 ⊢
      generalize w1.heap.size = bx at HCX hbz BX ⊢
      have HCY : Hid (∀ W, Below w2.heap.size w2 W → (W.cell? ⟨bx, 1, none⟩ = some (.string D1) ∧ W.cell? ⟨bx, 6, none⟩ = some (.int .i16 (en : Int))) ∧ Below w2.heap.size w2 W) := Lib.hid (fun W hW => ⟨⟨(hW.cell (p := ⟨bx, 1, none⟩) hbz).trans (HCX.out 1 _ rfl), (hW.cell (p := ⟨bx, 6, none⟩) hbz).trans (HCX.out 6 _ rfl)⟩, hW⟩)
      clear BX HCX HT1 HB
      refine wp_region_noPanic ?_
      refine wp_region_held_drew (S := fun W : World => (W.cell? ⟨bx, 1, none⟩ = some (.string D1) ∧ W.cell? ⟨bx, 6, none⟩ = some (.int .i16 (en : Int))) ∧ Below w2.heap.size w2 W) (by kernel_rfl) (HCY.out _ (below_dr (Below.refl _ _) 1)) (fun hHeld => ?_)
      first | (refine skipH (i := 1) (dst := some 19) rfl rfl (by kernel_rfl) (by kernel_rfl) (by kernel_rfl) (fun _ _ _ h => h) (by rfl) hHeld ?_) | (refine' takeH (i := 1) (dst := some 19) (v := _) rfl rfl (by kernel_rfl) (by kernel_rfl) (by kernel_rfl) (fun _ _ _ h => h) (by rfl) ?hy hHeld ?_; case hy => (intro w hSw; clear hSw; (first | done | go_simp); try with_reducible rfl)) | fail
      try simp only [Act.put, List.setIfInBounds_toArray, List.set_cons_zero, List.set_cons_succ]
      first | (refine skipH (i := 2) (dst := some 20) rfl rfl (by kernel_rfl) (by kernel_rfl) (by kernel_rfl) (fun _ _ _ h => h) (by rfl) hHeld ?_) | (refine' takeH (i := 2) (dst := some 20) (v := _) rfl rfl (by kernel_rfl) (by kernel_rfl) (by kernel_rfl) (fun _ _ _ h => h) (by rfl) ?hy hHeld ?_; case hy => (intro w hSw; obtain ⟨⟨_, _⟩, _⟩ := hSw; (first | done | go_simp); try with_reducible rfl)) | fail
      try simp only [Act.put, List.setIfInBounds_toArray, List.set_cons_zero, List.set_cons_succ]
      first | (refine skipH (i := 5) (dst := some 23) rfl rfl (by kernel_rfl) (by kernel_rfl) (by kernel_rfl) (fun _ _ _ h => h) (by rfl) hHeld ?_) | (refine' takeH (i := 5) (dst := some 23) (v := _) rfl rfl (by kernel_rfl) (by kernel_rfl) (by kernel_rfl) (fun _ _ _ h => h) (by rfl) ?hy hHeld ?_; case hy => (intro w hSw; clear hSw; (first | done | go_simp); try with_reducible rfl)) | fail
      try simp only [Act.put, List.setIfInBounds_toArray, List.set_cons_zero, List.set_cons_succ]
      first | (refine skipH (i := 6) (dst := some 24) rfl rfl (by kernel_rfl) (by kernel_rfl) (by kernel_rfl) (fun _ _ _ h => h) (by rfl) hHeld ?_) | (refine' takeH (i := 6) (dst := some 24) (v := _) rfl rfl (by kernel_rfl) (by kernel_rfl) (by kernel_rfl) (fun _ _ _ h => h) (by rfl) ?hy hHeld ?_; case hy => (intro w hSw; obtain ⟨⟨_, _⟩, _⟩ := hSw; (first | done | go_simp); try with_reducible rfl)) | fail
      try simp only [Act.put, List.setIfInBounds_toArray, List.set_cons_zero, List.set_cons_succ]
      refine wpAnyH_ready (rs := [0]) (by kernel_rfl) (by simp) ?_
      refine AllReadyH.cons (i := 0) (o := ⟨some 18, .call _, _, _, _, _⟩) rfl (fun K hK => ?_) AllReadyH.nil
      go_simp
      refine (arrays_any _).mono ?_
      rintro e w3 ⟨rfl, hm, hb3⟩
      have HM := Lib.hid hm
      have HB3 := Lib.hid (bt hHeld.2 hb3)
      have hH := HCY.out w3 HB3.out
      clear hm hb3
      refine hK.out _ _ hH (fun _ => ?_)
      clear hK K hHeld
      have hHeld := hH
      clear hH
      try simp only [Act.put, List.setIfInBounds_toArray, List.set_cons_zero, List.set_cons_succ]
      refine wpAnyH_ready (rs := [3]) (by kernel_rfl) (by simp) ?_
      refine AllReadyH.cons (i := 3) (o := ⟨some 21, .lookup _ _ _ _, _, _, _, _⟩) rfl (fun K hK => ?_) AllReadyH.nil
      refine step_look (by first | rfl | simp [Region.wanted, yielded]) (.tmp 18) (.tmp 20) 90 rfl 9 88 nameLaw Tryd.underlying90 rd (zeroFn _) (.held .nilFunc) [] rfl w2.drew.heap.size 5 DA rfl HM.out _ _ rfl HKEY.out ?_
      rw [HFD.out.2.1]
      intro v ps hv
      obtain rfl : v = fnV ff := (by unfold Rm.rd at hv; injection hv with hv; injection hv with hv _; injection hv)
      unfold fnV
      clear hv
      refine hK.out _ _ hHeld (fun _ => ?_)
      clear hK K
      try simp only [Act.put, List.setIfInBounds_toArray, List.set_cons_zero, List.set_cons_succ]
      refine wpAnyH_ready (rs := [4]) (by kernel_rfl) (by simp) ?_
      refine AllReadyH.cons (i := 4) (o := ⟨some 22, .call _, _, _, _, _⟩) rfl (fun K hK => ?_) AllReadyH.nil
      go_simp
      refine (HFD.out.2.2.1 w3 (HT2.out.below HB3.out)).mono ?_
      rintro e w4 ⟨g, rfl, hg, hh, hb4⟩
      have HB4 := Lib.hid (bt HB3.out hb4)
      have hH := HCY.out w4 HB4.out
      have l0 : w4.cell? ⟨g, en, none⟩ = some (.int .i64 ((lookT (tabsI 5) df).getD en 0)) := by
        rw [Lib.cell_of_heap hh en]
        rw [List.getElem?_toArray]
        exact i64s_at _ en hlt
      clear hg hh hb4 HFD heg
      have y1 : (0 : Int) ≤ (en : Int) := by omega
      have y2 : (en : Int) < (fnn : Int) := by omega
      have y3 : en < fnn := by omega
      generalize (lookT (tabsI 5) df).getD en 0 = vv at l0 HFIN
      refine hK.out _ _ hH (fun _ => ?_)
      clear hK K hHeld
      have hHeld := hH
      clear hH
      try simp only [Act.put, List.setIfInBounds_toArray, List.set_cons_zero, List.set_cons_succ]
      first | (refine skipH (i := 7) (dst := some 25) rfl rfl (by kernel_rfl) (by kernel_rfl) (by kernel_rfl) (fun _ _ _ h => h) (by rfl) hHeld ?_) | (refine' takeH (i := 7) (dst := some 25) (v := _) rfl rfl (by kernel_rfl) (by kernel_rfl) (by kernel_rfl) (fun _ _ _ h => h) (by rfl) ?hy hHeld ?_; case hy => (intro w hSw; clear hSw; (first | done | go_simp); try with_reducible rfl)) | fail
      try simp only [Act.put, List.setIfInBounds_toArray, List.set_cons_zero, List.set_cons_succ]
      refine wpAnyH_ready (rs := [8]) (by kernel_rfl) (by simp) ?_
      refine AllReadyH.cons (i := 8) (o := ⟨some 26, .load _ _, _, _, _, _⟩) rfl (fun K hK => ?_) AllReadyH.nil
      go_simp
      refine hK.out _ _ hHeld (fun _ => ?_)
      clear hK K
      try simp only [Act.put, List.setIfInBounds_toArray, List.set_cons_zero, List.set_cons_succ]
      first | (refine skipH (i := 9) (dst := some 2) rfl rfl (by kernel_rfl) (by kernel_rfl) (by kernel_rfl) (fun _ _ _ h => h) (by rfl) hHeld ?_) | (refine' takeH (i := 9) (dst := some 2) (v := _) rfl rfl (by kernel_rfl) (by kernel_rfl) (by kernel_rfl) (fun _ _ _ h => h) (by rfl) ?hy hHeld ?_; case hy => (intro w hSw; clear hSw; (first | done | go_simp); try with_reducible rfl)) | fail
      try simp only [Act.put, List.setIfInBounds_toArray, List.set_cons_zero, List.set_cons_succ]
      first | (refine skipH (i := 10) (dst := some 3) rfl rfl (by kernel_rfl) (by kernel_rfl) (by kernel_rfl) (fun _ _ _ h => h) (by rfl) hHeld ?_) | (refine' takeH (i := 10) (dst := some 3) (v := _) rfl rfl (by kernel_rfl) (by kernel_rfl) (by kernel_rfl) (fun _ _ _ h => h) (by rfl) ?hy hHeld ?_; case hy => (intro w hSw; clear hSw; (first | done | go_simp); try with_reducible rfl)) | fail
      try simp only [Act.put, List.setIfInBounds_toArray, List.set_cons_zero, List.set_cons_succ]
      refine wpAnyH_done (by kernel_rfl) (NoPanic.normal ?_) _
      clear hHeld
      go_wp2_with fail
      go_ret2
      exact HFIN.out _ (bt HB2.out HB4.out)
    · have hv : EntV d 0 = (0, 6) := if_neg (fun h => h0 h.2)
      have HFIN := Lib.hid (fun w' (h : Below w.heap.size w w') => show EntPost nm w (.returned (.tuple #[.int .i64 0, .int .i64 6])) w' from ⟨d, 0, HREL.out, by rw [hv], h⟩)
      clear hv HREL hE hfl
      obtain ⟨dn, df, dl, dc, ds, dq, de⟩ := d
      obtain ⟨ra, rn, rc⟩ := r
      unfold cardV cells7
      dsimp only at h0 HFIN ⊢
      simp only [slV]
      generalize str df = D1
      generalize str dn = D0
      generalize str dq = D5
      have BX := Lib.hid (grows' w1 (.cells #[.string D0, .string D1, .int .u8 dl, .slice ra rn rc, .int .i8 ds, .string D5, .int .i16 de] 27))
      have hd : decide (de < 0) = true := decide_eq_true (by omega)
      go_wp2_with fail
      go_ret2
      exact HFIN.out _ (bt HB.out BX.out)
  · have hv : EntV cd0 6 = (0, 6) := rfl
    have HFIN := Lib.hid (fun w' (h : Below w.heap.size w w') => show EntPost nm w (.returned (.tuple #[.int .i64 0, .int .i64 6])) w' from ⟨cd0, 6, HREL.out, by rw [hv], h⟩)
    clear hv HREL
    obtain ⟨ra, rn, rc⟩ := r
    have BX := Lib.hid (grows' w1 (.cells #[.string ⟨#[]⟩, .string ⟨#[]⟩, .int .u8 0, .slice ra rn rc, .int .i8 0, .string ⟨#[]⟩, .int .i16 0] 27))
    unfold cardV cells7
    simp only [slV, show str cd0.name = ⟨#[]⟩ from rfl, show str cd0.fam = ⟨#[]⟩ from rfl, show str cd0.quirk = ⟨#[]⟩ from rfl, show cd0.level = 0 from rfl, show cd0.score = 0 from rfl, show cd0.entry = 0 from rfl]
    go_wp2_with fail
    go_ret2
    exact HFIN.out _ (bt HB.out BX.out)
end Go.Proofs.YtmlfnihicocilaaDoor.Kq
