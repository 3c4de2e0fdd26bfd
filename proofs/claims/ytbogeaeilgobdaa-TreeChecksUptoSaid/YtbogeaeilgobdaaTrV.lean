/- The program's Same. -/
import Derived.Test.YtbogeaeilgobdaaTrU
import Derived.Test.YtbogeaeilgobdaaTrR
namespace Go.Proofs.Ytbogeaeilgobdaa.Tr
open Go.ChangeShapes Go.WideShapes Go.ChangeAt Go.RowKit Own wordsNames

set_option maxRecDepth 100000 in
set_option maxHeartbeats 4000000 in
theorem equalP_any (A A' : Option Addr) (c c' n n' : Nat) (ps ps' : List Pr) (g : Bool) (w : World) (hg : g = true ↔ ps = ps') (hnb : n ≤ 16777216) (hnb' : n' ≤ 16777216) (hA : PropsIn w A n ps) (hA' : PropsIn w A' n' ps') :
    Calls Try.prog 25 #[.slice A n c, .slice A' n' c'] w fun e w' => e = .returned (.bool g) ∧ ∃ q, w' = w.drewN q := by
  have HG := Lib.hid hg
  have GA := Lib.hid hA
  have GA' := Lib.hid hA'
  have HN := Lib.hid hA.1
  have HN' := Lib.hid hA'.1
  clear hg hA hA'
  by_cases hnn : n = n'
  case' neg =>
    have t0 : ((n : Int) != (n' : Int)) = true := bne_iff_ne.2 (by omega)
    have HF : Hid (g = false) := Lib.hid (Bool.eq_false_iff.2 fun e => hnn (by rw [HN.out, HN'.out, HG.out.1 e]))
    clear hnn
    go_enter Try.func25, Try.ntmps25
    go_wp2_with fail
    go_ret
    rw [HF.out]
    exact ⟨rfl, 0, rfl⟩
  subst hnn
  go_enter Try.func25, Try.ntmps25
  go_wp2_with fail
  go_loopw [13] (fun v13 wr => ∃ k q2 : Nat, k ≤ n ∧ v13 = .int .i64 k ∧ wr = w.drewN q2 ∧ Hid (∀ j, j < k → ps.getD j ([], []) = ps'.getD j ([], []))) (fun v13 _ => n - (RowKit.intOf v13).toNat)
  case atStart => exact ⟨0, 0, by omega, rfl, rfl, Lib.hid fun j hj => by omega⟩
  case round =>
    obtain ⟨k, q2, hk, rfl, rfl, HK⟩ := hrel
    by_cases hkl : k < n
    · obtain ⟨bp, op, rfl, _, hcp⟩ := GA.out.at (by omega)
      obtain ⟨bq, oq, rfl, _, hcq⟩ := GA'.out.at (by omega)
      obtain ⟨f1, f2⟩ := hcp k hkl
      obtain ⟨g1, g2⟩ := hcq k hkl
      have HNE : Hid (ps.getD k ([], []) ≠ ps'.getD k ([], []) → g = false) := Lib.hid fun hne => Bool.eq_false_iff.2 fun e => hne (by rw [HG.out.1 e])
      have HK2 : Hid (ps.getD k ([], []) = ps'.getD k ([], []) → ∀ j, j < k + 1 → ps.getD j ([], []) = ps'.getD j ([], [])) := Lib.hid fun he j hj => by
        by_cases hjk : j = k
        · rw [hjk]; exact he
        · exact HK.out j (by omega)
      clear hcp hcq
      generalize ps.getD k ([], []) = x at f1 f2 HNE HK2
      generalize ps'.getD k ([], []) = y at g1 g2 HNE HK2
      obtain ⟨x1, x2⟩ := x
      obtain ⟨y1, y2⟩ := y
      simp only at f1 f2 g1 g2
      have HE1 := Lib.hid (eq_lists x1 y1)
      have HE2 := Lib.hid (eq_lists x2 y2)
      generalize str x1 = X1 at f1 HE1
      generalize str x2 = X2 at f2 HE2
      generalize str y1 = Y1 at g1 HE1
      generalize str y2 = Y2 at g2 HE2
      have i1 : (0 : Int) ≤ (k : Int) := by omega
      have i2 : (k : Int) < (n : Int) := by omega
      by_cases hxy : (x1, x2) = (y1, y2)
      case' neg =>
        have hne : ∃ b, b = true ∧ ∀ w, (binOp .neq 32 (.agg #[.string X1, .string X2]) (.agg #[.string Y1, .string Y2])).run Try.prog w = .ok (.bool b) w := by
          refine ⟨_, ?_, prop_neq rfl rfl⟩
          rw [HE1.out, HE2.out]
          by_cases e1 : x1 = y1
          · have e2 : ¬ x2 = y2 := fun e => hxy (by rw [e1, e])
            simp [e2]
          · simp [e1]
        obtain ⟨_, rfl, hne⟩ := hne
        have HF := Lib.hid (HNE.out hxy)
        clear hxy HE1 HE2
        go_wp2_with fail
        go_quiet (fail)
        go_wp2_with fail
        go_ret
        rw [HF.out]
        exact ⟨rfl, _, World.drewN_drewN _ _ _⟩
      have hne : ∃ b, b = false ∧ ∀ w, (binOp .neq 32 (.agg #[.string X1, .string X2]) (.agg #[.string Y1, .string Y2])).run Try.prog w = .ok (.bool b) w := by
        refine ⟨_, ?_, prop_neq rfl rfl⟩
        rw [HE1.out, HE2.out]
        injection hxy with e1 e2
        simp [e1, e2]
      obtain ⟨_, rfl, hne⟩ := hne
      have HK3 := Lib.hid (HK2.out hxy)
      clear hxy HE1 HE2
      go_wp2_with fail
      go_quiet (fail)
      go_wp2_with fail
      go_roundw
      case rel => exact ⟨k + 1, _, by omega, by go_num, rfl, HK3⟩
      case measure => simp [RowKit.intOf]; omega
    · obtain rfl : n = k := by omega
      have HF : Hid (g = true) := Lib.hid (HG.out.2 (list_ext ([], []) (by rw [← HN.out, ← HN'.out]) fun j hj => HK.out j (by rw [HN.out]; exact hj)))
      go_wp2_with fail
      go_ret
      rw [HF.out]
      exact ⟨rfl, q2, rfl⟩
theorem nbox (w : World) (x y z : Value) (t : TypeId) (i : Nat) (v : Value) (h : #[x, y, z][i]? = some v) : (w.alloc (.cells #[x, y, z] t)).cell? ⟨w.heap.size, i, none⟩ = some v := by rw [Lib.cell_of_heap (heap_alloc_new w _)]; exact h
set_option maxRecDepth 100000 in
set_option maxHeartbeats 4000000 in
theorem sameNd_any (d d' : Nd) (r r' : Sl) (g : Bool) (w : World) (hg : g = true ↔ d = d') (hb : d.props.length ≤ 16777216) (hb' : d'.props.length ≤ 16777216) (hA : PropsIn w r.1 r.2.1 d.props) (hA' : PropsIn w r'.1 r'.2.1 d'.props) :
    Calls Try.prog 24 #[.agg #[.int .i64 d.parent, .string (str d.name), .slice r.1 r.2.1 r.2.2], .agg #[.int .i64 d'.parent, .string (str d'.name), .slice r'.1 r'.2.1 r'.2.2]] w fun e w' => e = .returned (.bool g) ∧ Below w.heap.size w w' := by
  obtain ⟨pa, nm, ps⟩ := d
  obtain ⟨pa', nm', ps'⟩ := d'
  obtain ⟨ra, rn, rc⟩ := r
  obtain ⟨ra', rn', rc'⟩ := r'
  simp only at hb hb' hA hA' ⊢
  obtain ⟨g3, h3⟩ := bool_ex (ps = ps')
  have HG : Hid (g = (decide (pa = pa') && decide (nm = nm') && g3)) := Lib.hid (by
    rw [Bool.eq_iff_iff, hg, Bool.and_eq_true, Bool.and_eq_true, decide_eq_true_iff, decide_eq_true_iff, h3]
    exact ⟨fun e => by injection e with e1 e2 e3; exact ⟨⟨e1, e2⟩, e3⟩, fun ⟨⟨e1, e2⟩, e3⟩ => by rw [e1, e2, e3]⟩)
  have H3 := Lib.hid fun (W : World) (hW : Below w.heap.size w W) => equalP_any ra ra' rc rc' rn rn' ps ps' g3 W h3 (by rw [hA.1]; exact hb) (by rw [hA'.1]; exact hb') (hA.below hW) (hA'.below hW)
  have HE := Lib.hid (eq_lists nm nm')
  have b1 := grows' w (.cells #[.int .i64 pa, .string (str nm), .slice ra rn rc] 30)
  have b2 := (b1.alloc (by simp) (.cells #[.int .i64 pa', .string (str nm'), .slice ra' rn' rc'] 30) : Below w.heap.size w _)
  have hs : (w.alloc (.cells #[.int .i64 pa, .string (str nm), .slice ra rn rc] 30)).heap.size = w.heap.size + 1 := by simp
  have B2 := Lib.hid b2
  have k0 := fun (i : Nat) (v : Value) (h : #[Value.int .i64 pa, .string (str nm), .slice ra rn rc][i]? = some v) => nbox w (.int .i64 pa) (.string (str nm)) (.slice ra rn rc) 30 i v h
  have k1 := fun (i : Nat) (v : Value) (h : #[Value.int .i64 pa', .string (str nm'), .slice ra' rn' rc'][i]? = some v) => nbox (w.alloc (.cells #[.int .i64 pa, .string (str nm), .slice ra rn rc] 30)) (.int .i64 pa') (.string (str nm')) (.slice ra' rn' rc') 30 i v h
  have kk := fun (i : Nat) => (grows' (w.alloc (.cells #[.int .i64 pa, .string (str nm), .slice ra rn rc] 30)) (.cells #[.int .i64 pa', .string (str nm'), .slice ra' rn' rc'] 30)).cell (p := ⟨w.heap.size, i, none⟩) (by rw [hs]; exact Nat.lt_succ_self _)
  have c0 := (kk 0).trans (k0 0 _ rfl)
  have c1 := (kk 1).trans (k0 1 _ rfl)
  have c2 := (kk 2).trans (k0 2 _ rfl)
  have d0 := k1 0 _ rfl
  have d1 := k1 1 _ rfl
  have d2 := k1 2 _ rfl
  rw [hs] at d0 d1 d2
  clear k0 k1 kk hA hA' h3 hg b1 b2 hb hb'
  generalize str nm = S at c0 c1 c2 d0 d1 d2 HE B2 hs ⊢
  generalize str nm' = S' at c0 c1 c2 d0 d1 d2 HE B2 ⊢
  have HT : Hid (Ending.returned (.bool ((pa == pa') && (S.toList == S'.toList) && g3)) = .returned (.bool g)) := Lib.hid (by
    rw [HG.out, HE.out]
    by_cases e : pa = pa' <;> simp [e])
  by_cases hp : pa = pa'
  · subst hp
    have t1 : (pa == pa) = true := beq_iff_eq.2 rfl
    by_cases hn : (S.toList == S'.toList) = true
    · rw [t1, hn] at HT
      go_enter Try.func24, Try.ntmps24
      go_wp2_with fail
      refine (H3.out _ B2.out).mono ?_
      rintro e w2 ⟨rfl, q, rfl⟩
      go_wp2_with fail
      go_ret
      exact ⟨HT.out, below_dr B2.out q⟩
    · have hn' : (S.toList == S'.toList) = false := by simpa using hn
      rw [t1, hn'] at HT
      clear hn
      go_enter Try.func24, Try.ntmps24
      go_wp2_with fail
      go_ret
      exact ⟨HT.out, B2.out⟩
  · have t1 : (pa == pa') = false := beq_eq_false_iff_ne.2 hp
    rw [t1] at HT
    clear hp
    go_enter Try.func24, Try.ntmps24
    go_wp2_with fail
    go_ret
    exact ⟨HT.out, B2.out⟩
set_option maxRecDepth 100000 in
set_option maxHeartbeats 4000000 in
theorem equalFunc_any (A A' : Option Addr) (c c' n n' : Nat) (L L' : List Nd) (R R' : List Sl) (g : Bool) (w : World) (hg : g = true ↔ L = L') (hm : Mild L) (hm' : Mild L') (hA : NodesIn w A n L R) (hA' : NodesIn w A' n' L' R') :
    Calls Try.prog 23 #[.slice A n c, .slice A' n' c', .func (Fn.func 24) #[] #[]] w fun e w' => e = .returned (.bool g) ∧ Below w.heap.size w w' := by
  have hnb : n ≤ 16777216 := by have := hm.1; have := hA.1; omega
  have hnb' : n' ≤ 16777216 := by have := hm'.1; have := hA'.1; omega
  have HG := Lib.hid hg
  have HM := Lib.hid hm
  have HM' := Lib.hid hm'
  have GA := Lib.hid hA
  have GA' := Lib.hid hA'
  have HN := Lib.hid hA.1
  have HN' := Lib.hid hA'.1
  clear hg hm hm' hA hA'
  by_cases hnn : n = n'
  case' neg =>
    have t0 : ((n : Int) != (n' : Int)) = true := bne_iff_ne.2 (by omega)
    have HF : Hid (g = false) := Lib.hid (Bool.eq_false_iff.2 fun e => hnn (by rw [HN.out, HN'.out, HG.out.1 e]))
    clear hnn
    go_enter Try.func23, Try.ntmps23
    go_wp2_with fail
    go_ret
    rw [HF.out]
    exact ⟨rfl, Below.refl _ _⟩
  subst hnn
  go_enter Try.func23, Try.ntmps23
  go_wp2_with fail
  go_loopw [17] (fun v17 wr => ∃ i : Nat, i ≤ n ∧ v17 = .int .i64 i ∧ Below w.heap.size w wr ∧ Hid (∀ j, j < i → L.getD j nd0 = L'.getD j nd0)) (fun v17 _ => n - (RowKit.intOf v17).toNat)
  case atStart => exact ⟨0, by omega, rfl, Below.refl _ _, Lib.hid fun j hj => by omega⟩
  case round =>
    obtain ⟨i, hi, rfl, hbw, HI⟩ := hrel
    have HB := Lib.hid hbw
    clear hbw
    by_cases hlt : i < n
    · obtain ⟨b, o, rfl, hbs, hc⟩ := (GA.out.below HB.out).at (by omega)
      obtain ⟨b', o', rfl, hbs', hc'⟩ := (GA'.out.below HB.out).at (by omega)
      obtain ⟨⟨e1, e2, e3⟩, e4⟩ := hc i hlt
      obtain ⟨⟨d1, d2, d3⟩, d4⟩ := hc' i hlt
      have HNO : Hid (L.getD i nd0 ≠ L'.getD i nd0 → g = false) := Lib.hid fun hne => Bool.eq_false_iff.2 fun e => hne (by rw [HG.out.1 e])
      have HI2 : Hid (L.getD i nd0 = L'.getD i nd0 → ∀ j, j < i + 1 → L.getD j nd0 = L'.getD j nd0) := Lib.hid fun he j hj => by
        by_cases hji : j = i
        · rw [hji]; exact he
        · exact HI.out j (by omega)
      have hml := (HM.out.2 i).2.1
      have hml' := (HM'.out.2 i).2.1
      obtain ⟨g1, h1⟩ := bool_ex (L.getD i nd0 = L'.getD i nd0)
      have HS := Lib.hid fun (W : World) (hW : Below wr.heap.size wr W) => sameNd_any (L.getD i nd0) (L'.getD i nd0) (R.getD i sl0) (R'.getD i sl0) g1 W h1 (by omega) (by omega) (e4.below hW) (d4.below hW)
      have H1 := Lib.hid h1
      clear hc hc' e4 d4 h1 hml hml'
      generalize L.getD i nd0 = d at e1 e2 HNO HI2 HS H1
      generalize L'.getD i nd0 = d' at d1 d2 HNO HI2 HS H1
      generalize R.getD i sl0 = r at e3 HS
      generalize R'.getD i sl0 = r' at d3 HS
      have k1 : (0 : Int) ≤ (i : Int) := by omega
      have k2 : (i : Int) < (n : Int) := by omega
      go_wp2_with fail
      refine (HS.out _ ((grows' wr _).alloc (by simp) _)).mono ?_
      rintro e w5 ⟨rfl, b5⟩
      have B5 := Lib.hid (bt HB.out (bt ((grows' wr _).alloc (by simp) _) b5))
      clear b5
      cases g1 with
      | false =>
        have HF := Lib.hid (HNO.out fun e => by have := H1.out.2 e; cases this)
        go_wp2_with fail
        go_ret
        rw [HF.out]
        exact ⟨rfl, B5.out⟩
      | true =>
        have HI3 := Lib.hid (HI2.out (H1.out.1 rfl))
        go_wp2_with fail
        go_roundw
        case rel => exact ⟨i + 1, by omega, by go_num, B5.out, HI3⟩
        case measure => simp [RowKit.intOf]; omega
    · obtain rfl : n = i := by omega
      have HF : Hid (g = true) := Lib.hid (HG.out.2 (list_ext nd0 (by rw [← HN.out, ← HN'.out]) fun j hj => HI.out j (by rw [HN.out]; exact hj)))
      go_wp2_with fail
      go_ret
      rw [HF.out]
      exact ⟨rfl, HB.out⟩
theorem tSame_any (A A' : Option Addr) (c c' n n' : Nat) (L L' : List Nd) (R R' : List Sl) (g : Bool) (w : World) (hg : g = true ↔ L = L') (hm : Mild L) (hm' : Mild L') (hA : NodesIn w A n L R) (hA' : NodesIn w A' n' L' R') :
    Calls Try.prog 9 #[.slice A n c, .slice A' n' c'] w fun e w' => e = .returned (.bool g) ∧ Below w.heap.size w w' := by
  have HE := Lib.hid (equalFunc_any A A' c c' n n' L L' R R' g w hg hm hm' hA hA')
  clear hg hm hm' hA hA'
  go_enter Try.func9, Try.ntmps9
  go_wp2_with fail
  refine HE.out.mono ?_
  rintro e w2 ⟨rfl, hb⟩
  go_wp2_with fail
  go_ret
  exact ⟨rfl, hb⟩
end Go.Proofs.Ytbogeaeilgobdaa.Tr
