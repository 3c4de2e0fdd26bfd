/- The document's Same. -/
import Derived.Test.YtfafhkhamaccfaaTrQ
import Derived.Laws.StructEq
namespace Go.Proofs.Ytfafhkhamaccfaa.Tr
open Go.ChangeShapes Go.WideShapes Go.ChangeAt Go.RowKit Own wordsNames

theorem nd_ext {d d' : Nd} (h1 : d.parent = d'.parent) (h2 : d.name = d'.name) (h3 : d.props = d'.props) : d = d' := by
  cases d; cases d'; simp_all
theorem list_ext {α : Type} (z : α) {l l' : List α} (hl : l.length = l'.length) (h : ∀ i, i < l.length → l.getD i z = l'.getD i z) : l = l' := by
  refine List.ext_getElem hl fun i h1 h2 => ?_
  have := h i h1
  rw [List.getD_eq_getElem?_getD, List.getD_eq_getElem?_getD, List.getElem?_eq_getElem h1, List.getElem?_eq_getElem h2] at this
  exact this
theorem str_ne {a b : List UInt8} (h : a ≠ b) : ((str a).toList == (str b).toList) = false := by rw [eq_lists]; exact decide_eq_false h

theorem prop_equalIn (X1 X2 Y1 Y2 : ByteArray) (w : World) : (Op.equalIn 10000 54 (.agg #[.string X1, .string X2]) (.agg #[.string Y1, .string Y2])).run Try.prog w = .ok (X1.toList == Y1.toList && X2.toList == Y2.toList) w := by
  have hu := Try.underlying54
  have hs := Try.underlying9
  have hf : Try.prog.underlying 54 = some (.struct (Try.prog.fieldsOf 54)) := by simp only [Program.fieldsOf, hu]
  rw [run_equalIn_struct w 9999 54 _ _ hf (by kernel_rfl)]
  simp only [Program.fieldsOf, hu]
  have h1 := run_equalIn_string (P := Try.prog) w 9998 9 X1 Y1 hs
  have h2 := run_equalIn_string (P := Try.prog) w 9998 9 X2 Y2 hs
  simp only [show 9998 + 1 = 9999 from rfl] at h1 h2
  simp [Op.eqFields, part, h1, h2]
  by_cases e1 : X1.toList = Y1.toList <;> by_cases e2 : X2.toList = Y2.toList <;> simp [e1, e2]
theorem prop_neq {X1 X2 Y1 Y2 : ByteArray} {b1 b2 : Bool} (h1 : (X1.toList == Y1.toList) = b1) (h2 : (X2.toList == Y2.toList) = b2) (w : World) : (binOp .neq 54 (.agg #[.string X1, .string X2]) (.agg #[.string Y1, .string Y2])).run Try.prog w = .ok (.bool (!(b1 && b2))) w := by
  rw [run_neq_struct, prop_equalIn, h1, h2]
  rfl
set_option maxRecDepth 100000 in
set_option maxHeartbeats 8000000 in
theorem refSame_any (A A' : Option Addr) (c c' n n' : Nat) (L L' : List Nd) (R R' : List Sl) (g : Bool) (w : World) (hg : g = true ↔ L = L') (hm : Mild L) (hm' : Mild L') (hA : NodesIn w A n L R) (hA' : NodesIn w A' n' L' R') :
    Calls Try.prog 15 #[.slice A n c, .slice A' n' c'] w fun e w' => e = .returned (.bool g) ∧ ∃ q, w' = w.drewN q := by
  have hnb : n ≤ 16777216 := by have := hm.1; have := hA.1; omega
  have hnb' : n' ≤ 16777216 := by have := hm'.1; have := hA'.1; omega
  have HG := Lib.hid hg
  have HM := Lib.hid hm
  have HM' := Lib.hid hm'
  have GA := Lib.hid hA
  have GA' := Lib.hid hA'
  have HN := Lib.hid hA.1
  have HN' := Lib.hid hA'.1
  clear hg hm hm' hA hA'
  by_cases hnn : n = n'
  case' neg =>
    have t0 : ((n : Int) != (n' : Int)) = true := bne_iff_ne.2 (by omega)
    have HF : Hid (g = false) := Lib.hid (Bool.eq_false_iff.2 fun e => hnn (by rw [HN.out, HN'.out, HG.out.1 e]))
    clear hnn
    go_enter Try.func15, Try.ntmps15
    go_wp2_with fail
    go_ret
    rw [HF.out]
    exact ⟨rfl, 0, rfl⟩
  subst hnn
  go_enter Try.func15, Try.ntmps15
  go_wp2_with fail
  go_loopw [5] (fun v5 wr => ∃ i q : Nat, i ≤ n ∧ v5 = .int .i64 i ∧ wr = w.drewN q ∧ Hid (∀ j, j < i → L.getD j nd0 = L'.getD j nd0)) (fun v5 _ => n - (RowKit.intOf v5).toNat)
  case atStart => exact ⟨0, 0, by omega, rfl, rfl, Lib.hid fun j hj => by omega⟩
  case round =>
    obtain ⟨i, q, hi, rfl, rfl, HI⟩ := hrel
    by_cases hlt : i < n
    · obtain ⟨b, o, rfl, hbs, hc⟩ := GA.out.at (by omega)
      obtain ⟨b', o', rfl, hbs', hc'⟩ := GA'.out.at (by omega)
      obtain ⟨⟨e1, e2, e3⟩, e4⟩ := hc i hlt
      obtain ⟨⟨d1, d2, d3⟩, d4⟩ := hc' i hlt
      have HNO : Hid (L.getD i nd0 ≠ L'.getD i nd0 → g = false) := Lib.hid fun hne => Bool.eq_false_iff.2 fun e => hne (by rw [HG.out.1 e])
      have HI2 : Hid (L.getD i nd0 = L'.getD i nd0 → ∀ j, j < i + 1 → L.getD j nd0 = L'.getD j nd0) := Lib.hid fun he j hj => by
        by_cases hji : j = i
        · rw [hji]; exact he
        · exact HI.out j (by omega)
      have hml := (HM.out.2 i).2.1
      have hml' := (HM'.out.2 i).2.1
      clear hc hc'
      generalize L.getD i nd0 = d at e1 e2 e4 HNO HI2 hml
      generalize L'.getD i nd0 = d' at d1 d2 d4 HNO HI2 hml'
      obtain ⟨pa, nm, ps⟩ := d
      obtain ⟨pa', nm', ps'⟩ := d'
      generalize R.getD i sl0 = r at e3 e4
      generalize R'.getD i sl0 = r' at d3 d4
      obtain ⟨ra, rn, rc⟩ := r
      obtain ⟨ra', rn', rc'⟩ := r'
      simp only at e1 e2 e3 e4 d1 d2 d3 d4 hml hml'
      have HRN := Lib.hid e4.1
      have HRN' := Lib.hid d4.1
      have E4 := Lib.hid e4
      have D4 := Lib.hid d4
      have hrn : rn ≤ 16777216 := by have := e4.1; omega
      have hrn' : rn' ≤ 16777216 := by have := d4.1; omega
      clear e4 d4
      have HEQ := Lib.hid (eq_lists nm nm')
      generalize str nm = S at e2 HEQ
      generalize str nm' = S' at d2 HEQ
      have k1 : (0 : Int) ≤ (i : Int) := by omega
      have k2 : (i : Int) < (n : Int) := by omega
      by_cases hp : pa = pa'
      case' neg =>
        have t1 : (pa == pa') = false := beq_eq_false_iff_ne.2 hp
        have t1' : (pa != pa') = true := bne_iff_ne.2 hp
        have HF := Lib.hid (HNO.out fun e => hp (by injection e))
        clear hp
      case' pos =>
        have t1 : (pa == pa') = true := beq_iff_eq.2 hp
        have t1' : (pa != pa') = false := by rw [hp]; simp
        by_cases hn : nm = nm'
        case' neg =>
          have t2 : (S.toList == S'.toList) = false := by rw [HEQ.out]; exact decide_eq_false hn
          have HF := Lib.hid (HNO.out fun e => hn (by injection e))
          clear hp hn
        case' pos =>
          have t2 : (S.toList == S'.toList) = true := by rw [HEQ.out]; exact decide_eq_true hn
          by_cases hl : rn = rn'
          case' neg =>
            have t3 : ((rn : Int) == (rn' : Int)) = false := beq_eq_false_iff_ne.2 (by omega)
            have t3' : ((rn : Int) != (rn' : Int)) = true := bne_iff_ne.2 (by omega)
            have HF := Lib.hid (HNO.out fun e => hl (by
              rw [HRN.out, HRN'.out]
              injection e with _ _ e3
              rw [e3]))
            clear hp hn hl
          case' pos =>
            have t3 : ((rn : Int) == (rn' : Int)) = true := beq_iff_eq.2 (by omega)
            have t3' : ((rn : Int) != (rn' : Int)) = false := by rw [hl]; simp
            subst hp hn hl
            clear HEQ HM HM'
            go_wp2_with fail
            go_quiet (fail)
            go_wp2_with fail
            go_loopw [6] (fun v6 wr => ∃ k q2 : Nat, k ≤ rn ∧ v6 = .int .i64 k ∧ wr = w.drewN q2 ∧ Hid (∀ j, j < k → ps.getD j ([], []) = ps'.getD j ([], []))) (fun v6 _ => rn - (RowKit.intOf v6).toNat)
            case atStart => exact ⟨0, _, by omega, rfl, World.drewN_drewN _ _ _, Lib.hid fun j hj => by omega⟩
            case round =>
              obtain ⟨k, q2, hk, rfl, rfl, HK⟩ := hrel
              by_cases hkl : k < rn
              · obtain ⟨bp, op, rfl, _, hcp⟩ := E4.out.at (by omega)
                obtain ⟨bq, oq, rfl, _, hcq⟩ := D4.out.at (by omega)
                obtain ⟨f1, f2⟩ := hcp k hkl
                obtain ⟨g1, g2⟩ := hcq k hkl
                have HNE : Hid (ps.getD k ([], []) ≠ ps'.getD k ([], []) → g = false) := Lib.hid fun hne => HNO.out fun e => hne (by injection e with _ _ e3; rw [e3])
                have HK2 : Hid (ps.getD k ([], []) = ps'.getD k ([], []) → ∀ j, j < k + 1 → ps.getD j ([], []) = ps'.getD j ([], [])) := Lib.hid fun he j hj => by
                  by_cases hjk : j = k
                  · rw [hjk]; exact he
                  · exact HK.out j (by omega)
                clear hcp hcq
                generalize ps.getD k ([], []) = x at f1 f2 HNE HK2
                generalize ps'.getD k ([], []) = y at g1 g2 HNE HK2
                obtain ⟨x1, x2⟩ := x
                obtain ⟨y1, y2⟩ := y
                simp only at f1 f2 g1 g2
                have HE1 := Lib.hid (eq_lists x1 y1)
                have HE2 := Lib.hid (eq_lists x2 y2)
                generalize str x1 = X1 at f1 HE1
                generalize str x2 = X2 at f2 HE2
                generalize str y1 = Y1 at g1 HE1
                generalize str y2 = Y2 at g2 HE2
                have i1 : (0 : Int) ≤ (k : Int) := by omega
                have i2 : (k : Int) < (rn : Int) := by omega
                by_cases hxy : (x1, x2) = (y1, y2)
                case' neg =>
                  have hne : ∃ b, b = true ∧ ∀ w, (binOp .neq 54 (.agg #[.string X1, .string X2]) (.agg #[.string Y1, .string Y2])).run Try.prog w = .ok (.bool b) w := by
                    refine ⟨_, ?_, prop_neq rfl rfl⟩
                    rw [HE1.out, HE2.out]
                    by_cases e1 : x1 = y1
                    · have e2 : ¬ x2 = y2 := fun e => hxy (by rw [e1, e])
                      simp [e2]
                    · simp [e1]
                  obtain ⟨_, rfl, hne⟩ := hne
                  have HF := Lib.hid (HNE.out hxy)
                  clear hxy HE1 HE2
                  go_wp2_with fail
                  go_quiet (fail)
                  go_wp2_with fail
                  go_ret
                  rw [HF.out]
                  exact ⟨rfl, _, World.drewN_drewN _ _ _⟩
                have hne : ∃ b, b = false ∧ ∀ w, (binOp .neq 54 (.agg #[.string X1, .string X2]) (.agg #[.string Y1, .string Y2])).run Try.prog w = .ok (.bool b) w := by
                  refine ⟨_, ?_, prop_neq rfl rfl⟩
                  rw [HE1.out, HE2.out]
                  injection hxy with e1 e2
                  simp [e1, e2]
                obtain ⟨_, rfl, hne⟩ := hne
                have HK3 := Lib.hid (HK2.out hxy)
                clear hxy HE1 HE2
                go_wp2_with fail
                go_quiet (fail)
                go_wp2_with fail
                go_roundw
                case rel => exact ⟨k + 1, _, by omega, by go_num, rfl, HK3⟩
                case measure => simp [RowKit.intOf]; omega
              · obtain rfl : rn = k := by omega
                have HI3 := Lib.hid (HI2.out (by
                  have e : ps = ps' := list_ext ([], []) (by rw [← HRN.out, ← HRN'.out]) fun j hj => HK.out j (by rw [HRN.out]; exact hj)
                  rw [e]))
                go_wp2_with fail
                go_roundw
                case rel => exact ⟨i + 1, q2, by omega, by go_num, rfl, HI3⟩
                case measure => simp [RowKit.intOf]; omega
      all_goals
        go_wp2_with fail
        go_quiet (fail)
        go_wp2_with fail
        go_ret
        rw [HF.out]
        exact ⟨rfl, _, World.drewN_drewN _ _ _⟩
    · obtain rfl : n = i := by omega
      have HF : Hid (g = true) := Lib.hid (HG.out.2 (list_ext nd0 (by rw [← HN.out, ← HN'.out]) fun j hj => HI.out j (by rw [HN.out]; exact hj)))
      go_wp2_with fail
      go_ret
      rw [HF.out]
      exact ⟨rfl, q, rfl⟩
end Go.Proofs.Ytfafhkhamaccfaa.Tr
