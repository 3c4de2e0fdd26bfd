/- Two cards compared by the document. -/
import Derived.Test.YtnnaoneegeenkaaKcS
namespace Go.Proofs.Ytnnaoneegeenkaa.Kc
open Go.ChangeShapes Go.WideShapes Go.ChangeAt Go.RowKit Own Ro wordsNames

theorem int_neb (a b : Int) : (a != b) = !decide (a = b) := by rw [bne, int_eqb]
theorem str_neb (a b : List UInt8) : (!((str a).toList == (str b).toList)) = !decide (a = b) := by rw [eq_lists]
theorem lists_eq (l l' : List (List UInt8)) (n : Nat) (h1 : n = l.length) (h2 : n = l'.length) : l = l' ↔ ∀ i, i < n → l.getD i [] = l'.getD i [] := by
  constructor
  · rintro rfl i _
    rfl
  · intro h
    exact list_ext [] (by omega) fun i hi => h i (by omega)
set_option maxRecDepth 100000 in
set_option maxHeartbeats 16000000 in
theorem refSame_any (a b : Cd) (r s : Sl) (g : Bool) (w : World) (hg : g = true ↔ a = b) (hma : MildC 1099511627776 a) (hmb : MildC 1099511627776 b) (hr : r.2.1 = a.compat.length) (hs : s.2.1 = b.compat.length)
    (hA : CellsIn w 1 r.1 r.2.1 (strs a.compat)) (hB : CellsIn w 1 s.1 s.2.1 (strs b.compat)) :
    Calls Try.prog 24 #[cardV a r, cardV b s] w fun e w' => e = .returned (.bool g) ∧ Below w.heap.size w w' := by
  have B1 := Lib.hid (grows' w (.cells (cells7 a r) 37))
  have B2 := Lib.hid (bt B1.out (grows' (w.alloc (.cells (cells7 a r) 37)) (.cells (cells7 b s) 37)))
  have GA := Lib.hid (hA.below B2.out)
  have GB := Lib.hid (hB.below B2.out)
  have HRL := Lib.hid hr
  have HSL := Lib.hid hs
  have hrb : r.2.1 ≤ 1099511627776 := by have := hma.2.2.2.1; omega
  have hsb : s.2.1 ≤ 1099511627776 := by have := hmb.2.2.2.1; omega
  obtain ⟨gc, hgc⟩ := bool_ex (a.compat = b.compat)
  have HGC := Lib.hid hgc
  have HG : Hid (g = (decide (a.name = b.name) && decide (a.fam = b.fam) && decide (a.level = b.level) && decide (a.score = b.score) && decide (a.quirk = b.quirk) && decide (a.entry = b.entry) && gc)) := Lib.hid (by
    rw [Bool.eq_iff_iff, hg, cd_ext]
    simp [and_assoc, hgc]
    intro _ _ _
    exact ⟨fun ⟨x4, x5, x6, x7⟩ => ⟨x5, x6, x7, x4⟩, fun ⟨x5, x6, x7, x4⟩ => ⟨x4, x5, x6, x7⟩⟩)
  have q1 := eq_lists a.name b.name
  have q2 := eq_lists a.fam b.fam
  have q3 := int_neb a.level b.level
  have q5 := int_neb a.score b.score
  have q6 := eq_lists a.quirk b.quirk
  have q7 := int_neb a.entry b.entry
  have C : ∀ (j : Nat) (v : Value), (cells7 a r)[j]? = some v → ((w.alloc (.cells (cells7 a r) 37)).alloc (.cells (cells7 b s) 37)).cell? ⟨w.heap.size, j, none⟩ = some v := fun j v h => by
    rw [(grows' (w.alloc (.cells (cells7 a r) 37)) _).cell (p := ⟨w.heap.size, j, none⟩) (by simp)]
    exact box7s w a r _ j v h
  have D : ∀ (j : Nat) (v : Value), (cells7 b s)[j]? = some v → ((w.alloc (.cells (cells7 a r) 37)).alloc (.cells (cells7 b s) 37)).cell? ⟨w.heap.size + 1, j, none⟩ = some v := fun j v h => by
    have := box7s (w.alloc (.cells (cells7 a r) 37)) b s 37 j v h
    have e : (w.alloc (.cells (cells7 a r) 37)).heap.size = w.heap.size + 1 := by simp
    rw [e] at this
    exact this
  have c0 := C 0 _ rfl
  have c1 := C 1 _ rfl
  have c2 := C 2 _ rfl
  have c3 := C 3 _ rfl
  have c4 := C 4 _ rfl
  have c5 := C 5 _ rfl
  have c6 := C 6 _ rfl
  have d0 := D 0 _ rfl
  have d1 := D 1 _ rfl
  have d2 := D 2 _ rfl
  have d3 := D 3 _ rfl
  have d4 := D 4 _ rfl
  have d5 := D 5 _ rfl
  have d6 := D 6 _ rfl
  clear C D hg hma hmb hr hs hA hB hgc
  unfold cardV
  unfold cells7 at c0 c1 c2 c3 c4 c5 c6 d0 d1 d2 d3 d4 d5 d6 B1 B2 GA GB ⊢
  obtain ⟨nm, fm, lv, cp, sc, qk, en⟩ := a
  obtain ⟨nm2, fm2, lv2, cp2, sc2, qk2, en2⟩ := b
  obtain ⟨ra, rn, rc⟩ := r
  obtain ⟨sa, sn, sd⟩ := s
  simp only [slV] at c0 c1 c2 c3 c4 c5 c6 d0 d1 d2 d3 d4 d5 d6 B1 B2 GA GB HRL HSL HGC HG q1 q2 q3 q5 q6 q7 hrb hsb ⊢
  generalize decide (nm = nm2) = g1 at HG q1
  generalize decide (fm = fm2) = g2 at HG q2
  generalize decide (lv = lv2) = g3 at HG q3
  generalize decide (sc = sc2) = g5 at HG q5
  generalize decide (qk = qk2) = g6 at HG q6
  generalize decide (en = en2) = g7 at HG q7
  generalize str nm = S1 at c0 c1 c2 c3 c4 c5 c6 d0 d1 d2 d3 d4 d5 d6 B1 B2 GA GB q1 ⊢
  generalize str fm = S2 at c0 c1 c2 c3 c4 c5 c6 d0 d1 d2 d3 d4 d5 d6 B1 B2 GA GB q2 ⊢
  generalize str qk = S3 at c0 c1 c2 c3 c4 c5 c6 d0 d1 d2 d3 d4 d5 d6 B1 B2 GA GB q6 ⊢
  generalize str nm2 = T1 at c0 c1 c2 c3 c4 c5 c6 d0 d1 d2 d3 d4 d5 d6 B2 GA GB q1 ⊢
  generalize str fm2 = T2 at c0 c1 c2 c3 c4 c5 c6 d0 d1 d2 d3 d4 d5 d6 B2 GA GB q2 ⊢
  generalize str qk2 = T3 at c0 c1 c2 c3 c4 c5 c6 d0 d1 d2 d3 d4 d5 d6 B2 GA GB q6 ⊢
  clear B1
  rcases or7 g1 g2 g3 g5 g6 g7 true with rfl | ⟨rfl, rfl⟩ | ⟨rfl, rfl, rfl⟩ | ⟨rfl, rfl, rfl, rfl⟩ | ⟨rfl, rfl, rfl, rfl, rfl⟩ | ⟨rfl, rfl, rfl, rfl, rfl, rfl⟩ | ⟨rfl, rfl, rfl, rfl, rfl, rfl, h⟩ | ⟨rfl, rfl, rfl, rfl, rfl, rfl, h⟩
  case inr.inr.inr.inr.inr.inr.inl => cases h
  case inr.inr.inr.inr.inr.inr.inr =>
    clear h
    have HGT : Hid (g = gc) := Lib.hid (by rw [HG.out]; rfl)
    by_cases hl : rn = sn
    case neg =>
      have t4 : ((rn : Int) != (sn : Int)) = true := by rw [int_neb, decide_eq_false (by omega)]; rfl
      have HF : Hid (g = false) := Lib.hid (by rw [HGT.out]; exact Bool.eq_false_iff.2 fun e => hl (by rw [HRL.out, HSL.out, HGC.out.1 e]))
      go_enter Try.func24, Try.ntmps24
      go_wp2_with fail
      go_ret
      rw [HF.out]
      exact ⟨rfl, B2.out⟩
    subst hl
    have t4 : ((rn : Int) != (rn : Int)) = false := by rw [int_neb, decide_eq_true rfl]; rfl
    have HLE := Lib.hid (lists_eq cp cp2 rn HRL.out HSL.out)
    go_enter Try.func24, Try.ntmps24
    go_wp2_with fail
    clear c0 c1 c2 c4 c5 c6 d0 d1 d2 d4 d5 d6 q1 q2 q3 q5 q6 q7 t4
    generalize ((w.alloc (.cells #[.string S1, .string S2, .int .u8 lv, .slice ra rn rc, .int .i8 sc, .string S3, .int .i16 en] 37)).alloc (.cells #[.string T1, .string T2, .int .u8 lv2, .slice sa rn sd, .int .i8 sc2, .string T3, .int .i16 en2] 37)) = y at c3 d3 B2 GA GB ⊢
    go_loopw [5] (fun v5 wr => ∃ (k q : Nat), k ≤ rn ∧ v5 = .int .i64 k ∧ wr = y.drewN q ∧ Hid (∀ i, i < k → cp.getD i [] = cp2.getD i [])) (fun v5 _ => rn - (RowKit.intOf v5).toNat)
    case atStart => exact ⟨0, 0, by omega, rfl, rfl, Lib.hid fun i hi => by omega⟩
    case round =>
      obtain ⟨k, q, hk, rfl, rfl, HK⟩ := hrel
      by_cases hlt : k < rn
      · obtain ⟨b0, o0, rfl, hbs, hc⟩ := GA.out.at (by omega)
        obtain ⟨b1, o1, rfl, hbs1, hd⟩ := GB.out.at (by omega)
        have e0 := hc k _ (strs_at cp k (by rw [← HRL.out]; exact hlt))
        have e1 := hd k _ (strs_at cp2 k (by rw [← HSL.out]; exact hlt))
        have qs := eq_lists (cp.getD k []) (cp2.getD k [])
        have HX : Hid (decide (cp.getD k [] = cp2.getD k []) = true ↔ cp.getD k [] = cp2.getD k []) := Lib.hid decide_eq_true_iff
        generalize decide (cp.getD k [] = cp2.getD k []) = gx at qs HX
        have k1 : (0 : Int) ≤ (k : Int) := by omega
        have k2 : (k : Int) < (rn : Int) := by omega
        clear hc hd
        generalize str (cp.getD k []) = X1 at e0 qs
        generalize str (cp2.getD k []) = X2 at e1 qs
        cases gx with
        | false =>
          have HF : Hid (g = false) := Lib.hid (by rw [HGT.out]; exact Bool.eq_false_iff.2 fun e => by cases HX.out.2 (HLE.out.1 (HGC.out.1 e) k hlt))
          go_wp2_with fail
          go_region
          all_goals
            go_wp2_with fail
            go_ret
            rw [HF.out]
            exact ⟨rfl, below_dr B2.out _⟩
        | true =>
          go_wp2_with fail
          go_region
          all_goals
            go_wp2_with fail
            go_roundw
            case rel => exact ⟨k + 1, _, by omega, by go_num, rfl, Lib.hid fun i hi => by
              by_cases hik : i = k
              · rw [hik]; exact HX.out.1 (by simp)
              · exact HK.out i (by omega)⟩
            case measure => simp [RowKit.intOf]; omega
      · obtain rfl : rn = k := by omega
        have HT : Hid (g = true) := Lib.hid (by rw [HGT.out]; exact HGC.out.2 (HLE.out.2 HK.out))
        go_wp2_with fail
        go_ret
        rw [HT.out]
        exact ⟨rfl, below_dr B2.out _⟩
  all_goals
    go_enter Try.func24, Try.ntmps24
    go_wp2_with fail
    go_ret
    rw [HG.out]
    exact ⟨rfl, B2.out⟩
end Go.Proofs.Ytnnaoneegeenkaa.Kc
