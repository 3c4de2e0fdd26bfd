/- slices.Sort over small numbers: a heap's root sinks; the heap sort. -/
import Derived.Test.YtjpimamjcckieaaDoorPqA
import Derived.Deep.Cut
import Derived.Deep.DeepCutAuto
namespace Go.Proofs.YtjpimamjcckieaaDoor.Pq
open Go.ChangeShapes Go.WideShapes Go.ChangeAt Go.RowKit Go.Sort Go.Shelf

section
variable {lt : Int → Int → Bool} {hi first r : Nat} {d : Array Int}
theorem sift_leaf (h : hi ≤ 2 * r + 1) : siftDown lt hi first r d = d := by
  unfold siftDown
  rw [dif_pos h]
theorem sift_hi (_h : 2 * r + 1 < hi) (h2 : 2 * r + 2 < hi) (h3 : lt d[first + (2 * r + 1)]! d[first + (2 * r + 2)]! = true) (b : Bool) (h4 : lt d[first + r]! d[first + (2 * r + 2)]! = b) : siftDown lt hi first r d = if b then siftDown lt hi first (2 * r + 2) (swp d (first + r) (first + (2 * r + 2))) else d := by
  conv => lhs; unfold siftDown
  rw [dif_neg (by omega), if_pos (by rw [show first + (2 * r + 1) + 1 = first + (2 * r + 2) by omega, h3]; simp; omega), h4]
  cases b
  · rfl
  · rw [dif_pos h2]; rfl
theorem sift_lo (h : 2 * r + 1 < hi) (h2 : ¬ 2 * r + 2 < hi ∨ lt d[first + (2 * r + 1)]! d[first + (2 * r + 2)]! = false) (b : Bool) (h4 : lt d[first + r]! d[first + (2 * r + 1)]! = b) : siftDown lt hi first r d = if b then siftDown lt hi first (2 * r + 1) (swp d (first + r) (first + (2 * r + 1))) else d := by
  conv => lhs; unfold siftDown
  rw [dif_neg (by omega), if_neg, h4]
  · cases b
    · rfl
    · rfl
  · rw [show first + (2 * r + 1) + 1 = first + (2 * r + 2) by omega]
    simp only [Bool.and_eq_true, decide_eq_true_eq, not_and]
    intro h5
    rcases h2 with h2 | h2
    · exact absurd h5 (by omega)
    · rw [h2]; decide
end
set_option maxRecDepth 100000 in
set_option maxHeartbeats 16000000 in
theorem sift_any (blk off cap lo hi first : Nat) (d0 d : Array Int) (w0 w : World) (R : Row1 enc w0 blk off d0) (hs : d.size = d0.size) (S : SW enc w0 blk off d w) (hb : first + hi ≤ d.size) (hsz : d.size < 1152921504606846976) (hlo : lo ≤ hi) :
    Calls Tryd.prog 23 #[.slice (some ⟨blk, off, none⟩) d.size cap, .int .i64 (lo : Int), .int .i64 (hi : Int), .int .i64 (first : Int)] w fun e w' => e = .returned (.tuple #[]) ∧ ∃ d', d'.size = d0.size ∧ d' = siftDown ltInt hi first lo d ∧ SW enc w0 blk off d' w' := by
  have S0 := Lib.hid S
  have HZ := Lib.hid hs
  clear S hs
  go_enter Tryd.func23, Tryd.ntmps23
  go_wp2
  go_loopg [8, 9] hi (fun g1 vr _ wr => ∃ (r : Nat) (dk : Array Int), vr = .int .i64 (r : Int) ∧ r ≤ hi ∧ hi - r ≤ g1 ∧ dk.size = d.size ∧ Hid (SW enc w0 blk off dk wr) ∧ Hid (siftDown ltInt hi first r dk = siftDown ltInt hi first lo d))
  case atStart => exact ⟨lo, d, rfl, hlo, by omega, rfl, S0, Lib.hid rfl⟩
  case round =>
    clear S0
    obtain ⟨r, dk, rfl, hr, hg1, hsk, S1, HI⟩ := hrel
    obtain ⟨c, hcz⟩ : ∃ c : Nat, 2 * (r : Int) + 1 = (c : Int) := ⟨2 * r + 1, by omega⟩
    have hw1 : IntKind.i64.wrap (2 * (r : Int)) = 2 * (r : Int) := by rw [IntKind.wrap_i64]; omega
    have hw2 : IntKind.i64.wrap (c : Int) = (c : Int) := by rw [IntKind.wrap_i64]; omega
    by_cases hlt : c < hi
    · have hltz : ¬ (hi : Int) ≤ (c : Int) := by omega
      have HCQ := Lib.hid (show c = 2 * r + 1 by omega)
      have hrc : r < c := by omega
      obtain ⟨e, hez⟩ : ∃ e : Nat, (c : Int) + 1 = (e : Int) := ⟨c + 1, by omega⟩
      have hw3 : IntKind.i64.wrap (e : Int) = (e : Int) := by rw [IntKind.wrap_i64]; omega
      have HEQ := Lib.hid (show e = 2 * r + 2 by omega)
      by_cases hle : e < hi
      · have hlez : (e : Int) < (hi : Int) := by omega
        obtain ⟨icN, hicN⟩ : ∃ q, q = first + c := ⟨_, rfl⟩
        have ice : ((first : Int) + (c : Int)).toNat = icN := by omega
        have icp : (0 : Int) ≤ (first : Int) + (c : Int) := by omega
        have icb : (first : Int) + (c : Int) < (d.size : Int) := by omega
        have icr : IntKind.i64.wrap ((first : Int) + (c : Int)) = (first : Int) + (c : Int) := by rw [IntKind.wrap_i64]; omega

        obtain ⟨ieN, hieN⟩ : ∃ q, q = first + e := ⟨_, rfl⟩
        have iee : ((first : Int) + (c : Int) + 1).toNat = ieN := by omega
        have iep : (0 : Int) ≤ (first : Int) + (c : Int) + 1 := by omega
        have ieb : (first : Int) + (c : Int) + 1 < (d.size : Int) := by omega
        have ier : IntKind.i64.wrap ((first : Int) + (c : Int) + 1) = (first : Int) + (c : Int) + 1 := by rw [IntKind.wrap_i64]; omega

        obtain ⟨u, hu⟩ : ∃ x, x = dk[first + c]! := ⟨_, rfl⟩
        have lu := S1.out.c1 R (by have := HZ.out; omega) (first + c) (by omega)
        rw [← hu, ← hicN] at lu

        obtain ⟨v, hv⟩ : ∃ x, x = dk[first + e]! := ⟨_, rfl⟩
        have lv := S1.out.c1 R (by have := HZ.out; omega) (first + e) (by omega)
        rw [← hv, ← hieN] at lv

        unfold enc at lu lv
        have HC := Lib.hid (And.intro hu hv)
        clear hu hv hicN hieN
        rcases hlw : ltInt u v with _ | _
        · have hcv := Lib.hid (show ltInt dk[first + (2 * r + 1)]! dk[first + (2 * r + 2)]! = false by rw [← HCQ.out, ← HEQ.out, ← HC.out.1, ← HC.out.2]; exact hlw)
          go_upto_region 3 with fail
          go_quiet (first | (go_at_call 18; refine Calls.quiet_of_same (less_any _ _ _)))
          have S2 : Hid (SW enc w0 blk off dk (wr.drewN nq)) := Lib.hid (S1.out.drewN nq)
          clear lu lv S1
          generalize wr.drewN nq = w2 at S2 ⊢
          clear nq
          clear ice icp icb icr iee iep ieb ier
          clear HC hlw
          obtain ⟨iaN, hiaN⟩ : ∃ q, q = first + r := ⟨_, rfl⟩
          have iae : ((first : Int) + (r : Int)).toNat = iaN := by omega
          have iap : (0 : Int) ≤ (first : Int) + (r : Int) := by omega
          have iab : (first : Int) + (r : Int) < (d.size : Int) := by omega
          have iar : IntKind.i64.wrap ((first : Int) + (r : Int)) = (first : Int) + (r : Int) := by rw [IntKind.wrap_i64]; omega

          obtain ⟨ibN, hibN⟩ : ∃ q, q = first + c := ⟨_, rfl⟩
          have ibe : ((first : Int) + (c : Int)).toNat = ibN := by omega
          have ibp : (0 : Int) ≤ (first : Int) + (c : Int) := by omega
          have ibb : (first : Int) + (c : Int) < (d.size : Int) := by omega
          have ibr : IntKind.i64.wrap ((first : Int) + (c : Int)) = (first : Int) + (c : Int) := by rw [IntKind.wrap_i64]; omega

          obtain ⟨x, hx⟩ : ∃ x, x = dk[first + r]! := ⟨_, rfl⟩
          have lx := S2.out.c1 R (by have := HZ.out; omega) (first + r) (by omega)
          rw [← hx, ← hiaN] at lx

          obtain ⟨y, hy⟩ : ∃ x, x = dk[first + c]! := ⟨_, rfl⟩
          have ly := S2.out.c1 R (by have := HZ.out; omega) (first + c) (by omega)
          rw [← hy, ← hibN] at ly

          have HH := Lib.hid (fun (b : Bool) (h4 : ltInt x y = b) => show (if b then siftDown ltInt hi first c (swp dk (first + r) (first + c)) else dk) = siftDown ltInt hi first lo d from by
            have e1 := HCQ.out
            have e2 := HEQ.out
            subst e1 e2
            rw [hx, hy] at h4
            rw [← HI.out, sift_lo (by omega) (.inr hcv.out) b h4])
          have HX := Lib.hid (And.intro hx (And.intro hy (And.intro hiaN hibN)))
          clear hx hy hiaN hibN
          unfold enc at lx ly
          rcases hlv : ltInt x y with _ | _
          · go_wp2_with fail
            go_quiet (first | (go_at_call 18; refine Calls.quiet_of_same (less_any _ _ _)))
            have S4 : Hid (SW enc w0 blk off dk (w2.drewN nq)) := Lib.hid (S2.out.drewN nq)
            generalize w2.drewN nq = w3 at S4 ⊢
            go_wp2
            ((try simp only [Exit.inBlock, Exit.then]); refine bodyPost_ret (results_none rfl _ _ _) rfl ?_)
            exact ⟨rfl, dk, by rw [hsk]; exact HZ.out, HH.out false hlv, S4.out⟩
          · go_wp2_with fail
            go_quiet (first | (go_at_call 18; refine Calls.quiet_of_same (less_any _ _ _)))
            have S4 : Hid (SW enc w0 blk off dk (w2.drewN nq)) := Lib.hid (S2.out.drewN nq)
            clear lx ly S2
            generalize w2.drewN nq = w3 at S4 ⊢
            clear nq
            have H9 := Lib.hid (show siftDown ltInt hi first c (swp dk (first + r) (first + c)) = siftDown ltInt hi first lo d from HH.out true hlv)
            have HSZ := Lib.hid (show (swp dk (first + r) (first + c)).size = d.size by rw [size_swp]; exact hsk)
            obtain ⟨hx, hy, hiaN, hibN⟩ := HX.out
            have S5 := Lib.hid (S4.out.swapped R (first + r) (first + c) (by omega) (by omega))
            have c1a := S4.out.c1 R (by have := HZ.out; omega) (first + r) (by omega)
            have c1b := S4.out.c1 R (by have := HZ.out; omega) (first + c) (by omega)
            have f1a := S4.out.f1 R (by have := HZ.out; omega) (first + r) (by omega)
            have f1b := S4.out.f1 R (by have := HZ.out; omega) (first + c) (by omega)
            obtain ⟨u, c1c⟩ := S4.out.c2 R (by have := HZ.out; omega) (first + r) (first + c) (by omega) (by omega) (enc y)
            rw [← hx, ← hy, ← hiaN, ← hibN] at S5
            rw [← hiaN, ← hibN] at c1c
            rw [← hx, ← hiaN] at c1a
            rw [← hy, ← hibN] at c1b
            rw [← hiaN] at f1a
            rw [← hibN] at f1b
            unfold enc at c1a c1b c1c S5

            rw [← hiaN, ← hibN] at H9 HSZ
            clear S4 hx hy hiaN hibN HX HH
            go_wp2_with fail
            go_big_region
            clear c1a c1b c1c f1a f1b
            generalize ((w3.setCell ⟨blk, off + iaN, none⟩ (.int .i8 y)).setCell ⟨blk, off + ibN, none⟩ (.int .i8 x)).drew = w4 at S5 ⊢

            clear iae ibe
            go_wp2
            go_roundg (hi - c)
            case measure => have := HCQ.out; have := HEQ.out; omega
            case rel => exact ⟨c, _, by first | rfl | go_num, by omega, by omega, HSZ.out, S5, H9⟩

        · have hcv := Lib.hid (show ltInt dk[first + (2 * r + 1)]! dk[first + (2 * r + 2)]! = true by rw [← HCQ.out, ← HEQ.out, ← HC.out.1, ← HC.out.2]; exact hlw)
          go_upto_region 3 with fail
          go_quiet (first | (go_at_call 18; refine Calls.quiet_of_same (less_any _ _ _)))
          have S2 : Hid (SW enc w0 blk off dk (wr.drewN nq)) := Lib.hid (S1.out.drewN nq)
          clear lu lv S1
          generalize wr.drewN nq = w2 at S2 ⊢
          clear nq
          clear ice icp icb icr iee iep ieb ier
          clear HC hlw
          obtain ⟨iaN, hiaN⟩ : ∃ q, q = first + r := ⟨_, rfl⟩
          have iae : ((first : Int) + (r : Int)).toNat = iaN := by omega
          have iap : (0 : Int) ≤ (first : Int) + (r : Int) := by omega
          have iab : (first : Int) + (r : Int) < (d.size : Int) := by omega
          have iar : IntKind.i64.wrap ((first : Int) + (r : Int)) = (first : Int) + (r : Int) := by rw [IntKind.wrap_i64]; omega

          obtain ⟨ibN, hibN⟩ : ∃ q, q = first + e := ⟨_, rfl⟩
          have ibe : ((first : Int) + (e : Int)).toNat = ibN := by omega
          have ibp : (0 : Int) ≤ (first : Int) + (e : Int) := by omega
          have ibb : (first : Int) + (e : Int) < (d.size : Int) := by omega
          have ibr : IntKind.i64.wrap ((first : Int) + (e : Int)) = (first : Int) + (e : Int) := by rw [IntKind.wrap_i64]; omega

          obtain ⟨x, hx⟩ : ∃ x, x = dk[first + r]! := ⟨_, rfl⟩
          have lx := S2.out.c1 R (by have := HZ.out; omega) (first + r) (by omega)
          rw [← hx, ← hiaN] at lx

          obtain ⟨y, hy⟩ : ∃ x, x = dk[first + e]! := ⟨_, rfl⟩
          have ly := S2.out.c1 R (by have := HZ.out; omega) (first + e) (by omega)
          rw [← hy, ← hibN] at ly

          have HH := Lib.hid (fun (b : Bool) (h4 : ltInt x y = b) => show (if b then siftDown ltInt hi first e (swp dk (first + r) (first + e)) else dk) = siftDown ltInt hi first lo d from by
            have e1 := HCQ.out
            have e2 := HEQ.out
            subst e1 e2
            rw [hx, hy] at h4
            rw [← HI.out, sift_hi (by omega) (by omega) hcv.out b h4])
          have HX := Lib.hid (And.intro hx (And.intro hy (And.intro hiaN hibN)))
          clear hx hy hiaN hibN
          unfold enc at lx ly
          rcases hlv : ltInt x y with _ | _
          · go_wp2_with fail
            go_quiet (first | (go_at_call 18; refine Calls.quiet_of_same (less_any _ _ _)))
            have S4 : Hid (SW enc w0 blk off dk (w2.drewN nq)) := Lib.hid (S2.out.drewN nq)
            generalize w2.drewN nq = w3 at S4 ⊢
            go_wp2
            ((try simp only [Exit.inBlock, Exit.then]); refine bodyPost_ret (results_none rfl _ _ _) rfl ?_)
            exact ⟨rfl, dk, by rw [hsk]; exact HZ.out, HH.out false hlv, S4.out⟩
          · go_wp2_with fail
            go_quiet (first | (go_at_call 18; refine Calls.quiet_of_same (less_any _ _ _)))
            have S4 : Hid (SW enc w0 blk off dk (w2.drewN nq)) := Lib.hid (S2.out.drewN nq)
            clear lx ly S2
            generalize w2.drewN nq = w3 at S4 ⊢
            clear nq
            have H9 := Lib.hid (show siftDown ltInt hi first e (swp dk (first + r) (first + e)) = siftDown ltInt hi first lo d from HH.out true hlv)
            have HSZ := Lib.hid (show (swp dk (first + r) (first + e)).size = d.size by rw [size_swp]; exact hsk)
            obtain ⟨hx, hy, hiaN, hibN⟩ := HX.out
            have S5 := Lib.hid (S4.out.swapped R (first + r) (first + e) (by omega) (by omega))
            have c1a := S4.out.c1 R (by have := HZ.out; omega) (first + r) (by omega)
            have c1b := S4.out.c1 R (by have := HZ.out; omega) (first + e) (by omega)
            have f1a := S4.out.f1 R (by have := HZ.out; omega) (first + r) (by omega)
            have f1b := S4.out.f1 R (by have := HZ.out; omega) (first + e) (by omega)
            obtain ⟨u, c1c⟩ := S4.out.c2 R (by have := HZ.out; omega) (first + r) (first + e) (by omega) (by omega) (enc y)
            rw [← hx, ← hy, ← hiaN, ← hibN] at S5
            rw [← hiaN, ← hibN] at c1c
            rw [← hx, ← hiaN] at c1a
            rw [← hy, ← hibN] at c1b
            rw [← hiaN] at f1a
            rw [← hibN] at f1b
            unfold enc at c1a c1b c1c S5

            rw [← hiaN, ← hibN] at H9 HSZ
            clear S4 hx hy hiaN hibN HX HH
            go_wp2_with fail
            go_big_region
            clear c1a c1b c1c f1a f1b
            generalize ((w3.setCell ⟨blk, off + iaN, none⟩ (.int .i8 y)).setCell ⟨blk, off + ibN, none⟩ (.int .i8 x)).drew = w4 at S5 ⊢

            clear iae ibe
            go_wp2
            go_roundg (hi - e)
            case measure => have := HCQ.out; have := HEQ.out; omega
            case rel => exact ⟨e, _, by first | rfl | go_num, by omega, by omega, HSZ.out, S5, H9⟩

      · have hlez : ¬ (e : Int) < (hi : Int) := by omega
        have hlezb : decide ((e : Int) < (hi : Int)) = false := decide_eq_false hlez
        go_upto_region 3 with fail
        go_big_region
        have S2 : Hid (SW enc w0 blk off dk wr.drew) := Lib.hid S1.out.drew
        clear S1
        generalize wr.drew = w2 at S2 ⊢
        obtain ⟨iaN, hiaN⟩ : ∃ q, q = first + r := ⟨_, rfl⟩
        have iae : ((first : Int) + (r : Int)).toNat = iaN := by omega
        have iap : (0 : Int) ≤ (first : Int) + (r : Int) := by omega
        have iab : (first : Int) + (r : Int) < (d.size : Int) := by omega
        have iar : IntKind.i64.wrap ((first : Int) + (r : Int)) = (first : Int) + (r : Int) := by rw [IntKind.wrap_i64]; omega

        obtain ⟨ibN, hibN⟩ : ∃ q, q = first + c := ⟨_, rfl⟩
        have ibe : ((first : Int) + (c : Int)).toNat = ibN := by omega
        have ibp : (0 : Int) ≤ (first : Int) + (c : Int) := by omega
        have ibb : (first : Int) + (c : Int) < (d.size : Int) := by omega
        have ibr : IntKind.i64.wrap ((first : Int) + (c : Int)) = (first : Int) + (c : Int) := by rw [IntKind.wrap_i64]; omega

        obtain ⟨x, hx⟩ : ∃ x, x = dk[first + r]! := ⟨_, rfl⟩
        have lx := S2.out.c1 R (by have := HZ.out; omega) (first + r) (by omega)
        rw [← hx, ← hiaN] at lx

        obtain ⟨y, hy⟩ : ∃ x, x = dk[first + c]! := ⟨_, rfl⟩
        have ly := S2.out.c1 R (by have := HZ.out; omega) (first + c) (by omega)
        rw [← hy, ← hibN] at ly

        have HH := Lib.hid (fun (b : Bool) (h4 : ltInt x y = b) => show (if b then siftDown ltInt hi first c (swp dk (first + r) (first + c)) else dk) = siftDown ltInt hi first lo d from by
          have e1 := HCQ.out
          have e2 := HEQ.out
          subst e1 e2
          rw [hx, hy] at h4
          rw [← HI.out, sift_lo (by omega) (.inl (by omega)) b h4])
        have HX := Lib.hid (And.intro hx (And.intro hy (And.intro hiaN hibN)))
        clear hx hy hiaN hibN
        unfold enc at lx ly
        rcases hlv : ltInt x y with _ | _
        · go_wp2_with fail
          go_quiet (first | (go_at_call 18; refine Calls.quiet_of_same (less_any _ _ _)))
          have S4 : Hid (SW enc w0 blk off dk (w2.drewN nq)) := Lib.hid (S2.out.drewN nq)
          generalize w2.drewN nq = w3 at S4 ⊢
          go_wp2
          ((try simp only [Exit.inBlock, Exit.then]); refine bodyPost_ret (results_none rfl _ _ _) rfl ?_)
          exact ⟨rfl, dk, by rw [hsk]; exact HZ.out, HH.out false hlv, S4.out⟩
        · go_wp2_with fail
          go_quiet (first | (go_at_call 18; refine Calls.quiet_of_same (less_any _ _ _)))
          have S4 : Hid (SW enc w0 blk off dk (w2.drewN nq)) := Lib.hid (S2.out.drewN nq)
          clear lx ly S2
          generalize w2.drewN nq = w3 at S4 ⊢
          clear nq
          have H9 := Lib.hid (show siftDown ltInt hi first c (swp dk (first + r) (first + c)) = siftDown ltInt hi first lo d from HH.out true hlv)
          have HSZ := Lib.hid (show (swp dk (first + r) (first + c)).size = d.size by rw [size_swp]; exact hsk)
          obtain ⟨hx, hy, hiaN, hibN⟩ := HX.out
          have S5 := Lib.hid (S4.out.swapped R (first + r) (first + c) (by omega) (by omega))
          have c1a := S4.out.c1 R (by have := HZ.out; omega) (first + r) (by omega)
          have c1b := S4.out.c1 R (by have := HZ.out; omega) (first + c) (by omega)
          have f1a := S4.out.f1 R (by have := HZ.out; omega) (first + r) (by omega)
          have f1b := S4.out.f1 R (by have := HZ.out; omega) (first + c) (by omega)
          obtain ⟨u, c1c⟩ := S4.out.c2 R (by have := HZ.out; omega) (first + r) (first + c) (by omega) (by omega) (enc y)
          rw [← hx, ← hy, ← hiaN, ← hibN] at S5
          rw [← hiaN, ← hibN] at c1c
          rw [← hx, ← hiaN] at c1a
          rw [← hy, ← hibN] at c1b
          rw [← hiaN] at f1a
          rw [← hibN] at f1b
          unfold enc at c1a c1b c1c S5

          rw [← hiaN, ← hibN] at H9 HSZ
          clear S4 hx hy hiaN hibN HX HH
          go_wp2_with fail
          go_big_region
          clear c1a c1b c1c f1a f1b
          generalize ((w3.setCell ⟨blk, off + iaN, none⟩ (.int .i8 y)).setCell ⟨blk, off + ibN, none⟩ (.int .i8 x)).drew = w4 at S5 ⊢

          clear iae ibe
          go_wp2
          go_roundg (hi - c)
          case measure => have := HCQ.out; have := HEQ.out; omega
          case rel => exact ⟨c, _, by first | rfl | go_num, by omega, by omega, HSZ.out, S5, H9⟩
    · have hltz : (hi : Int) ≤ (c : Int) := by omega
      have HF := Lib.hid (show dk = siftDown ltInt hi first lo d by rw [← HI.out, sift_leaf (by omega)])
      go_wp2
      go_end0
      exact ⟨rfl, dk, by rw [hsk]; exact HZ.out, HF.out, S1.out⟩
end Go.Proofs.YtjpimamjcckieaaDoor.Pq
