/- The document's dividers and chains (P8.2). -/
import Derived.Test.YthalnepbafnogaaCrD
namespace Go.Proofs.Ythalnepbafnogaa.Cr
open Go.ChangeShapes Go.WideShapes Go.ChangeAt Go.RowKit Own Ro

theorem ceil_bd' (f x : Int) (hx : 1 ≤ x) : f ≤ x * divV f x ∧ x * (divV f x - 1) < f := by
  have h := Int.mul_ediv_add_emod (f + x - 1) x
  have h1 := Int.emod_nonneg (f + x - 1) (show x ≠ 0 by omega)
  have h2 := Int.emod_lt_of_pos (f + x - 1) (show 0 < x by omega)
  unfold divV
  rw [Int.mul_sub]
  generalize x * ((f + x - 1) / x) = m at h ⊢
  omega
theorem div_uniq (f w d : Int) (hw : 1 ≤ w) (h1 : f ≤ w * d) (h2 : w * (d - 1) < f) : divV f w = d := by
  obtain ⟨c1, c2⟩ := ceil_bd' f w hw
  generalize divV f w = D at c1 c2 ⊢
  rcases Int.lt_trichotomy d D with h | h | h
  · have := Int.mul_le_mul_of_nonneg_left (show d ≤ D - 1 by omega) (show 0 ≤ w by omega)
    omega
  · exact h.symm
  · have := Int.mul_le_mul_of_nonneg_left (show D ≤ d - 1 by omega) (show 0 ≤ w by omega)
    omega
theorem div_big (f w : Int) (hw : 1 ≤ w) (h2 : w * 65535 < f) : 65535 < divV f w := by
  obtain ⟨c1, c2⟩ := ceil_bd' f w hw
  generalize divV f w = D at c1 c2 ⊢
  rcases Int.lt_or_le 65535 D with h | h
  · exact h
  · have := Int.mul_le_mul_of_nonneg_left h (show 0 ≤ w by omega)
    omega
set_option maxRecDepth 100000 in
set_option maxHeartbeats 8000000 in
theorem refDivider_bad (f w' : Int) (w : World) (h : badW f w') : Calls Try.prog 5 #[.int .i64 f, .int .i64 w'] w (fun e w2 => e = .returned (.tuple #[.int .i64 0, .int .i64 1]) ∧ ∃ q, w2 = w.drewN q) := by
  unfold badW at h
  go_enter Try.func5, Try.ntmps5
  go_wp2_with fail
  all_goals first
    | (go_ret2; exact ⟨rfl, 0, rfl⟩)
    | (exfalso; omega)
set_option maxRecDepth 100000 in
set_option maxHeartbeats 8000000 in
theorem refDivider_ok (f w' : Int) (w : World) (h : ¬ badW f w') : Calls Try.prog 5 #[.int .i64 f, .int .i64 w'] w (fun e w2 => e = .returned (.tuple #[.int .i64 (divide f w').1, .int .i64 (divide f w').2]) ∧ ∃ q, w2 = w.drewN q) := by
  have HB := Lib.hid h
  unfold badW at h
  have h1 : 1 ≤ f := by omega
  have h2 : f ≤ 1099511627776 := by omega
  have h3 : 1 ≤ w' := by omega
  have h4 : w' ≤ 1099511627776 := by omega
  have H1 : decide (f < 1) = false := by simp; omega
  have H2 : decide (1099511627776 < f) = false := by simp; omega
  have H3 : decide (w' < 1) = false := by simp; omega
  have H4 : decide (1099511627776 < w') = false := by simp; omega
  have HD := Lib.hid (fun d => div_uniq f w' d h3)
  have HG := Lib.hid (div_big f w' h3)
  clear h
  go_enter Try.func5, Try.ntmps5
  go_wp2_with fail
  go_loopw [6] (fun v6 wr => ∃ (k : Nat), k ≤ 65535 ∧ w' * (k : Int) < f ∧ v6 = .int .i64 ((k : Int) + 1) ∧ ∃ q, wr = w.drewN q) (fun v6 _ => 65536 - (RowKit.intOf v6).toNat)
  case atStart => exact ⟨0, by omega, by simp; omega, rfl, 0, rfl⟩
  case round =>
    obtain ⟨k, hk, hlt, rfl, q, rfl⟩ := hrel
    by_cases hk2 : k < 65535
    · have l1 : decide ((k : Int) + 1 ≤ 65535) = true := by simp; omega
      have p1 : 0 ≤ w' * ((k : Int) + 1) := Int.mul_nonneg (by omega) (by omega)
      have p2 : w' * ((k : Int) + 1) ≤ 1099511627776 * 65536 := Int.mul_le_mul h4 (by omega) (by omega) (by omega)
      have HL := Lib.hid hlt
      by_cases hd : f ≤ w' * ((k : Int) + 1)
      · have t1 : decide (f ≤ w' * ((k : Int) + 1)) = true := decide_eq_true hd
        have HV := HD.out ((k : Int) + 1) hd (by rw [show (k : Int) + 1 - 1 = k by omega]; exact hlt)
        have HP := Lib.hid HV
        clear HV hd hlt
        generalize hm : w' * ((k : Int) + 1) = m at p1 p2 t1
        go_wp2_with fail
        go_ret2
        refine ⟨?_, q, rfl⟩
        have ho : okD (divV f w') = true := by rw [HP.out]; unfold okD; simp; omega
        unfold divide
        rw [if_neg HB.out, if_pos ho, HP.out]
        rfl
      · have t1 : decide (f ≤ w' * ((k : Int) + 1)) = false := decide_eq_false hd
        have HX := Lib.hid (show w' * ((k : Int) + 1) < f by omega)
        clear hd hlt
        generalize hm : w' * ((k : Int) + 1) = m at p1 p2 t1 HX
        go_wp2_with fail
        go_roundw
        case rel =>
          refine ⟨k + 1, by omega, ?_, by push_cast; rfl, _, rfl⟩
          have := HX.out
          rw [← hm] at this
          push_cast
          exact this
        case measure => simp [RowKit.intOf]; omega
    · obtain rfl : k = 65535 := by omega
      have HL := Lib.hid (HG.out hlt)
      go_wp2_with fail
      go_ret2
      refine ⟨?_, q, rfl⟩
      have ho : ¬ okD (divV f w') = true := by have := HL.out; unfold okD; simp; omega
      unfold divide
      rw [if_neg HB.out, if_neg ho]
      rfl
theorem refDivider_any (f w' : Int) (w : World) : Calls Try.prog 5 #[.int .i64 f, .int .i64 w'] w (fun e w2 => e = .returned (.tuple #[.int .i64 (divide f w').1, .int .i64 (divide f w').2]) ∧ ∃ q, w2 = w.drewN q) := by
  by_cases h : badW f w'
  · refine (refDivider_bad f w' w h).mono ?_
    rintro e w2 ⟨rfl, hq⟩
    exact ⟨by unfold divide; rw [if_pos h], hq⟩
  · exact refDivider_ok f w' w h
set_option maxRecDepth 100000 in
set_option maxHeartbeats 8000000 in
theorem refChain_bad (f : Int) (A : Option Addr) (c n : Nat) (l : List Int) (w : World) (hn : n = l.length) (h : f < 0 ∨ 1099511627776 < f ∨ 64 < l.length) :
    Calls Try.prog 7 #[.int .i64 f, .slice A n c] w (fun e w2 => e = .returned (.tuple #[.int .i64 0, .int .i64 1]) ∧ ∃ q, w2 = w.drewN q) := by
  subst hn
  go_enter Try.func7, Try.ntmps7
  go_wp2_with fail
  all_goals first
    | (go_ret2; exact ⟨rfl, 0, rfl⟩)
    | (exfalso; omega)
set_option maxRecDepth 100000 in
set_option maxHeartbeats 8000000 in
theorem refChain_ok (f : Int) (A : Option Addr) (c n : Nat) (l : List Int) (w : World) (hn : n = l.length) (hs : CellsIn w 1 A n (i64s l)) (h : ¬ (f < 0 ∨ 1099511627776 < f ∨ 64 < l.length)) :
    Calls Try.prog 7 #[.int .i64 f, .slice A n c] w (fun e w2 => e = .returned (.tuple #[.int .i64 (chain f l).1, .int .i64 (chain f l).2]) ∧ ∃ q, w2 = w.drewN q) := by
  have HN := Lib.hid hn
  have GA := Lib.hid hs
  have HB := Lib.hid h
  have h1 : 0 ≤ f := by omega
  have h2 : f ≤ 1099511627776 := by omega
  have h3 : (n : Int) ≤ 64 := by omega
  have H1 : decide (f < 0) = false := by simp; omega
  have H2 : decide (1099511627776 < f) = false := by simp; omega
  have H3 : decide ((64 : Int) < (n : Int)) = false := by simp; omega
  clear hn hs h
  go_enter Try.func7, Try.ntmps7
  go_wp2_with fail
  go_loopw [6] (fun v6 wr => ∃ (k : Nat), k ≤ n ∧ (l.take k).all okD = true ∧ v6 = .int .i64 (k : Int) ∧ ∃ q, wr = w.drewN q) (fun v6 _ => n - (RowKit.intOf v6).toNat)
  case atStart => exact ⟨0, by omega, rfl, rfl, 0, rfl⟩
  case round =>
    obtain ⟨k, hk, hall, rfl, q, rfl⟩ := hrel
    by_cases hlt : k < n
    · obtain ⟨b, o, rfl, hbs, hc1⟩ := GA.out.at (by omega)
      have e0 := hc1 k _ (i64s_at l k (by rw [← HN.out]; exact hlt))
      have HT := Lib.hid (takeS l 0 k (by rw [← HN.out]; exact hlt))
      have HM := Lib.hid (show l.getD k 0 ∈ l by
        rw [List.getD_eq_getElem?_getD, List.getElem?_eq_getElem (by rw [← HN.out]; exact hlt)]
        exact List.getElem_mem _)
      have HA := Lib.hid hall
      have l1 : (0 : Int) ≤ (k : Int) := by omega
      have l2 : (k : Int) < (n : Int) := by omega
      generalize hg : l.getD k 0 = x at e0 HT HM
      clear hc1 hall hg
      cases hq : okD x with
      | false =>
        have HQ := Lib.hid (show ¬ l.all okD = true from fun ha => by
          have := List.all_eq_true.1 ha x HM.out
          rw [hq] at this
          cases this)
        have hd : x < 1 ∨ 65535 < x := by unfold okD at hq; simp at hq; omega
        clear hq
        rcases hd with hd | hd
        · have t1 : decide (x < 1) = true := decide_eq_true hd
          go_wp2_with fail
          go_ret2
          exact ⟨by unfold chain; rw [if_neg HB.out, if_neg HQ.out]; rfl, q, rfl⟩
        · have t1 : decide (x < 1) = false := by simp; omega
          have t2 : decide (65535 < x) = true := decide_eq_true hd
          go_wp2_with fail
          go_ret2
          exact ⟨by unfold chain; rw [if_neg HB.out, if_neg HQ.out]; rfl, q, rfl⟩
      | true =>
        have hd : 1 ≤ x ∧ x ≤ 65535 := by unfold okD at hq; simpa using hq
        have t1 : decide (x < 1) = false := by simp; omega
        have t2 : decide (65535 < x) = false := by simp; omega
        have HQ := Lib.hid hq
        clear hd hq
        go_wp2_with fail
        go_roundw
        case rel => exact ⟨k + 1, by omega, by rw [HT.out, List.all_append, HA.out]; simp [HQ.out], by go_num, _, rfl⟩
        case measure => simp [RowKit.intOf]; omega
    · obtain rfl : n = k := by omega
      have HAL : Hid (l.all okD = true) := Lib.hid (by rw [HN.out, List.take_length] at hall; exact hall)
      clear hall hlt hk
      have hge : decide ((n : Int) < (n : Int)) = false := by simp
      go_wp2_with fail
      go_loopw [0, 7] (fun v0 v7 wr => ∃ (k : Nat), k ≤ n ∧ v0 = .int .i64 (chV f (l.take k)) ∧ v7 = .int .i64 (k : Int) ∧ ∃ q, wr = w.drewN q) (fun _ v7 _ => n - (RowKit.intOf v7).toNat)
      case atStart => exact ⟨0, by omega, rfl, rfl, q, rfl⟩
      case round =>
        obtain ⟨k, hk, rfl, rfl, q2, rfl⟩ := hrel
        by_cases hlt : k < n
        · obtain ⟨b, o, rfl, hbs, hc1⟩ := GA.out.at (by omega)
          have e0 := hc1 k _ (i64s_at l k (by rw [← HN.out]; exact hlt))
          have HT := Lib.hid (takeS l 0 k (by rw [← HN.out]; exact hlt))
          have hx : okD (l.getD k 0) = true := List.all_eq_true.1 HAL.out _ (by
            rw [List.getD_eq_getElem?_getD, List.getElem?_eq_getElem (by rw [← HN.out]; exact hlt)]
            exact List.getElem_mem _)
          have hpre : (l.take k).all okD = true := List.all_eq_true.2 fun z hz => List.all_eq_true.1 HAL.out z (List.mem_of_mem_take hz)
          have hb2 := chV_bound f (l.take k) h1 hpre
          have l1 : (0 : Int) ≤ (k : Int) := by omega
          have l2 : (k : Int) < (n : Int) := by omega
          generalize hg : l.getD k 0 = x at e0 HT hx
          have hd : 1 ≤ x ∧ x ≤ 65535 := by unfold okD at hx; simpa using hx
          have hd1 := hd.1
          have hd2 := hd.2
          have hb3 := hb2.1
          have hb4 := hb2.2
          clear hc1 hg hx hpre hd hb2
          go_wp2_with fail
          go_roundw
          case rel => exact ⟨k + 1, by omega, by rw [HT.out, chV_snoc], by go_num, _, rfl⟩
          case measure => simp [RowKit.intOf]; omega
        · obtain rfl : n = k := by omega
          go_wp2_with fail
          go_ret2
          refine ⟨?_, _, rfl⟩
          rw [HN.out, List.take_length]
          unfold chain
          rw [if_neg HB.out, if_pos HAL.out]
          rfl
theorem refChain_any (f : Int) (A : Option Addr) (c n : Nat) (l : List Int) (w : World) (hn : n = l.length) (hs : CellsIn w 1 A n (i64s l)) :
    Calls Try.prog 7 #[.int .i64 f, .slice A n c] w (fun e w2 => e = .returned (.tuple #[.int .i64 (chain f l).1, .int .i64 (chain f l).2]) ∧ ∃ q, w2 = w.drewN q) := by
  by_cases h : f < 0 ∨ 1099511627776 < f ∨ 64 < l.length
  · refine (refChain_bad f A c n l w hn h).mono ?_
    rintro e w2 ⟨rfl, hq⟩
    exact ⟨by rw [chain_bad f l h], hq⟩
  · exact refChain_ok f A c n l w hn hs h
end Go.Proofs.Ythalnepbafnogaa.Cr
