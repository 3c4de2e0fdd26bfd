/- slices.Sort over small numbers: the pivot. -/
import Derived.Test.YtjpimamjcckieaaDoorPqC
namespace Go.Proofs.YtjpimamjcckieaaDoor.Pq
open Go.ChangeShapes Go.WideShapes Go.ChangeAt Go.RowKit Go.Sort Go.Shelf

theorem cnt_dr {w0 W : World} {blk off c s : Nat} {dk : Array Int} (h : Cnt1 enc w0 blk off dk c s W) (n : Nat) : Cnt1 enc w0 blk off dk c s (W.drewN n) := ⟨h.1.drewN n, h.2⟩
set_option maxRecDepth 100000 in
set_option maxHeartbeats 16000000 in
theorem order2_any (blk off cap a b c s : Nat) (d0 d : Array Int) (w0 w : World) (R : Row1 enc w0 blk off d0) (hs : d.size = d0.size) (S : Cnt1 enc w0 blk off d c s w) (ha : a < d.size) (hb : b < d.size) (hss : s < 1000) :
    Calls Tryd.prog 29 #[.slice (some ⟨blk, off, none⟩) d.size cap, .int .i64 (a : Int), .int .i64 (b : Int), .pointer (some ⟨c, 0, none⟩)] w fun e w' => e = .returned (.tuple #[.int .i64 ((order2 ltInt d a b s).1 : Nat), .int .i64 ((order2 ltInt d a b s).2.1 : Nat)]) ∧ Cnt1 enc w0 blk off d c (order2 ltInt d a b s).2.2 w' := by
  have S0 := Lib.hid S
  have HZ := Lib.hid hs
  clear S hs
  have a1 : (0 : Int) ≤ (a : Int) := by omega
  have a2 : (a : Int) < (d.size : Int) := by omega
  have b1 : (0 : Int) ≤ (b : Int) := by omega
  have b2 : (b : Int) < (d.size : Int) := by omega
  obtain ⟨x, hx⟩ : ∃ x, x = d[b]! := ⟨_, rfl⟩
  obtain ⟨y, hy⟩ : ∃ x, x = d[a]! := ⟨_, rfl⟩
  have lx := S0.out.1.c1 R HZ.out b hb
  have ly := S0.out.1.c1 R HZ.out a ha
  have HO := Lib.hid (show order2 ltInt d a b s = if ltInt x y then (b, a, s + 1) else (a, b, s) by rw [hx, hy]; rfl)
  rw [← hx] at lx
  rw [← hy] at ly
  clear hx hy
  unfold enc at lx ly
  rcases hlv : ltInt x y with _ | _
  · rw [hlv] at HO
    rw [HO.out]
    go_enter Tryd.func29, Tryd.ntmps29
    go_wp2_with fail
    go_quiet (first | (go_at_call 18; refine Calls.quiet_of_same (less_any _ _ _)))
    have S2 := Lib.hid (cnt_dr S0.out nq)
    clear lx ly S0
    generalize w.drewN nq = w2 at S2 ⊢
    rw [hlv]
    go_wp2
    go_ret2
    exact ⟨rfl, S2.out⟩
  · rw [hlv] at HO
    rw [HO.out]
    have hw : IntKind.i64.wrap ((s : Int) + 1) = (s : Int) + 1 := by rw [IntKind.wrap_i64]; omega
    go_enter Tryd.func29, Tryd.ntmps29
    go_wp2_with fail
    go_quiet (first | (go_at_call 18; refine Calls.quiet_of_same (less_any _ _ _)))
    have S2 := Lib.hid (cnt_dr S0.out nq)
    clear lx ly S0
    generalize w.drewN nq = w2 at S2 ⊢
    have cc := S2.out.2.1
    have cf := S2.out.2.2.1
    have S3 := Lib.hid (S2.out.bump (s + 1))
    rw [Int.natCast_succ] at S3
    rw [hlv]
    go_wp2
    go_ret2
    exact ⟨rfl, S3.out⟩
theorem order2_rng (d : Array Int) (a b s : Nat) : ((order2 ltInt d a b s).1 = a ∧ (order2 ltInt d a b s).2.1 = b ∨ (order2 ltInt d a b s).1 = b ∧ (order2 ltInt d a b s).2.1 = a) ∧ (order2 ltInt d a b s).2.2 ≤ s + 1 := by
  unfold order2
  split
  · exact ⟨.inr ⟨rfl, rfl⟩, Nat.le_refl _⟩
  · exact ⟨.inl ⟨rfl, rfl⟩, Nat.le_succ _⟩
set_option maxRecDepth 100000 in
set_option maxHeartbeats 16000000 in
theorem median_any (blk off cap a b m c s : Nat) (d0 d : Array Int) (w0 w : World) (R : Row1 enc w0 blk off d0) (hs : d.size = d0.size) (S : Cnt1 enc w0 blk off d c s w) (ha : a < d.size) (hb : b < d.size) (hm : m < d.size) (hss : s < 900) :
    Calls Tryd.prog 27 #[.slice (some ⟨blk, off, none⟩) d.size cap, .int .i64 (a : Int), .int .i64 (b : Int), .int .i64 (m : Int), .pointer (some ⟨c, 0, none⟩)] w fun e w' => e = .returned (.int .i64 ((median ltInt d a b m s).1 : Nat)) ∧ Cnt1 enc w0 blk off d c (median ltInt d a b m s).2 w' := by
  have q1 := order2_rng d a b s
  have H1 := Lib.hid (order2_any blk off cap a b c s d0 d w0 w R hs S ha hb (by omega))
  have HM := Lib.hid (show (median ltInt d a b m s).1 = (order2 ltInt d (order2 ltInt d a b s).1 (order2 ltInt d (order2 ltInt d a b s).2.1 m (order2 ltInt d a b s).2.2).1 (order2 ltInt d (order2 ltInt d a b s).2.1 m (order2 ltInt d a b s).2.2).2.2).2.1 ∧ (median ltInt d a b m s).2 = (order2 ltInt d (order2 ltInt d a b s).1 (order2 ltInt d (order2 ltInt d a b s).2.1 m (order2 ltInt d a b s).2.2).1 (order2 ltInt d (order2 ltInt d a b s).2.1 m (order2 ltInt d a b s).2.2).2.2).2.2 from ⟨rfl, rfl⟩)
  rw [HM.out.1, HM.out.2]
  clear HM
  generalize order2 ltInt d a b s = r1 at q1 H1 ⊢
  obtain ⟨x1, y1, s1⟩ := r1
  dsimp only at q1 H1 ⊢
  have q2 := order2_rng d y1 m s1
  have H2 := Lib.hid (fun V (hV : Cnt1 enc w0 blk off d c s1 V) => order2_any blk off cap y1 m c s1 d0 d w0 V R hs hV (by omega) hm (by omega))
  generalize order2 ltInt d y1 m s1 = r2 at q2 H2 ⊢
  obtain ⟨x2, y2, s2⟩ := r2
  dsimp only at q2 H2 ⊢
  have H3 := Lib.hid (fun V (hV : Cnt1 enc w0 blk off d c s2 V) => order2_any blk off cap x1 x2 c s2 d0 d w0 V R hs hV (by omega) (by omega) (by omega))
  generalize order2 ltInt d x1 x2 s2 = r3 at H3 ⊢
  obtain ⟨x3, y3, s3⟩ := r3
  dsimp only at H3 ⊢
  clear q1 q2 S hs
  go_enter Tryd.func27, Tryd.ntmps27
  go_wp2_with fail
  refine H1.out.mono ?_
  rintro e w1 ⟨rfl, h1⟩
  replace h1 := Lib.hid h1
  go_wp2_with fail
  refine (H2.out w1 h1.out).mono ?_
  rintro e w2 ⟨rfl, h2⟩
  replace h2 := Lib.hid h2
  go_wp2_with fail
  refine (H3.out w2 h2.out).mono ?_
  rintro e w3 ⟨rfl, h3⟩
  replace h3 := Lib.hid h3
  go_wp2_with fail
  go_ret
  exact ⟨rfl, h3.out⟩
theorem median_rng (d : Array Int) (a b m s : Nat) : ((median ltInt d a b m s).1 = a ∨ (median ltInt d a b m s).1 = b ∨ (median ltInt d a b m s).1 = m) ∧ (median ltInt d a b m s).2 ≤ s + 3 := by
  have q1 := order2_rng d a b s
  have HM := show (median ltInt d a b m s).1 = (order2 ltInt d (order2 ltInt d a b s).1 (order2 ltInt d (order2 ltInt d a b s).2.1 m (order2 ltInt d a b s).2.2).1 (order2 ltInt d (order2 ltInt d a b s).2.1 m (order2 ltInt d a b s).2.2).2.2).2.1 ∧ (median ltInt d a b m s).2 = (order2 ltInt d (order2 ltInt d a b s).1 (order2 ltInt d (order2 ltInt d a b s).2.1 m (order2 ltInt d a b s).2.2).1 (order2 ltInt d (order2 ltInt d a b s).2.1 m (order2 ltInt d a b s).2.2).2.2).2.2 from ⟨rfl, rfl⟩
  rw [HM.1, HM.2]
  have q2 := order2_rng d (order2 ltInt d a b s).2.1 m (order2 ltInt d a b s).2.2
  have q3 := order2_rng d (order2 ltInt d a b s).1 (order2 ltInt d (order2 ltInt d a b s).2.1 m (order2 ltInt d a b s).2.2).1 (order2 ltInt d (order2 ltInt d a b s).2.1 m (order2 ltInt d a b s).2.2).2.2
  omega
set_option maxRecDepth 100000 in
set_option maxHeartbeats 16000000 in
theorem adjacent_any (blk off cap a c s : Nat) (d0 d : Array Int) (w0 w : World) (R : Row1 enc w0 blk off d0) (hs : d.size = d0.size) (S : Cnt1 enc w0 blk off d c s w) (h0 : 1 ≤ a) (ha : a + 1 < d.size) (hsz : d.size < 1152921504606846976) (hss : s < 900) :
    Calls Tryd.prog 26 #[.slice (some ⟨blk, off, none⟩) d.size cap, .int .i64 (a : Int), .pointer (some ⟨c, 0, none⟩)] w fun e w' => e = .returned (.int .i64 ((medianAdjacent ltInt d a s).1 : Nat)) ∧ Cnt1 enc w0 blk off d c (medianAdjacent ltInt d a s).2 w' := by
  have H1 := median_any blk off cap (a - 1) a (a + 1) c s d0 d w0 w R hs S (by omega) (by omega) (by omega) hss
  rw [show median ltInt d (a - 1) a (a + 1) s = medianAdjacent ltInt d a s from rfl, show ((a - 1 : Nat) : Int) = (a : Int) - 1 by omega, show ((a + 1 : Nat) : Int) = (a : Int) + 1 by omega] at H1
  have HC := Lib.hid H1
  have r1 : IntKind.i64.wrap ((a : Int) - 1) = (a : Int) - 1 := by rw [IntKind.wrap_i64]; omega
  have r2 : IntKind.i64.wrap ((a : Int) + 1) = (a : Int) + 1 := by rw [IntKind.wrap_i64]; omega
  clear H1 S hs
  go_enter Tryd.func26, Tryd.ntmps26
  go_wp2_with fail
  refine HC.out.mono ?_
  rintro e w3 ⟨rfl, h3⟩
  replace h3 := Lib.hid h3
  go_wp2_with fail
  go_ret
  exact ⟨rfl, h3.out⟩
end Go.Proofs.YtjpimamjcckieaaDoor.Pq
