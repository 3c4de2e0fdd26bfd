/- slices.Sort over small numbers: parted by the pivot. -/
import Derived.Test.YtjpimamjcckieaaDoorPqG
namespace Go.Proofs.YtjpimamjcckieaaDoor.Pq
open Go.ChangeShapes Go.WideShapes Go.ChangeAt Go.RowKit Go.Sort Go.Shelf

section
variable {d : Array Int} {i j : Nat} {lt : Int → Int → Bool} {a b pv i2 j2 : Nat}
theorem pl_stop (h1 : scanUp (fun x => lt x d[a]!) d j i = i2) (h2 : scanDown (fun x => !lt x d[a]!) d i2 j = j2) (h : j2 < i2) : partLoop lt a i j d = (j2, d) := by
  unfold partLoop
  simp only [h1, h2]
  rw [if_pos h]
theorem pl_go (h1 : scanUp (fun x => lt x d[a]!) d j i = i2) (h2 : scanDown (fun x => !lt x d[a]!) d i2 j = j2) (h : ¬ j2 < i2) (h3 : i ≤ i2) (h4 : j2 ≤ j) : partLoop lt a i j d = partLoop lt a (i2 + 1) (j2 - 1) (swp d i2 j2) := by
  conv => lhs; unfold partLoop
  simp only [h1, h2]
  rw [if_neg h, dif_pos (by omega)]
theorem par_one (h1 : scanUp (fun x => lt x (swp d a pv)[a]!) (swp d a pv) (b - 1) (a + 1) = i2) (h2 : scanDown (fun x => !lt x (swp d a pv)[a]!) (swp d a pv) i2 (b - 1) = j2) (h : j2 < i2) : partition lt d a b pv = (j2, true, swp (swp d a pv) j2 a) := by
  unfold partition
  simp only [h1, h2]
  rw [if_pos h]
theorem par_two (h1 : scanUp (fun x => lt x (swp d a pv)[a]!) (swp d a pv) (b - 1) (a + 1) = i2) (h2 : scanDown (fun x => !lt x (swp d a pv)[a]!) (swp d a pv) i2 (b - 1) = j2) (h : ¬ j2 < i2) : partition lt d a b pv = ((partLoop lt a (i2 + 1) (j2 - 1) (swp (swp d a pv) i2 j2)).1, false, swp (partLoop lt a (i2 + 1) (j2 - 1) (swp (swp d a pv) i2 j2)).2 (partLoop lt a (i2 + 1) (j2 - 1) (swp (swp d a pv) i2 j2)).1 a) := by
  unfold partition
  simp only [h1, h2]
  rw [if_neg h]
end
set_option maxRecDepth 100000 in
set_option maxHeartbeats 16000000 in
theorem part_any (blk off cap a b pv : Nat) (d0 d : Array Int) (w0 w : World) (R : Row1 enc w0 blk off d0) (hs : d.size = d0.size) (S : SW enc w0 blk off d w) (hb : b ≤ d.size) (hsz : d.size < 1152921504606846976) (hp1 : a ≤ pv) (hp2 : pv < b) :
    Calls Tryd.prog 20 #[.slice (some ⟨blk, off, none⟩) d.size cap, .int .i64 (a : Int), .int .i64 (b : Int), .int .i64 (pv : Int)] w fun e w' => e = .returned (.tuple #[.int .i64 ((partition ltInt d a b pv).1 : Nat), .bool (partition ltInt d a b pv).2.1]) ∧ ∃ d', d'.size = d0.size ∧ d' = (partition ltInt d a b pv).2.2 ∧ SW enc w0 blk off d' w' := by
  obtain ⟨bm, hbm⟩ : ∃ bm : Nat, (b : Int) - 1 = (bm : Int) := ⟨b - 1, by omega⟩
  have hbm2 : bm = b - 1 := by omega
  have hbm3 : bm < b ∧ a ≤ bm := by omega
  have HBM := Lib.hid hbm2
  have wbm : IntKind.i64.wrap (bm : Int) = (bm : Int) := by rw [IntKind.wrap_i64]; omega
  obtain ⟨i0, hi0⟩ : ∃ i0 : Nat, (a : Int) + 1 = (i0 : Int) := ⟨a + 1, by omega⟩
  have hi02 : i0 = a + 1 := by omega
  have HI0 := Lib.hid hi02
  have wi0 : IntKind.i64.wrap (i0 : Int) = (i0 : Int) := by rw [IntKind.wrap_i64]; omega
  have hi03 : a < i0 ∧ i0 ≤ bm + 1 := by omega
  clear hbm2 hi02
  have HZ := Lib.hid hs
  have S1 := Lib.hid S
  clear S hs
  have iap : (0 : Int) ≤ (a : Int) := by omega
  have iab : (a : Int) < (d.size : Int) := by omega

  have ibp : (0 : Int) ≤ (pv : Int) := by omega
  have ibb : (pv : Int) < (d.size : Int) := by omega
  obtain ⟨x, hx⟩ : ∃ x, x = d[a]! := ⟨_, rfl⟩
  obtain ⟨y, hy⟩ : ∃ x, x = d[pv]! := ⟨_, rfl⟩

  have S5 := Lib.hid (S1.out.swapped R (a) (pv) (by omega) (by omega))
  have c1a := S1.out.c1 R (by have := HZ.out; omega) (a) (by omega)
  have c1b := S1.out.c1 R (by have := HZ.out; omega) (pv) (by omega)
  have f1a := S1.out.f1 R (by have := HZ.out; omega) (a) (by omega)
  have f1b := S1.out.f1 R (by have := HZ.out; omega) (pv) (by omega)
  obtain ⟨u, c1c⟩ := S1.out.c2 R (by have := HZ.out; omega) (a) (pv) (by omega) (by omega) (enc y)
  rw [← hx, ← hy] at S5
  rw [← hx] at c1a
  rw [← hy] at c1b
  unfold enc at c1a c1b c1c S5

  clear S1 hx hy
  go_enter Tryd.func20, Tryd.ntmps20
  go_upto_region 1 with fail

  go_big_region
  clear c1a c1b c1c f1a f1b
  generalize ((w.setCell ⟨blk, off + a, none⟩ (.int .i8 y)).setCell ⟨blk, off + pv, none⟩ (.int .i8 x)).drew = w2 at S5 ⊢
  obtain ⟨e, he⟩ : ∃ e, e = swp d a pv := ⟨_, rfl⟩
  rw [← he] at S5
  have hsk : e.size = d.size := by rw [he, size_swp]
  have HE := Lib.hid he
  clear he
  go_upto_block 0 with fail
  go_cut [10] (fun sv wx => ∃ i2 : Nat, sv = .int .i64 (i2 : Int) ∧ i0 ≤ i2 ∧ i2 ≤ bm + 2 ∧ Hid (SW enc w0 blk off e wx) ∧ Hid (scanUp (fun x => ltInt x e[a]!) e bm i0 = i2))
  case first =>
    go_wp2_with fail
    go_loopg [10] (bm + 2 - i0) (fun g2 v wr2 => ∃ c1 : Nat, v = .int .i64 (c1 : Int) ∧ i0 ≤ c1 ∧ c1 ≤ bm + 2 ∧ bm + 2 - c1 ≤ g2 ∧ Hid (SW enc w0 blk off e wr2) ∧ Hid (scanUp (fun x => ltInt x e[a]!) e bm c1 = scanUp (fun x => ltInt x e[a]!) e bm i0))
    case atStart => exact ⟨i0, rfl, Nat.le_refl _, by omega, Nat.le_refl _, S5, Lib.hid rfl⟩
    case round =>
      clear S5
      obtain ⟨c1, rfl, hc1, hc2, hg2, SI, HU⟩ := hrel
      by_cases hle : c1 ≤ bm
      · have hlez : (c1 : Int) ≤ (bm : Int) := by omega
        have q0 : (0 : Int) ≤ (c1 : Int) := by omega
        have q1 : (c1 : Int) < (d.size : Int) := by omega
        have q2 : (0 : Int) ≤ (a : Int) := by omega
        have q3 : (a : Int) < (d.size : Int) := by omega
        obtain ⟨x, hx⟩ : ∃ x, x = e[a]! := ⟨_, rfl⟩
        obtain ⟨y, hy⟩ : ∃ x, x = e[c1]! := ⟨_, rfl⟩
        have lx := SI.out.c1 R (by have := HZ.out; omega) a (by omega)
        have ly := SI.out.c1 R (by have := HZ.out; omega) c1 (by omega)
        rw [← hx] at lx
        rw [← hy] at ly
        unfold enc at lx ly
        have HX := Lib.hid (And.intro hx hy)
        clear hx hy
        rcases hlv : ltInt y x with _ | _
        · skip
          go_wp2_with fail
          go_quiet (first | (go_at_call 18; refine Calls.quiet_of_same (less_any _ _ _)))
          have S2 : Hid (SW enc w0 blk off e (wr.drewN nq)) := Lib.hid (SI.out.drewN nq)
          clear lx ly SI
          generalize wr.drewN nq = w2 at S2 ⊢
          clear nq
          go_wp2
          go_meet
          exact ⟨c1, rfl, hc1, hc2, S2, Lib.hid (by rw [← HU.out, scanUp_stop (.inr (by simp only [← HX.out.1, ← HX.out.2, hlv] <;> rfl))])⟩
        · skip
          go_wp2_with fail
          go_quiet (first | (go_at_call 18; refine Calls.quiet_of_same (less_any _ _ _)))
          have S2 : Hid (SW enc w0 blk off e (wr.drewN nq)) := Lib.hid (SI.out.drewN nq)
          clear lx ly SI
          generalize wr.drewN nq = w2 at S2 ⊢
          clear nq
          go_wp2
          go_roundg (bm + 2 - (c1 + 1))
          case measure => omega
          case rel => exact ⟨c1 + 1, by go_num, by omega, by omega, Nat.le_refl _, S2, Lib.hid (by rw [← HU.out, ← scanUp_go hle (by simp only [← HX.out.1, ← HX.out.2, hlv] <;> rfl)])⟩
      · have hlez : ¬ (c1 : Int) ≤ (bm : Int) := by omega
        have hlezb : decide ((c1 : Int) ≤ (bm : Int)) = false := decide_eq_false hlez
        go_wp2_with fail
        go_big_region
        have S2 : Hid (SW enc w0 blk off e wr.drew) := Lib.hid SI.out.drew
        clear SI
        generalize wr.drew = w2 at S2 ⊢
        go_wp2
        go_meet
        exact ⟨c1, rfl, hc1, hc2, S2, Lib.hid (by rw [← HU.out, scanUp_stop (.inl hle)])⟩
  case rest =>
  obtain ⟨i2, rfl, hi2a, hi2b, S2, HS1⟩ := hcut
  clear S5
  go_step
  go_upto_block 2 with fail
  go_cut [11] (fun sv wx => ∃ j2 : Nat, sv = .int .i64 (j2 : Int) ∧ a ≤ j2 ∧ j2 ≤ bm ∧ (i2 ≤ bm + 1 → i2 ≤ j2 + 1) ∧ Hid (SW enc w0 blk off e wx) ∧ Hid (scanDown (fun x => !ltInt x e[a]!) e i2 bm = j2))
  case first =>
    go_wp2_with fail
    go_loopg [11] (bm) (fun g2 v wr2 => ∃ c1 : Nat, v = .int .i64 (c1 : Int) ∧ a ≤ c1 ∧ c1 ≤ bm ∧ (i2 ≤ bm + 1 → i2 ≤ c1 + 1) ∧ c1 ≤ g2 ∧ Hid (SW enc w0 blk off e wr2) ∧ Hid (scanDown (fun x => !ltInt x e[a]!) e i2 c1 = scanDown (fun x => !ltInt x e[a]!) e i2 bm))
    case atStart => exact ⟨bm, rfl, by omega, Nat.le_refl _, fun h => h, Nat.le_refl _, S2, Lib.hid rfl⟩
    case round =>
      clear S2
      obtain ⟨c1, rfl, hc1, hc2, hc3, hg2, SI, HU⟩ := hrel
      by_cases hle : i2 ≤ c1
      · have hlez : (i2 : Int) ≤ (c1 : Int) := by omega
        have q0 : (0 : Int) ≤ (c1 : Int) := by omega
        have q1 : (c1 : Int) < (d.size : Int) := by omega
        have q2 : (0 : Int) ≤ (a : Int) := by omega
        have q3 : (a : Int) < (d.size : Int) := by omega
        obtain ⟨cp, hcp⟩ : ∃ cp : Nat, (c1 : Int) - 1 = (cp : Int) := ⟨c1 - 1, by omega⟩
        have HCP := Lib.hid (show cp = c1 - 1 ∧ 1 ≤ c1 by omega)
        have wcp : IntKind.i64.wrap (cp : Int) = (cp : Int) := by rw [IntKind.wrap_i64]; omega
        obtain ⟨x, hx⟩ : ∃ x, x = e[a]! := ⟨_, rfl⟩
        obtain ⟨y, hy⟩ : ∃ x, x = e[c1]! := ⟨_, rfl⟩
        have lx := SI.out.c1 R (by have := HZ.out; omega) a (by omega)
        have ly := SI.out.c1 R (by have := HZ.out; omega) c1 (by omega)
        rw [← hx] at lx
        rw [← hy] at ly
        unfold enc at lx ly
        have HX := Lib.hid (And.intro hx hy)
        clear hx hy
        rcases hlv : ltInt y x with _ | _
        · skip
          go_wp2_with fail
          go_quiet (first | (go_at_call 18; refine Calls.quiet_of_same (less_any _ _ _)))
          have S2 : Hid (SW enc w0 blk off e (wr.drewN nq)) := Lib.hid (SI.out.drewN nq)
          clear lx ly SI
          generalize wr.drewN nq = w2 at S2 ⊢
          clear nq
          go_wp2
          go_roundg cp
          case measure => have := HCP.out; omega
          case rel => exact ⟨cp, rfl, by have := HCP.out; omega, by have := HCP.out; omega, fun h => by have := HCP.out; omega, Nat.le_refl _, S2, Lib.hid (by rw [HCP.out.1, ← HU.out, ← scanDown_go hle HCP.out.2 (by simp only [← HX.out.1, ← HX.out.2, hlv] <;> rfl)])⟩
        · skip
          go_wp2_with fail
          go_quiet (first | (go_at_call 18; refine Calls.quiet_of_same (less_any _ _ _)))
          have S2 : Hid (SW enc w0 blk off e (wr.drewN nq)) := Lib.hid (SI.out.drewN nq)
          clear lx ly SI
          generalize wr.drewN nq = w2 at S2 ⊢
          clear nq
          go_wp2
          go_meet
          exact ⟨c1, rfl, hc1, hc2, hc3, S2, Lib.hid (by rw [← HU.out, scanDown_stop (.inr (by simp only [← HX.out.1, ← HX.out.2, hlv] <;> rfl))])⟩
      · have hlez : ¬ (i2 : Int) ≤ (c1 : Int) := by omega
        have hlezb : decide ((i2 : Int) ≤ (c1 : Int)) = false := decide_eq_false hlez
        go_wp2_with fail
        go_big_region
        have S2 : Hid (SW enc w0 blk off e wr.drew) := Lib.hid SI.out.drew
        clear SI
        generalize wr.drew = w2 at S2 ⊢
        go_wp2
        go_meet
        exact ⟨c1, rfl, hc1, hc2, hc3, S2, Lib.hid (by rw [← HU.out, scanDown_stop (.inl hle)])⟩
  case rest =>
  obtain ⟨j2, rfl, hj2a, hj2b, hj2c, S3, HS2⟩ := hcut
  clear S2
  go_step
  by_cases hgt : j2 < i2
  · have hgtz : (j2 : Int) < (i2 : Int) := by omega
    have HF := Lib.hid (show partition ltInt d a b pv = (j2, true, swp e j2 a) by rw [HE.out]; exact par_one (by rw [← HE.out, ← HBM.out, ← HI0.out]; exact HS1.out) (by rw [← HE.out, ← HBM.out]; exact HS2.out) hgt)
    have iap : (0 : Int) ≤ (j2 : Int) := by omega
    have iab : (j2 : Int) < (d.size : Int) := by omega

    have ibp : (0 : Int) ≤ (a : Int) := by omega
    have ibb : (a : Int) < (d.size : Int) := by omega
    obtain ⟨x, hx⟩ : ∃ x, x = e[j2]! := ⟨_, rfl⟩
    obtain ⟨y, hy⟩ : ∃ x, x = e[a]! := ⟨_, rfl⟩

    have S5 := Lib.hid (S3.out.swapped R (j2) (a) (by omega) (by omega))
    have c1a := S3.out.c1 R (by have := HZ.out; omega) (j2) (by omega)
    have c1b := S3.out.c1 R (by have := HZ.out; omega) (a) (by omega)
    have f1a := S3.out.f1 R (by have := HZ.out; omega) (j2) (by omega)
    have f1b := S3.out.f1 R (by have := HZ.out; omega) (a) (by omega)
    obtain ⟨u, c1c⟩ := S3.out.c2 R (by have := HZ.out; omega) (j2) (a) (by omega) (by omega) (enc y)
    rw [← hx, ← hy] at S5
    rw [← hx] at c1a
    rw [← hy] at c1b
    unfold enc at c1a c1b c1c S5

    clear S3 hx hy
    go_upto_region 8 with fail

    go_big_region
    clear c1a c1b c1c f1a f1b
    generalize ((wc.setCell ⟨blk, off + j2, none⟩ (.int .i8 y)).setCell ⟨blk, off + a, none⟩ (.int .i8 x)).drew = w3 at S5 ⊢
    go_wp2
    go_ret2
    rw [HF.out]
    exact ⟨rfl, _, by rw [size_swp, hsk]; exact HZ.out, rfl, S5.out⟩
  · have hgtz : ¬ (j2 : Int) < (i2 : Int) := by omega
    obtain ⟨PL, hPL⟩ : ∃ PL, PL = partLoop ltInt a (i2 + 1) (j2 - 1) (swp e i2 j2) := ⟨_, rfl⟩
    have HF0 := Lib.hid (show partition ltInt d a b pv = (PL.1, false, swp PL.2 PL.1 a) by rw [hPL, HE.out]; exact par_two (by rw [← HE.out, ← HBM.out, ← HI0.out]; exact HS1.out) (by rw [← HE.out, ← HBM.out]; exact HS2.out) hgt)
    obtain ⟨jp, hjp⟩ : ∃ jp : Nat, (j2 : Int) - 1 = (jp : Int) := ⟨j2 - 1, by omega⟩
    have HJP := Lib.hid (show jp = j2 - 1 by omega)
    have wjp : IntKind.i64.wrap (jp : Int) = (jp : Int) := by rw [IntKind.wrap_i64]; omega
    have hne := Lib.hid (show i2 ≠ j2 from fun h => by
      have a1 := scan_up_at HS1.out (by omega)
      have a2 := scan_down_at HS2.out (by omega) (by omega)
      rw [h] at a1
      simp only [a1] at a2
      cases a2)
    have iap : (0 : Int) ≤ (i2 : Int) := by omega
    have iab : (i2 : Int) < (d.size : Int) := by omega

    have ibp : (0 : Int) ≤ (j2 : Int) := by omega
    have ibb : (j2 : Int) < (d.size : Int) := by omega
    obtain ⟨x, hx⟩ : ∃ x, x = e[i2]! := ⟨_, rfl⟩
    obtain ⟨y, hy⟩ : ∃ x, x = e[j2]! := ⟨_, rfl⟩

    have S5 := Lib.hid (S3.out.swapped R (i2) (j2) (by omega) (by omega))
    have c1a := S3.out.c1 R (by have := HZ.out; omega) (i2) (by omega)
    have c1b := S3.out.c1 R (by have := HZ.out; omega) (j2) (by omega)
    have f1a := S3.out.f1 R (by have := HZ.out; omega) (i2) (by omega)
    have f1b := S3.out.f1 R (by have := HZ.out; omega) (j2) (by omega)
    obtain ⟨u, c1c⟩ := S3.out.c2 R (by have := HZ.out; omega) (i2) (j2) (by omega) (by omega) (enc y)
    rw [← hx, ← hy] at S5
    rw [← hx] at c1a
    rw [← hy] at c1b
    unfold enc at c1a c1b c1c S5

    clear S3 hx hy
    go_upto_region 10 with fail

    go_big_region
    clear c1a c1b c1c f1a f1b
    generalize ((wc.setCell ⟨blk, off + i2, none⟩ (.int .i8 y)).setCell ⟨blk, off + j2, none⟩ (.int .i8 x)).drew = w3 at S5 ⊢
    have HSZ := Lib.hid (show (swp e i2 j2).size = d.size by rw [size_swp]; exact hsk)
    have HP := Lib.hid (show partLoop ltInt a (i2 + 1) jp (swp e i2 j2) = PL by rw [hPL, HJP.out])
    clear hPL
    go_wp2
    go_loopg [10, 11] b (fun g1 vi vj wr => ∃ (i j : Nat) (dk : Array Int), vi = .int .i64 (i : Int) ∧ vj = .int .i64 (j : Int) ∧ a < i ∧ i ≤ j + 2 ∧ j < b ∧ a ≤ j ∧ j ≤ g1 ∧ dk.size = d.size ∧ Hid (SW enc w0 blk off dk wr) ∧ Hid (partLoop ltInt a i j dk = PL))
    case atStart => exact ⟨i2 + 1, jp, _, by go_num, rfl, by omega, by have := HJP.out; omega, by have := HJP.out; omega, by have := HJP.out; have := hne.out; omega, by have := HJP.out; omega, HSZ.out, S5, HP⟩
    case round =>
      clear S5 HSZ HP hne HJP wjp hjp HS1 HS2 HE hgt hgtz hi2a hi2b hj2a hj2b hj2c hsk
      obtain ⟨i, j, dk, rfl, rfl, hai, hij, hjb, haj, hg1, hsk, S1, HI⟩ := hrel
      go_upto_block 6 with fail
      go_cut [10] (fun sv wx => ∃ i4 : Nat, sv = .int .i64 (i4 : Int) ∧ i ≤ i4 ∧ i4 ≤ j + 2 ∧ Hid (SW enc w0 blk off dk wx) ∧ Hid (scanUp (fun x => ltInt x dk[a]!) dk j i = i4))
      case first =>
        go_wp2_with fail
        go_loopg [10] (j + 2 - i) (fun g2 v wr2 => ∃ c1 : Nat, v = .int .i64 (c1 : Int) ∧ i ≤ c1 ∧ c1 ≤ j + 2 ∧ j + 2 - c1 ≤ g2 ∧ Hid (SW enc w0 blk off dk wr2) ∧ Hid (scanUp (fun x => ltInt x dk[a]!) dk j c1 = scanUp (fun x => ltInt x dk[a]!) dk j i))
        case atStart => exact ⟨i, rfl, Nat.le_refl _, by omega, Nat.le_refl _, S1, Lib.hid rfl⟩
        case round =>
          clear S1
          obtain ⟨c1, rfl, hc1, hc2, hg2, SI, HU⟩ := hrel
          by_cases hle : c1 ≤ j
          · have hlez : (c1 : Int) ≤ (j : Int) := by omega
            have q0 : (0 : Int) ≤ (c1 : Int) := by omega
            have q1 : (c1 : Int) < (d.size : Int) := by omega
            have q2 : (0 : Int) ≤ (a : Int) := by omega
            have q3 : (a : Int) < (d.size : Int) := by omega
            obtain ⟨x, hx⟩ : ∃ x, x = dk[a]! := ⟨_, rfl⟩
            obtain ⟨y, hy⟩ : ∃ x, x = dk[c1]! := ⟨_, rfl⟩
            have lx := SI.out.c1 R (by have := HZ.out; omega) a (by omega)
            have ly := SI.out.c1 R (by have := HZ.out; omega) c1 (by omega)
            rw [← hx] at lx
            rw [← hy] at ly
            unfold enc at lx ly
            have HX := Lib.hid (And.intro hx hy)
            clear hx hy
            rcases hlv : ltInt y x with _ | _
            · skip
              go_wp2_with fail
              go_quiet (first | (go_at_call 18; refine Calls.quiet_of_same (less_any _ _ _)))
              have S2 : Hid (SW enc w0 blk off dk (wr.drewN nq)) := Lib.hid (SI.out.drewN nq)
              clear lx ly SI
              generalize wr.drewN nq = w2 at S2 ⊢
              clear nq
              go_wp2
              go_meet
              exact ⟨c1, rfl, hc1, hc2, S2, Lib.hid (by rw [← HU.out, scanUp_stop (.inr (by simp only [← HX.out.1, ← HX.out.2, hlv] <;> rfl))])⟩
            · skip
              go_wp2_with fail
              go_quiet (first | (go_at_call 18; refine Calls.quiet_of_same (less_any _ _ _)))
              have S2 : Hid (SW enc w0 blk off dk (wr.drewN nq)) := Lib.hid (SI.out.drewN nq)
              clear lx ly SI
              generalize wr.drewN nq = w2 at S2 ⊢
              clear nq
              go_wp2
              go_roundg (j + 2 - (c1 + 1))
              case measure => omega
              case rel => exact ⟨c1 + 1, by go_num, by omega, by omega, Nat.le_refl _, S2, Lib.hid (by rw [← HU.out, ← scanUp_go hle (by simp only [← HX.out.1, ← HX.out.2, hlv] <;> rfl)])⟩
          · have hlez : ¬ (c1 : Int) ≤ (j : Int) := by omega
            have hlezb : decide ((c1 : Int) ≤ (j : Int)) = false := decide_eq_false hlez
            go_wp2_with fail
            go_big_region
            have S2 : Hid (SW enc w0 blk off dk wr.drew) := Lib.hid SI.out.drew
            clear SI
            generalize wr.drew = w2 at S2 ⊢
            go_wp2
            go_meet
            exact ⟨c1, rfl, hc1, hc2, S2, Lib.hid (by rw [← HU.out, scanUp_stop (.inl hle)])⟩
      case rest =>
      obtain ⟨i4, rfl, hi4a, hi4b, S2, HS1⟩ := hcut
      clear S1
      go_step
      go_upto_block 8 with fail
      go_cut [11] (fun sv wx => ∃ j4 : Nat, sv = .int .i64 (j4 : Int) ∧ a ≤ j4 ∧ j4 ≤ j ∧ (i4 ≤ j + 1 → i4 ≤ j4 + 1) ∧ Hid (SW enc w0 blk off dk wx) ∧ Hid (scanDown (fun x => !ltInt x dk[a]!) dk i4 j = j4))
      case first =>
        go_wp2_with fail
        go_loopg [11] (j) (fun g2 v wr2 => ∃ c1 : Nat, v = .int .i64 (c1 : Int) ∧ a ≤ c1 ∧ c1 ≤ j ∧ (i4 ≤ j + 1 → i4 ≤ c1 + 1) ∧ c1 ≤ g2 ∧ Hid (SW enc w0 blk off dk wr2) ∧ Hid (scanDown (fun x => !ltInt x dk[a]!) dk i4 c1 = scanDown (fun x => !ltInt x dk[a]!) dk i4 j))
        case atStart => exact ⟨j, rfl, by omega, Nat.le_refl _, fun h => h, Nat.le_refl _, S2, Lib.hid rfl⟩
        case round =>
          clear S2
          obtain ⟨c1, rfl, hc1, hc2, hc3, hg2, SI, HU⟩ := hrel
          by_cases hle : i4 ≤ c1
          · have hlez : (i4 : Int) ≤ (c1 : Int) := by omega
            have q0 : (0 : Int) ≤ (c1 : Int) := by omega
            have q1 : (c1 : Int) < (d.size : Int) := by omega
            have q2 : (0 : Int) ≤ (a : Int) := by omega
            have q3 : (a : Int) < (d.size : Int) := by omega
            obtain ⟨cp, hcp⟩ : ∃ cp : Nat, (c1 : Int) - 1 = (cp : Int) := ⟨c1 - 1, by omega⟩
            have HCP := Lib.hid (show cp = c1 - 1 ∧ 1 ≤ c1 by omega)
            have wcp : IntKind.i64.wrap (cp : Int) = (cp : Int) := by rw [IntKind.wrap_i64]; omega
            obtain ⟨x, hx⟩ : ∃ x, x = dk[a]! := ⟨_, rfl⟩
            obtain ⟨y, hy⟩ : ∃ x, x = dk[c1]! := ⟨_, rfl⟩
            have lx := SI.out.c1 R (by have := HZ.out; omega) a (by omega)
            have ly := SI.out.c1 R (by have := HZ.out; omega) c1 (by omega)
            rw [← hx] at lx
            rw [← hy] at ly
            unfold enc at lx ly
            have HX := Lib.hid (And.intro hx hy)
            clear hx hy
            rcases hlv : ltInt y x with _ | _
            · skip
              go_wp2_with fail
              go_quiet (first | (go_at_call 18; refine Calls.quiet_of_same (less_any _ _ _)))
              have S2 : Hid (SW enc w0 blk off dk (wr.drewN nq)) := Lib.hid (SI.out.drewN nq)
              clear lx ly SI
              generalize wr.drewN nq = w2 at S2 ⊢
              clear nq
              go_wp2
              go_roundg cp
              case measure => have := HCP.out; omega
              case rel => exact ⟨cp, rfl, by have := HCP.out; omega, by have := HCP.out; omega, fun h => by have := HCP.out; omega, Nat.le_refl _, S2, Lib.hid (by rw [HCP.out.1, ← HU.out, ← scanDown_go hle HCP.out.2 (by simp only [← HX.out.1, ← HX.out.2, hlv] <;> rfl)])⟩
            · skip
              go_wp2_with fail
              go_quiet (first | (go_at_call 18; refine Calls.quiet_of_same (less_any _ _ _)))
              have S2 : Hid (SW enc w0 blk off dk (wr.drewN nq)) := Lib.hid (SI.out.drewN nq)
              clear lx ly SI
              generalize wr.drewN nq = w2 at S2 ⊢
              clear nq
              go_wp2
              go_meet
              exact ⟨c1, rfl, hc1, hc2, hc3, S2, Lib.hid (by rw [← HU.out, scanDown_stop (.inr (by simp only [← HX.out.1, ← HX.out.2, hlv] <;> rfl))])⟩
          · have hlez : ¬ (i4 : Int) ≤ (c1 : Int) := by omega
            have hlezb : decide ((i4 : Int) ≤ (c1 : Int)) = false := decide_eq_false hlez
            go_wp2_with fail
            go_big_region
            have S2 : Hid (SW enc w0 blk off dk wr.drew) := Lib.hid SI.out.drew
            clear SI
            generalize wr.drew = w2 at S2 ⊢
            go_wp2
            go_meet
            exact ⟨c1, rfl, hc1, hc2, hc3, S2, Lib.hid (by rw [← HU.out, scanDown_stop (.inl hle)])⟩
      case rest =>
      obtain ⟨j4, rfl, hj4a, hj4b, hj4c, S3, HS2⟩ := hcut
      clear S2
      go_step
      by_cases hgt : j4 < i4
      · have hgtz : (j4 : Int) < (i4 : Int) := by omega
        have HF := Lib.hid (show PL = (j4, dk) by rw [← HI.out, pl_stop HS1.out HS2.out hgt])
        have iap : (0 : Int) ≤ (j4 : Int) := by omega
        have iab : (j4 : Int) < (d.size : Int) := by omega

        have ibp : (0 : Int) ≤ (a : Int) := by omega
        have ibb : (a : Int) < (d.size : Int) := by omega
        obtain ⟨x, hx⟩ : ∃ x, x = dk[j4]! := ⟨_, rfl⟩
        obtain ⟨y, hy⟩ : ∃ x, x = dk[a]! := ⟨_, rfl⟩

        have S5 := Lib.hid (S3.out.swapped R (j4) (a) (by omega) (by omega))
        have c1a := S3.out.c1 R (by have := HZ.out; omega) (j4) (by omega)
        have c1b := S3.out.c1 R (by have := HZ.out; omega) (a) (by omega)
        have f1a := S3.out.f1 R (by have := HZ.out; omega) (j4) (by omega)
        have f1b := S3.out.f1 R (by have := HZ.out; omega) (a) (by omega)
        obtain ⟨u, c1c⟩ := S3.out.c2 R (by have := HZ.out; omega) (j4) (a) (by omega) (by omega) (enc y)
        rw [← hx, ← hy] at S5
        rw [← hx] at c1a
        rw [← hy] at c1b
        unfold enc at c1a c1b c1c S5

        clear S3 hx hy
        go_upto_region 21 with fail

        go_big_region
        clear c1a c1b c1c f1a f1b
        generalize ((wc.setCell ⟨blk, off + j4, none⟩ (.int .i8 y)).setCell ⟨blk, off + a, none⟩ (.int .i8 x)).drew = w3 at S5 ⊢
        go_wp2
        go_ret2
        rw [HF0.out, HF.out]
        exact ⟨rfl, _, by rw [size_swp, hsk]; exact HZ.out, rfl, S5.out⟩
      · have hgtz : ¬ (j4 : Int) < (i4 : Int) := by omega
        have HN := Lib.hid (show partLoop ltInt a (i4 + 1) (j4 - 1) (swp dk i4 j4) = PL by rw [← HI.out, pl_go HS1.out HS2.out hgt hi4a hj4b])
        obtain ⟨jp, hjp⟩ : ∃ jp : Nat, (j4 : Int) - 1 = (jp : Int) := ⟨j4 - 1, by omega⟩
        have HJP := Lib.hid (show jp = j4 - 1 by omega)
        have wjp : IntKind.i64.wrap (jp : Int) = (jp : Int) := by rw [IntKind.wrap_i64]; omega
        have hne := Lib.hid (show i4 ≠ j4 from fun h => by
          have a1 := scan_up_at HS1.out (by omega)
          have a2 := scan_down_at HS2.out (by omega) (by omega)
          rw [h] at a1
          simp only [a1] at a2
          cases a2)
        have iap : (0 : Int) ≤ (i4 : Int) := by omega
        have iab : (i4 : Int) < (d.size : Int) := by omega

        have ibp : (0 : Int) ≤ (j4 : Int) := by omega
        have ibb : (j4 : Int) < (d.size : Int) := by omega
        obtain ⟨x, hx⟩ : ∃ x, x = dk[i4]! := ⟨_, rfl⟩
        obtain ⟨y, hy⟩ : ∃ x, x = dk[j4]! := ⟨_, rfl⟩

        have S5 := Lib.hid (S3.out.swapped R (i4) (j4) (by omega) (by omega))
        have c1a := S3.out.c1 R (by have := HZ.out; omega) (i4) (by omega)
        have c1b := S3.out.c1 R (by have := HZ.out; omega) (j4) (by omega)
        have f1a := S3.out.f1 R (by have := HZ.out; omega) (i4) (by omega)
        have f1b := S3.out.f1 R (by have := HZ.out; omega) (j4) (by omega)
        obtain ⟨u, c1c⟩ := S3.out.c2 R (by have := HZ.out; omega) (i4) (j4) (by omega) (by omega) (enc y)
        rw [← hx, ← hy] at S5
        rw [← hx] at c1a
        rw [← hy] at c1b
        unfold enc at c1a c1b c1c S5

        clear S3 hx hy
        go_upto_region 18 with fail

        go_big_region
        clear c1a c1b c1c f1a f1b
        generalize ((wc.setCell ⟨blk, off + i4, none⟩ (.int .i8 y)).setCell ⟨blk, off + j4, none⟩ (.int .i8 x)).drew = w3 at S5 ⊢
        have HSZ := Lib.hid (show (swp dk i4 j4).size = d.size by rw [size_swp]; exact hsk)
        go_wp2
        go_roundg jp
        case measure => have := HJP.out; omega
        case rel => exact ⟨i4 + 1, jp, _, by go_num, rfl, by omega, by have := HJP.out; omega, by have := HJP.out; omega, by have := HJP.out; have := hne.out; omega, Nat.le_refl _, HSZ.out, S5, by rw [HJP.out]; exact HN⟩
end Go.Proofs.YtjpimamjcckieaaDoor.Pq
