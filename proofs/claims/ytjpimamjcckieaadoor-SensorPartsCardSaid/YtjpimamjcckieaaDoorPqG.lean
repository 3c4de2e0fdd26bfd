/- slices.Sort over small numbers: parted where none is less than the pivot. -/
import Derived.Test.YtjpimamjcckieaaDoorPqF
import Derived.Deep.DeepCutAuto
import Derived.Deep.CutBlock
namespace Go.Proofs.YtjpimamjcckieaaDoor.Pq
open Go.ChangeShapes Go.WideShapes Go.ChangeAt Go.RowKit Go.Sort Go.Shelf

section
variable {p : Int → Bool} {d : Array Int} {i j : Nat}
theorem scanUp_go (h : i ≤ j) (hp : p d[i]! = true) : scanUp p d j i = scanUp p d j (i + 1) := by
  conv => lhs; unfold scanUp
  rw [if_pos (by rw [hp]; simpa using h)]
theorem scanUp_stop (h : ¬ i ≤ j ∨ p d[i]! = false) : scanUp p d j i = i := by
  unfold scanUp
  rw [if_neg]
  simp only [Bool.and_eq_true, decide_eq_true_eq, not_and]
  intro h'
  rcases h with h | h
  · exact absurd h' h
  · rw [h]; decide
theorem scanDown_go (h : i ≤ j) (h1 : 1 ≤ j) (hp : p d[j]! = true) : scanDown p d i j = scanDown p d i (j - 1) := by
  obtain ⟨k, rfl⟩ : ∃ k, j = k + 1 := ⟨j - 1, by omega⟩
  conv => lhs; unfold scanDown
  rw [if_pos (by rw [hp]; simpa using h), Nat.add_sub_cancel]
theorem scanDown_stop (h : ¬ i ≤ j ∨ p d[j]! = false) : scanDown p d i j = j := by
  cases j with
  | zero => rfl
  | succ k =>
    unfold scanDown
    rw [if_neg]
    simp only [Bool.and_eq_true, decide_eq_true_eq, not_and]
    intro h'
    rcases h with h | h
    · exact absurd h' h
    · rw [h]; decide
variable {lt : Int → Int → Bool} {a i2 j2 : Nat}
theorem peq_stop (h1 : scanUp (fun x => !lt d[a]! x) d j i = i2) (h2 : scanDown (fun x => lt d[a]! x) d i2 j = j2) (h : j2 < i2) : partEqLoop lt a i j d = (i2, d) := by
  unfold partEqLoop
  simp only [h1, h2]
  rw [if_pos h]
theorem peq_go (h1 : scanUp (fun x => !lt d[a]! x) d j i = i2) (h2 : scanDown (fun x => lt d[a]! x) d i2 j = j2) (h : ¬ j2 < i2) (h3 : i ≤ i2) (h4 : j2 ≤ j) : partEqLoop lt a i j d = partEqLoop lt a (i2 + 1) (j2 - 1) (swp d i2 j2) := by
  conv => lhs; unfold partEqLoop
  simp only [h1, h2]
  rw [if_neg h, dif_pos (by omega)]
theorem scan_up_at (h : scanUp p d j i = i2) (hl : i2 ≤ j) : p d[i2]! = false := by
  induction i using (measure fun k => j + 1 - k).wf.induction with
  | _ i ih =>
    by_cases hi : i ≤ j
    · cases hp : p d[i]!
      · rw [scanUp_stop (.inr hp)] at h
        rw [← h]; exact hp
      · rw [scanUp_go hi hp] at h
        exact ih (i + 1) (by show j + 1 - (i + 1) < j + 1 - i; omega) h
    · rw [scanUp_stop (.inl hi)] at h
      omega
theorem scan_down_at (h : scanDown p d i j = j2) (hl : i ≤ j2) (h0 : 1 ≤ i) : p d[j2]! = false := by
  induction j with
  | zero =>
    have : j2 = 0 := h.symm
    omega
  | succ k ih =>
    by_cases hi : i ≤ k + 1
    · cases hp : p d[k + 1]!
      · rw [scanDown_stop (.inr hp)] at h
        rw [← h]; exact hp
      · rw [scanDown_go hi (by omega) hp, Nat.add_sub_cancel] at h
        exact ih h
    · rw [scanDown_stop (.inl hi)] at h
      omega
end
set_option maxRecDepth 100000 in
set_option maxHeartbeats 16000000 in
theorem parteq_any (blk off cap a b pv : Nat) (d0 d : Array Int) (w0 w : World) (R : Row1 enc w0 blk off d0) (hs : d.size = d0.size) (S : SW enc w0 blk off d w) (hb : b ≤ d.size) (hsz : d.size < 1152921504606846976) (hp1 : a ≤ pv) (hp2 : pv < b) :
    Calls Tryd.prog 19 #[.slice (some ⟨blk, off, none⟩) d.size cap, .int .i64 (a : Int), .int .i64 (b : Int), .int .i64 (pv : Int)] w fun e w' => e = .returned (.int .i64 ((partitionEqual ltInt d a b pv).1 : Nat)) ∧ ∃ d', d'.size = d0.size ∧ d' = (partitionEqual ltInt d a b pv).2 ∧ SW enc w0 blk off d' w' := by
  obtain ⟨PE, hPE⟩ : ∃ PE, PE = partitionEqual ltInt d a b pv := ⟨_, rfl⟩
  obtain ⟨bm, hbm⟩ : ∃ bm : Nat, (b : Int) - 1 = (bm : Int) := ⟨b - 1, by omega⟩
  have HBM := Lib.hid (show bm = b - 1 by omega)
  have wbm : IntKind.i64.wrap (bm : Int) = (bm : Int) := by rw [IntKind.wrap_i64]; omega
  have HP := Lib.hid (show partEqLoop ltInt a (a + 1) bm (swp d a pv) = PE by rw [hPE, HBM.out]; rfl)
  rw [← hPE]
  clear hPE
  have HZ := Lib.hid hs
  have S1 := Lib.hid S
  clear S hs
  have iap : (0 : Int) ≤ (a : Int) := by omega
  have iab : (a : Int) < (d.size : Int) := by omega

  have ibp : (0 : Int) ≤ (pv : Int) := by omega
  have ibb : (pv : Int) < (d.size : Int) := by omega
  obtain ⟨x, hx⟩ : ∃ x, x = d[a]! := ⟨_, rfl⟩
  obtain ⟨y, hy⟩ : ∃ x, x = d[pv]! := ⟨_, rfl⟩

  have S5 := Lib.hid (S1.out.swapped R (a) (pv) (by omega) (by omega))
  have c1a := S1.out.c1 R (by have := HZ.out; omega) (a) (by omega)
  have c1b := S1.out.c1 R (by have := HZ.out; omega) (pv) (by omega)
  have f1a := S1.out.f1 R (by have := HZ.out; omega) (a) (by omega)
  have f1b := S1.out.f1 R (by have := HZ.out; omega) (pv) (by omega)
  obtain ⟨u, c1c⟩ := S1.out.c2 R (by have := HZ.out; omega) (a) (pv) (by omega) (by omega) (enc y)
  rw [← hx, ← hy] at S5
  rw [← hx] at c1a
  rw [← hy] at c1b
  unfold enc at c1a c1b c1c S5

  clear S1 hx hy
  go_enter Tryd.func19, Tryd.ntmps19
  go_upto_region 1 with fail

  go_big_region
  clear c1a c1b c1c f1a f1b
  generalize ((w.setCell ⟨blk, off + a, none⟩ (.int .i8 y)).setCell ⟨blk, off + pv, none⟩ (.int .i8 x)).drew = w2 at S5 ⊢
  have HSZ := Lib.hid (show (swp d a pv).size = d.size by rw [size_swp])
  go_wp2
  go_loopg [9, 10] b (fun g1 vi vj wr => ∃ (i j : Nat) (dk : Array Int), vi = .int .i64 (i : Int) ∧ vj = .int .i64 (j : Int) ∧ a < i ∧ i ≤ j + 2 ∧ j < b ∧ a ≤ j ∧ j ≤ g1 ∧ dk.size = d.size ∧ Hid (SW enc w0 blk off dk wr) ∧ Hid (partEqLoop ltInt a i j dk = PE))
  case atStart => exact ⟨a + 1, bm, _, by go_num, rfl, by omega, by have := HBM.out; omega, by have := HBM.out; omega, by have := HBM.out; omega, by have := HBM.out; omega, HSZ.out, S5, HP⟩
  case round =>
    clear S5 HSZ HP
    obtain ⟨i, j, dk, rfl, rfl, hai, hij, hjb, haj, hg1, hsk, S1, HI⟩ := hrel
    go_upto_block 2 with fail
    go_cut [9] (fun sv wx => ∃ i2 : Nat, sv = .int .i64 (i2 : Int) ∧ i ≤ i2 ∧ i2 ≤ j + 2 ∧ Hid (SW enc w0 blk off dk wx) ∧ Hid (scanUp (fun x => !ltInt dk[a]! x) dk j i = i2))
    case first =>
      go_wp2_with fail
      go_loopg [9] (j + 2 - i) (fun g2 v wr2 => ∃ c1 : Nat, v = .int .i64 (c1 : Int) ∧ i ≤ c1 ∧ c1 ≤ j + 2 ∧ j + 2 - c1 ≤ g2 ∧ Hid (SW enc w0 blk off dk wr2) ∧ Hid (scanUp (fun x => !ltInt dk[a]! x) dk j c1 = scanUp (fun x => !ltInt dk[a]! x) dk j i))
      case atStart => exact ⟨i, rfl, Nat.le_refl _, by omega, Nat.le_refl _, S1, Lib.hid rfl⟩
      case round =>
        clear S1
        obtain ⟨c1, rfl, hc1, hc2, hg2, SI, HU⟩ := hrel
        by_cases hle : c1 ≤ j
        · have hlez : (c1 : Int) ≤ (j : Int) := by omega
          have q0 : (0 : Int) ≤ (c1 : Int) := by omega
          have q1 : (c1 : Int) < (d.size : Int) := by omega
          have q2 : (0 : Int) ≤ (a : Int) := by omega
          have q3 : (a : Int) < (d.size : Int) := by omega
          obtain ⟨x, hx⟩ : ∃ x, x = dk[a]! := ⟨_, rfl⟩
          obtain ⟨y, hy⟩ : ∃ x, x = dk[c1]! := ⟨_, rfl⟩
          have lx := SI.out.c1 R (by have := HZ.out; omega) a (by omega)
          have ly := SI.out.c1 R (by have := HZ.out; omega) c1 (by omega)
          rw [← hx] at lx
          rw [← hy] at ly
          unfold enc at lx ly
          have HX := Lib.hid (And.intro hx hy)
          clear hx hy
          rcases hlv : ltInt x y with _ | _
          · skip
            go_wp2_with fail
            go_quiet (first | (go_at_call 18; refine Calls.quiet_of_same (less_any _ _ _)))
            have S2 : Hid (SW enc w0 blk off dk (wr.drewN nq)) := Lib.hid (SI.out.drewN nq)
            clear lx ly SI
            generalize wr.drewN nq = w2 at S2 ⊢
            clear nq
            go_wp2
            go_roundg (j + 2 - (c1 + 1))
            case measure => omega
            case rel => exact ⟨c1 + 1, by go_num, by omega, by omega, Nat.le_refl _, S2, Lib.hid (by rw [← HU.out, ← scanUp_go hle (by simp only [← HX.out.1, ← HX.out.2, hlv] <;> rfl)])⟩
          · skip
            go_wp2_with fail
            go_quiet (first | (go_at_call 18; refine Calls.quiet_of_same (less_any _ _ _)))
            have S2 : Hid (SW enc w0 blk off dk (wr.drewN nq)) := Lib.hid (SI.out.drewN nq)
            clear lx ly SI
            generalize wr.drewN nq = w2 at S2 ⊢
            clear nq
            go_wp2
            go_meet
            exact ⟨c1, rfl, hc1, hc2, S2, Lib.hid (by rw [← HU.out, scanUp_stop (.inr (by simp only [← HX.out.1, ← HX.out.2, hlv] <;> rfl))])⟩
        · have hlez : ¬ (c1 : Int) ≤ (j : Int) := by omega
          have hlezb : decide ((c1 : Int) ≤ (j : Int)) = false := decide_eq_false hlez
          go_wp2_with fail
          go_big_region
          have S2 : Hid (SW enc w0 blk off dk wr.drew) := Lib.hid SI.out.drew
          clear SI
          generalize wr.drew = w2 at S2 ⊢
          go_wp2
          go_meet
          exact ⟨c1, rfl, hc1, hc2, S2, Lib.hid (by rw [← HU.out, scanUp_stop (.inl hle)])⟩
    case rest =>
    obtain ⟨i2, rfl, hi2a, hi2b, S2, HS1⟩ := hcut
    clear S1
    go_step
    go_upto_block 4 with fail
    go_cut [10] (fun sv wx => ∃ j2 : Nat, sv = .int .i64 (j2 : Int) ∧ a ≤ j2 ∧ j2 ≤ j ∧ (i2 ≤ j + 1 → i2 ≤ j2 + 1) ∧ Hid (SW enc w0 blk off dk wx) ∧ Hid (scanDown (fun x => ltInt dk[a]! x) dk i2 j = j2))
    case first =>
      go_wp2_with fail
      go_loopg [10] (j) (fun g2 v wr2 => ∃ c1 : Nat, v = .int .i64 (c1 : Int) ∧ a ≤ c1 ∧ c1 ≤ j ∧ (i2 ≤ j + 1 → i2 ≤ c1 + 1) ∧ c1 ≤ g2 ∧ Hid (SW enc w0 blk off dk wr2) ∧ Hid (scanDown (fun x => ltInt dk[a]! x) dk i2 c1 = scanDown (fun x => ltInt dk[a]! x) dk i2 j))
      case atStart => exact ⟨j, rfl, by omega, Nat.le_refl _, fun h => h, Nat.le_refl _, S2, Lib.hid rfl⟩
      case round =>
        clear S2
        obtain ⟨c1, rfl, hc1, hc2, hc3, hg2, SI, HU⟩ := hrel
        by_cases hle : i2 ≤ c1
        · have hlez : (i2 : Int) ≤ (c1 : Int) := by omega
          have q0 : (0 : Int) ≤ (c1 : Int) := by omega
          have q1 : (c1 : Int) < (d.size : Int) := by omega
          have q2 : (0 : Int) ≤ (a : Int) := by omega
          have q3 : (a : Int) < (d.size : Int) := by omega
          obtain ⟨cp, hcp⟩ : ∃ cp : Nat, (c1 : Int) - 1 = (cp : Int) := ⟨c1 - 1, by omega⟩
          have HCP := Lib.hid (show cp = c1 - 1 ∧ 1 ≤ c1 by omega)
          have wcp : IntKind.i64.wrap (cp : Int) = (cp : Int) := by rw [IntKind.wrap_i64]; omega
          obtain ⟨x, hx⟩ : ∃ x, x = dk[a]! := ⟨_, rfl⟩
          obtain ⟨y, hy⟩ : ∃ x, x = dk[c1]! := ⟨_, rfl⟩
          have lx := SI.out.c1 R (by have := HZ.out; omega) a (by omega)
          have ly := SI.out.c1 R (by have := HZ.out; omega) c1 (by omega)
          rw [← hx] at lx
          rw [← hy] at ly
          unfold enc at lx ly
          have HX := Lib.hid (And.intro hx hy)
          clear hx hy
          rcases hlv : ltInt x y with _ | _
          · skip
            go_wp2_with fail
            go_quiet (first | (go_at_call 18; refine Calls.quiet_of_same (less_any _ _ _)))
            have S2 : Hid (SW enc w0 blk off dk (wr.drewN nq)) := Lib.hid (SI.out.drewN nq)
            clear lx ly SI
            generalize wr.drewN nq = w2 at S2 ⊢
            clear nq
            go_wp2
            go_meet
            exact ⟨c1, rfl, hc1, hc2, hc3, S2, Lib.hid (by rw [← HU.out, scanDown_stop (.inr (by simp only [← HX.out.1, ← HX.out.2, hlv] <;> rfl))])⟩
          · skip
            go_wp2_with fail
            go_quiet (first | (go_at_call 18; refine Calls.quiet_of_same (less_any _ _ _)))
            have S2 : Hid (SW enc w0 blk off dk (wr.drewN nq)) := Lib.hid (SI.out.drewN nq)
            clear lx ly SI
            generalize wr.drewN nq = w2 at S2 ⊢
            clear nq
            go_wp2
            go_roundg cp
            case measure => have := HCP.out; omega
            case rel => exact ⟨cp, rfl, by have := HCP.out; omega, by have := HCP.out; omega, fun h => by have := HCP.out; omega, Nat.le_refl _, S2, Lib.hid (by rw [HCP.out.1, ← HU.out, ← scanDown_go hle HCP.out.2 (by simp only [← HX.out.1, ← HX.out.2, hlv] <;> rfl)])⟩
        · have hlez : ¬ (i2 : Int) ≤ (c1 : Int) := by omega
          have hlezb : decide ((i2 : Int) ≤ (c1 : Int)) = false := decide_eq_false hlez
          go_wp2_with fail
          go_big_region
          have S2 : Hid (SW enc w0 blk off dk wr.drew) := Lib.hid SI.out.drew
          clear SI
          generalize wr.drew = w2 at S2 ⊢
          go_wp2
          go_meet
          exact ⟨c1, rfl, hc1, hc2, hc3, S2, Lib.hid (by rw [← HU.out, scanDown_stop (.inl hle)])⟩
    case rest =>
    obtain ⟨j2, rfl, hj2a, hj2b, hj2c, S3, HS2⟩ := hcut
    clear S2
    go_step
    by_cases hgt : j2 < i2
    · have hgtz : (j2 : Int) < (i2 : Int) := by omega
      have HF := Lib.hid (show PE = (i2, dk) by rw [← HI.out, peq_stop HS1.out HS2.out hgt])
      go_wp2
      go_ret
      rw [HF.out]
      exact ⟨rfl, dk, by rw [hsk]; exact HZ.out, rfl, S3.out⟩
    · have hgtz : ¬ (j2 : Int) < (i2 : Int) := by omega
      have HN := Lib.hid (show partEqLoop ltInt a (i2 + 1) (j2 - 1) (swp dk i2 j2) = PE by rw [← HI.out, peq_go HS1.out HS2.out hgt hi2a hj2b])
      obtain ⟨jp, hjp⟩ : ∃ jp : Nat, (j2 : Int) - 1 = (jp : Int) := ⟨j2 - 1, by omega⟩
      have HJP := Lib.hid (show jp = j2 - 1 by omega)
      have wjp : IntKind.i64.wrap (jp : Int) = (jp : Int) := by rw [IntKind.wrap_i64]; omega
      have hne := Lib.hid (show i2 ≠ j2 from fun e => by
        have a1 := scan_up_at HS1.out (by omega)
        have a2 := scan_down_at HS2.out (by omega) (by omega)
        rw [e] at a1
        rw [a2] at a1
        cases a1)
      have iap : (0 : Int) ≤ (i2 : Int) := by omega
      have iab : (i2 : Int) < (d.size : Int) := by omega

      have ibp : (0 : Int) ≤ (j2 : Int) := by omega
      have ibb : (j2 : Int) < (d.size : Int) := by omega
      obtain ⟨x, hx⟩ : ∃ x, x = dk[i2]! := ⟨_, rfl⟩
      obtain ⟨y, hy⟩ : ∃ x, x = dk[j2]! := ⟨_, rfl⟩

      have S5 := Lib.hid (S3.out.swapped R (i2) (j2) (by omega) (by omega))
      have c1a := S3.out.c1 R (by have := HZ.out; omega) (i2) (by omega)
      have c1b := S3.out.c1 R (by have := HZ.out; omega) (j2) (by omega)
      have f1a := S3.out.f1 R (by have := HZ.out; omega) (i2) (by omega)
      have f1b := S3.out.f1 R (by have := HZ.out; omega) (j2) (by omega)
      obtain ⟨u, c1c⟩ := S3.out.c2 R (by have := HZ.out; omega) (i2) (j2) (by omega) (by omega) (enc y)
      rw [← hx, ← hy] at S5
      rw [← hx] at c1a
      rw [← hy] at c1b
      unfold enc at c1a c1b c1c S5

      clear S3 hx hy
      go_upto_region 8 with fail

      go_big_region
      clear c1a c1b c1c f1a f1b
      generalize ((wc.setCell ⟨blk, off + i2, none⟩ (.int .i8 y)).setCell ⟨blk, off + j2, none⟩ (.int .i8 x)).drew = w3 at S5 ⊢
      have HSZ := Lib.hid (show (swp dk i2 j2).size = d.size by rw [size_swp]; exact hsk)
      go_wp2
      go_roundg jp
      case measure => have := HJP.out; omega
      case rel => exact ⟨i2 + 1, jp, _, by go_num, rfl, by omega, by have := HJP.out; omega, by have := HJP.out; omega, by have := HJP.out; have := hne.out; omega, Nat.le_refl _, HSZ.out, S5, by rw [HJP.out]; exact HN⟩
end Go.Proofs.YtjpimamjcckieaaDoor.Pq
