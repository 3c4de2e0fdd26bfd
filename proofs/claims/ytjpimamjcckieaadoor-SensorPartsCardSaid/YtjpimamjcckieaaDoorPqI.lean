/- slices.Sort over small numbers: the insertion sort that gives up. -/
import Derived.Test.YtjpimamjcckieaaDoorPqH
namespace Go.Proofs.YtjpimamjcckieaaDoor.Pq
open Go.ChangeShapes Go.WideShapes Go.ChangeAt Go.RowKit Go.Sort Go.Shelf

section
variable {lt : Int → Int → Bool} {d : Array Int} {a b i j : Nat}
theorem ss_go (h : i < b) (hl : lt d[i]! d[i - 1]! = false) : scanSorted lt d b i = scanSorted lt d b (i + 1) := by
  conv => lhs; unfold scanSorted
  rw [if_pos (by rw [hl]; simpa using h)]
theorem ss_stop (h : ¬ i < b ∨ lt d[i]! d[i - 1]! = true) : scanSorted lt d b i = i := by
  unfold scanSorted
  rw [if_neg]
  simp only [Bool.and_eq_true, decide_eq_true_eq, not_and]
  intro h'
  rcases h with h | h
  · exact absurd h' h
  · rw [h]; decide
theorem sd_go (h : 1 ≤ j) (hl : lt d[j]! d[j - 1]! = true) : shiftDown lt j d = shiftDown lt (j - 1) (swp d j (j - 1)) := by
  obtain ⟨k, rfl⟩ : ∃ k, j = k + 1 := ⟨j - 1, by omega⟩
  rw [Nat.add_sub_cancel] at hl ⊢
  conv => lhs; unfold shiftDown
  rw [hl]; rfl
theorem sd_stop (h : ¬ 1 ≤ j ∨ lt d[j]! d[j - 1]! = false) : shiftDown lt j d = d := by
  cases j with
  | zero => rfl
  | succ k =>
    rcases h with h | h
    · omega
    · rw [Nat.add_sub_cancel] at h
      unfold shiftDown
      rw [h]; rfl
theorem su_go (h : j < b) (hl : lt d[j]! d[j - 1]! = true) : shiftUp lt b j d = shiftUp lt b (j + 1) (swp d j (j - 1)) := by
  conv => lhs; unfold shiftUp
  rw [if_pos h, hl]; rfl
theorem su_stop (h : ¬ j < b ∨ lt d[j]! d[j - 1]! = false) : shiftUp lt b j d = d := by
  unfold shiftUp
  rcases h with h | h
  · rw [if_neg h]
  · rw [h]; simp
theorem pi_zero : partialIns lt a b 0 i d = (d, false) := rfl
theorem pi_end {s : Nat} (h : scanSorted lt d b i = b) : partialIns lt a b (s + 1) i d = (d, true) := by
  unfold partialIns
  simp only [h, if_true]
theorem pi_short {s k : Nat} (h : scanSorted lt d b i = k) (h1 : k ≠ b) (h2 : b - a < 50) : partialIns lt a b (s + 1) i d = (d, false) := by
  unfold partialIns
  simp only [h, if_neg h1, if_pos h2]
theorem pi_go {s k : Nat} {e f : Array Int} (h : scanSorted lt d b i = k) (h1 : k ≠ b) (h2 : ¬ b - a < 50) (he : (if k - a ≥ 2 then shiftDown lt (k - 1) (swp d k (k - 1)) else swp d k (k - 1)) = e) (hf : (if b - k ≥ 2 then shiftUp lt b (k + 1) e else e) = f) :
    partialIns lt a b (s + 1) i d = partialIns lt a b s k f := by
  conv => lhs; unfold partialIns
  simp only [h, if_neg h1, if_neg h2, he, hf]
end
set_option maxRecDepth 100000 in
set_option maxHeartbeats 16000000 in
theorem partial_any (blk off cap a b : Nat) (d0 d : Array Int) (w0 w : World) (R : Row1 enc w0 blk off d0) (hs : d.size = d0.size) (S : SW enc w0 blk off d w) (hb : b ≤ d.size) (hsz : d.size < 1152921504606846976) (hl : a + 1 < b) :
    Calls Tryd.prog 17 #[.slice (some ⟨blk, off, none⟩) d.size cap, .int .i64 (a : Int), .int .i64 (b : Int)] w fun e w' => e = .returned (.bool (partialInsertionSort ltInt d a b).2) ∧ ∃ d', d'.size = d0.size ∧ d' = (partialInsertionSort ltInt d a b).1 ∧ SW enc w0 blk off d' w' := by
  obtain ⟨PI, hPI⟩ : ∃ PI, PI = partialInsertionSort ltInt d a b := ⟨_, rfl⟩
  rw [← hPI]
  have HP := Lib.hid (show partialIns ltInt a b 5 (a + 1) d = PI from hPI.symm)
  clear hPI
  have HZ := Lib.hid hs
  have S0 := Lib.hid S
  obtain ⟨L, hL⟩ : ∃ L : Nat, (b : Int) - (a : Int) = (L : Int) := ⟨b - a, by omega⟩
  have HL := Lib.hid (show L = b - a by omega)
  have wL : IntKind.i64.wrap (L : Int) = (L : Int) := by rw [IntKind.wrap_i64]; omega
  clear S hs
  go_enter Tryd.func17, Tryd.ntmps17
  go_wp2
  go_loopg [7, 8, 9, 10] 5 (fun g1 vi vs _ _ wr => ∃ (i s : Nat) (dk : Array Int), vi = .int .i64 (i : Int) ∧ vs = .int .i64 (s : Int) ∧ a < i ∧ i ≤ b ∧ s ≤ 5 ∧ 5 - s ≤ g1 ∧ dk.size = d.size ∧ Hid (SW enc w0 blk off dk wr) ∧ Hid (partialIns ltInt a b (5 - s) i dk = PI))
  case atStart => exact ⟨a + 1, 0, d, by go_num, rfl, by omega, by omega, by omega, by omega, rfl, S0, HP⟩
  case round =>
    clear S0 HP
    obtain ⟨i, s, dk, rfl, rfl, hai, hib, hs5, hg1, hsk, S1, HI⟩ := hrel
    by_cases hlt : s < 5
    · have hltz : (s : Int) < 5 := by omega
      have hltb : decide ((s : Int) < 5) = true := decide_eq_true hltz
      have HS := Lib.hid (show 5 - s = (5 - (s + 1)) + 1 by omega)
      go_upto_block 2 with fail
      go_cut [7] (fun sv wx => ∃ k : Nat, sv = .int .i64 (k : Int) ∧ i ≤ k ∧ k ≤ b ∧ Hid (SW enc w0 blk off dk wx) ∧ Hid (scanSorted ltInt dk b i = k))
      case first =>
        go_wp2_with fail
        go_loopg [7] (b - i) (fun g2 v wr2 => ∃ c1 : Nat, v = .int .i64 (c1 : Int) ∧ i ≤ c1 ∧ c1 ≤ b ∧ b - c1 ≤ g2 ∧ Hid (SW enc w0 blk off dk wr2) ∧ Hid (scanSorted ltInt dk b c1 = scanSorted ltInt dk b i))
        case atStart => exact ⟨i, rfl, Nat.le_refl _, hib, Nat.le_refl _, S1, Lib.hid rfl⟩
        case round =>
          clear S1
          obtain ⟨c1, rfl, hc1, hc2, hg2, SI, HU⟩ := hrel
          by_cases hle : c1 < b
          · have hlez0 : (c1 : Int) < (b : Int) := by omega
            obtain ⟨jp, hjp⟩ : ∃ q, q + 1 = c1 := ⟨c1 - 1, by omega⟩
            have zjp : (c1 : Int) = (jp : Int) + 1 := by omega
            obtain ⟨iaN, hiaN⟩ : ∃ q, q = c1 := ⟨_, rfl⟩
            obtain ⟨ibN, hibN⟩ : ∃ q, q = c1 - 1 := ⟨_, rfl⟩
            have iae : ((jp : Int) + 1).toNat = iaN := by omega
            have iap : (0 : Int) ≤ (jp : Int) + 1 := by omega
            have iab : (jp : Int) + 1 < (d.size : Int) := by omega
            have iar : IntKind.i64.wrap ((jp : Int) + 1) = (jp : Int) + 1 := by rw [IntKind.wrap_i64]; omega
            have ibe : ((jp : Int)).toNat = ibN := by omega
            have ibp : (0 : Int) ≤ (jp : Int) := by omega
            have ibb : (jp : Int) < (d.size : Int) := by omega
            have ibr : IntKind.i64.wrap ((jp : Int)) = (jp : Int) := by rw [IntKind.wrap_i64]; omega

            obtain ⟨x, hx⟩ : ∃ x, x = dk[c1]! := ⟨_, rfl⟩
            obtain ⟨y, hy⟩ : ∃ x, x = dk[c1 - 1]! := ⟨_, rfl⟩
            have lx := SI.out.c1 R (by have := HZ.out; omega) c1 (by omega)
            have ly := SI.out.c1 R (by have := HZ.out; omega) (c1 - 1) (by omega)
            rw [← hx, ← hiaN] at lx
            rw [← hy, ← hibN] at ly
            unfold enc at lx ly

            have hlez : (jp : Int) + 1 < (b : Int) := by omega
            have HX := Lib.hid (And.intro hx (And.intro hy hjp))
            clear hx hy hiaN hibN hjp
            rcases hlv : ltInt x y with _ | _
            · skip
              go_wp2_with fail
              go_quiet (first | (go_at_call 18; refine Calls.quiet_of_same (less_any _ _ _)))
              have S3 : Hid (SW enc w0 blk off dk (wr.drewN nq)) := Lib.hid (SI.out.drewN nq)
              clear lx ly SI
              generalize wr.drewN nq = w2 at S3 ⊢
              clear nq

              go_wp2
              go_roundg (b - (c1 + 1))
              case measure => omega
              case rel => exact ⟨c1 + 1, by have := HX.out.2.2; first | go_num | (congr 1; omega), by omega, by omega, Nat.le_refl _, S3, Lib.hid (by rw [← HU.out, ← ss_go hle (by rw [← HX.out.1, ← HX.out.2.1]; exact hlv)])⟩
            · skip
              go_wp2_with fail
              go_quiet (first | (go_at_call 18; refine Calls.quiet_of_same (less_any _ _ _)))
              have S3 : Hid (SW enc w0 blk off dk (wr.drewN nq)) := Lib.hid (SI.out.drewN nq)
              clear lx ly SI
              generalize wr.drewN nq = w2 at S3 ⊢
              clear nq

              go_wp2
              go_meet
              exact ⟨c1, by first | rfl | (congr 1; omega), hc1, hc2, S3, Lib.hid (by rw [← HU.out, ss_stop (.inr (by rw [← HX.out.1, ← HX.out.2.1]; exact hlv))])⟩
          · have hlez : ¬ (c1 : Int) < (b : Int) := by omega
            have hlezb : decide ((c1 : Int) < (b : Int)) = false := decide_eq_false hlez
            go_wp2_with fail
            go_big_region
            have S3 : Hid (SW enc w0 blk off dk wr.drew) := Lib.hid SI.out.drew
            clear SI
            generalize wr.drew = w2 at S3 ⊢
            go_wp2
            go_meet
            exact ⟨c1, rfl, hc1, hc2, S3, Lib.hid (by rw [← HU.out, ss_stop (.inl hle)])⟩
      case rest =>
      obtain ⟨k, rfl, hka, hkb0, S2, HK⟩ := hcut
      clear S1
      go_step
      by_cases hkb : k = b
      · have HF := Lib.hid (show PI = (dk, true) by rw [← HI.out, HS.out, pi_end (HK.out.trans hkb)])
        have hkz : ((k : Int) == (b : Int)) = true := by rw [hkb]; simp
        clear hkb
        go_wp2
        go_ret
        rw [HF.out]
        exact ⟨rfl, dk, by rw [hsk]; exact HZ.out, rfl, S2.out⟩
      · have hkz : ((k : Int) == (b : Int)) = false := by simp; omega
        have hkz2 : ¬ (k : Int) = (b : Int) := by omega
        by_cases h50 : L < 50
        · have h50z : (L : Int) < 50 := by omega
          have HF := Lib.hid (show PI = (dk, false) by rw [← HI.out, HS.out, pi_short HK.out hkb (by rw [← HL.out]; exact h50)])
          go_wp2
          go_ret
          rw [HF.out]
          exact ⟨rfl, dk, by rw [hsk]; exact HZ.out, rfl, S2.out⟩
        · have h50z : ¬ (L : Int) < 50 := by omega
          have h50b : decide ((L : Int) < 50) = false := decide_eq_false h50z
          obtain ⟨jp, hjp⟩ : ∃ q, q + 1 = k := ⟨k - 1, by omega⟩
          have zjp : (k : Int) = (jp : Int) + 1 := by omega
          obtain ⟨iaN, hiaN⟩ : ∃ q, q = k := ⟨_, rfl⟩
          obtain ⟨ibN, hibN⟩ : ∃ q, q = k - 1 := ⟨_, rfl⟩
          have iae : ((jp : Int) + 1).toNat = iaN := by omega
          have iap : (0 : Int) ≤ (jp : Int) + 1 := by omega
          have iab : (jp : Int) + 1 < (d.size : Int) := by omega
          have iar : IntKind.i64.wrap ((jp : Int) + 1) = (jp : Int) + 1 := by rw [IntKind.wrap_i64]; omega
          have ibe : ((jp : Int)).toNat = ibN := by omega
          have ibp : (0 : Int) ≤ (jp : Int) := by omega
          have ibb : (jp : Int) < (d.size : Int) := by omega
          have ibr : IntKind.i64.wrap ((jp : Int)) = (jp : Int) := by rw [IntKind.wrap_i64]; omega
          obtain ⟨x, hx⟩ : ∃ x, x = dk[k]! := ⟨_, rfl⟩
          obtain ⟨y, hy⟩ : ∃ x, x = dk[k - 1]! := ⟨_, rfl⟩

          have S5 := Lib.hid (S2.out.swapped R (k) (k - 1) (by omega) (by omega))
          have c1a := S2.out.c1 R (by have := HZ.out; omega) (k) (by omega)
          have c1b := S2.out.c1 R (by have := HZ.out; omega) (k - 1) (by omega)
          have f1a := S2.out.f1 R (by have := HZ.out; omega) (k) (by omega)
          have f1b := S2.out.f1 R (by have := HZ.out; omega) (k - 1) (by omega)
          obtain ⟨u, c1c⟩ := S2.out.c2 R (by have := HZ.out; omega) (k) (k - 1) (by omega) (by omega) (enc y)
          rw [← hx, ← hy, ← hibN, ← hiaN] at S5
          rw [← hibN, ← hiaN] at c1c
          rw [← hx, ← hiaN] at c1a
          rw [← hy, ← hibN] at c1b
          rw [← hiaN] at f1a
          rw [← hibN] at f1b
          unfold enc at c1a c1b c1c S5

          have HX := Lib.hid (And.intro hiaN hibN)
          have hkz3 : ¬ (jp : Int) + 1 = (b : Int) := by omega
          have hkz4 : ((jp : Int) + 1 == (b : Int)) = false := by simp; omega
          clear S2 hx hy hiaN hibN
          go_upto_region 11 with fail

          go_big_region
          clear c1a c1b c1c f1a f1b
          generalize ((wc.setCell ⟨blk, off + iaN, none⟩ (.int .i8 y)).setCell ⟨blk, off + ibN, none⟩ (.int .i8 x)).drew = w3 at S5 ⊢
          have HSZ := Lib.hid (show (swp dk iaN ibN).size = d.size by rw [size_swp]; exact hsk)
          obtain ⟨d1, hd1⟩ : ∃ d1, d1 = swp dk iaN ibN := ⟨_, rfl⟩
          rw [← hd1] at S5 HSZ
          have HD1 := Lib.hid (show d1 = swp dk k (k - 1) by rw [hd1, HX.out.1, HX.out.2])
          obtain ⟨ka, hkaz⟩ : ∃ ka : Nat, (jp : Int) + 1 - (a : Int) = (ka : Int) := ⟨k - a, by omega⟩
          have HKA := Lib.hid (show ka = k - a by omega)
          have wka : IntKind.i64.wrap (ka : Int) = (ka : Int) := by rw [IntKind.wrap_i64]; omega
          obtain ⟨bk, hbkz⟩ : ∃ bk : Nat, (b : Int) - ((jp : Int) + 1) = (bk : Int) := ⟨b - k, by omega⟩
          have HBK := Lib.hid (show bk = b - k by omega)
          have wbk : IntKind.i64.wrap (bk : Int) = (bk : Int) := by rw [IntKind.wrap_i64]; omega
          have HJP := Lib.hid hjp
          clear hd1 hjp iae ibe
          rw [zjp]
          go_upto_if 61 with fail
          go_cut [9, 61] (fun _ _ wx => ∃ d2 : Array Int, d2.size = d.size ∧ Hid (SW enc w0 blk off d2 wx) ∧ Hid ((if k - a ≥ 2 then shiftDown ltInt (k - 1) d1 else d1) = d2))
          case first =>
            by_cases h2 : 2 ≤ ka
            · have h2z : (2 : Int) ≤ (ka : Int) := by omega
              have HT := Lib.hid (show (if k - a ≥ 2 then shiftDown ltInt (k - 1) d1 else d1) = shiftDown ltInt (k - 1) d1 from if_pos (by rw [← HKA.out]; exact h2))
              go_wp2_with fail
              go_loopg [9] k (fun g2 v wr2 => ∃ (c1 : Nat) (dj : Array Int), v = .int .i64 (c1 : Int) ∧ c1 < k ∧ c1 ≤ g2 ∧ dj.size = d.size ∧ Hid (SW enc w0 blk off dj wr2) ∧ Hid (shiftDown ltInt c1 dj = shiftDown ltInt (k - 1) d1))
              case atStart => exact ⟨jp, d1, rfl, by omega, by omega, HSZ.out, S5, by rw [show jp = k - 1 by omega]; exact Lib.hid rfl⟩
              case round =>
                clear S5 HSZ
                obtain ⟨c1, dj, rfl, hc1, hg2, hsj, SI, HU⟩ := hrel
                clear zjp
                by_cases h1 : 1 ≤ c1
                · have h1y : (1 : Int) ≤ (c1 : Int) := by omega
                  obtain ⟨jp, hjp⟩ : ∃ q, q + 1 = c1 := ⟨c1 - 1, by omega⟩
                  have zjp : (c1 : Int) = (jp : Int) + 1 := by omega
                  obtain ⟨iaN, hiaN⟩ : ∃ q, q = c1 := ⟨_, rfl⟩
                  obtain ⟨ibN, hibN⟩ : ∃ q, q = c1 - 1 := ⟨_, rfl⟩
                  have iae : ((jp : Int) + 1).toNat = iaN := by omega
                  have iap : (0 : Int) ≤ (jp : Int) + 1 := by omega
                  have iab : (jp : Int) + 1 < (d.size : Int) := by omega
                  have iar : IntKind.i64.wrap ((jp : Int) + 1) = (jp : Int) + 1 := by rw [IntKind.wrap_i64]; omega
                  have ibe : ((jp : Int)).toNat = ibN := by omega
                  have ibp : (0 : Int) ≤ (jp : Int) := by omega
                  have ibb : (jp : Int) < (d.size : Int) := by omega
                  have ibr : IntKind.i64.wrap ((jp : Int)) = (jp : Int) := by rw [IntKind.wrap_i64]; omega

                  have h1z : (1 : Int) ≤ (jp : Int) + 1 := by omega
                  obtain ⟨x, hx⟩ : ∃ x, x = dj[c1]! := ⟨_, rfl⟩
                  obtain ⟨y, hy⟩ : ∃ x, x = dj[c1 - 1]! := ⟨_, rfl⟩
                  have lx := SI.out.c1 R (by have := HZ.out; omega) c1 (by omega)
                  have ly := SI.out.c1 R (by have := HZ.out; omega) (c1 - 1) (by omega)
                  rw [← hx, ← hiaN] at lx
                  rw [← hy, ← hibN] at ly
                  unfold enc at lx ly

                  rcases hlv : ltInt x y with _ | _
                  · have HX := Lib.hid (And.intro hx (And.intro hy hjp))
                    clear hx hy hiaN hibN hjp
                    go_wp2_with fail
                    go_quiet (first | (go_at_call 18; refine Calls.quiet_of_same (less_any _ _ _)))
                    have S3 : Hid (SW enc w0 blk off dj (wr.drewN nq)) := Lib.hid (SI.out.drewN nq)
                    clear lx ly SI
                    generalize wr.drewN nq = w2 at S3 ⊢
                    clear nq

                    go_wp2
                    go_meet
                    exact ⟨dj, hsj, S3, Lib.hid (by rw [HT.out, ← HU.out, sd_stop (.inr (by rw [← HX.out.1, ← HX.out.2.1]; exact hlv))])⟩

                  · have HN := Lib.hid (show shiftDown ltInt (c1 - 1) (swp dj c1 (c1 - 1)) = shiftDown ltInt c1 dj from (sd_go h1 (by rw [← hx, ← hy]; exact hlv)).symm)
                    have HX := Lib.hid (And.intro hx (And.intro hy (And.intro hjp (And.intro hiaN hibN))))
                    clear hx hy hiaN hibN hjp
                    go_wp2_with fail
                    go_quiet (first | (go_at_call 18; refine Calls.quiet_of_same (less_any _ _ _)))
                    have S3 : Hid (SW enc w0 blk off dj (wr.drewN nq)) := Lib.hid (SI.out.drewN nq)
                    clear lx ly SI
                    generalize wr.drewN nq = w2 at S3 ⊢
                    clear nq

                    obtain ⟨hx, hy, hjp, hiaN, hibN⟩ := HX.out
                    have S7 := Lib.hid (S3.out.swapped R (c1) (c1 - 1) (by omega) (by omega))
                    have c1a := S3.out.c1 R (by have := HZ.out; omega) (c1) (by omega)
                    have c1b := S3.out.c1 R (by have := HZ.out; omega) (c1 - 1) (by omega)
                    have f1a := S3.out.f1 R (by have := HZ.out; omega) (c1) (by omega)
                    have f1b := S3.out.f1 R (by have := HZ.out; omega) (c1 - 1) (by omega)
                    obtain ⟨u, c1c⟩ := S3.out.c2 R (by have := HZ.out; omega) (c1) (c1 - 1) (by omega) (by omega) (enc y)
                    rw [← hx, ← hy, ← hibN, ← hiaN] at S7
                    rw [← hibN, ← hiaN] at c1c
                    rw [← hx, ← hiaN] at c1a
                    rw [← hy, ← hibN] at c1b
                    rw [← hiaN] at f1a
                    rw [← hibN] at f1b
                    unfold enc at c1a c1b c1c S7

                    replace HN := Lib.hid (show shiftDown ltInt (c1 - 1) (swp dj iaN ibN) = shiftDown ltInt c1 dj by rw [hiaN, hibN]; exact HN.out)
                    clear S3 hx hy hiaN hibN hjp
                    go_wp2_with fail
                    go_big_region
                    clear c1a c1b c1c f1a f1b
                    generalize ((w2.setCell ⟨blk, off + iaN, none⟩ (.int .i8 y)).setCell ⟨blk, off + ibN, none⟩ (.int .i8 x)).drew = w3 at S7 ⊢

                    clear iae ibe
                    have HZ2 := Lib.hid (show (swp dj iaN ibN).size = d.size by rw [size_swp]; exact hsj)
                    go_wp2
                    go_roundg jp
                    case measure => have := HX.out.2.2.1; omega
                    case rel =>
                      have hjp := HX.out.2.2.1
                      exact ⟨jp, _, by first | rfl | go_num | (congr 1; omega), by omega, Nat.le_refl _, HZ2.out, S7, Lib.hid (by rw [← HU.out, ← HN.out, show jp = c1 - 1 by omega])⟩
                · have h1y : ¬ (1 : Int) ≤ (c1 : Int) := by omega
                  have h1b : decide ((1 : Int) ≤ (c1 : Int)) = false := decide_eq_false h1y
                  go_wp2_with fail
                  go_meet
                  exact ⟨dj, hsj, SI, Lib.hid (by rw [HT.out, ← HU.out, sd_stop (.inl h1)])⟩

            · have h2z : ¬ (2 : Int) ≤ (ka : Int) := by omega
              have h2b : decide ((2 : Int) ≤ (ka : Int)) = false := decide_eq_false h2z
              go_wp2_with fail
              all_goals
                go_meet
                exact ⟨d1, HSZ.out, S5, Lib.hid (if_neg (by rw [← HKA.out]; exact h2))⟩
          case rest =>
          obtain ⟨d2, hs2, S6, HD2⟩ := hcut
          clear S5 HSZ
          go_step
          have HKJ := Lib.hid (show (k : Int) = (jp : Int) + 1 from zjp)
          by_cases h2 : 2 ≤ bk
          · have h2z : (2 : Int) ≤ (bk : Int) := by omega
            have HT := Lib.hid (show (if b - k ≥ 2 then shiftUp ltInt b (k + 1) d2 else d2) = shiftUp ltInt b (k + 1) d2 from if_pos (by rw [← HBK.out]; exact h2))
            go_wp2_with fail
            go_loopg [10] (b - (k + 1)) (fun g2 v wr2 => ∃ (c1 : Nat) (dj : Array Int), v = .int .i64 (c1 : Int) ∧ k < c1 ∧ c1 ≤ b ∧ b - c1 ≤ g2 ∧ dj.size = d.size ∧ Hid (SW enc w0 blk off dj wr2) ∧ Hid (shiftUp ltInt b c1 dj = shiftUp ltInt b (k + 1) d2))
            case atStart => exact ⟨k + 1, d2, by first | go_num | (congr 1; omega), by omega, by omega, Nat.le_refl _, hs2, S6, Lib.hid rfl⟩
            case round =>
              clear S6
              obtain ⟨c1, dj, rfl, hc1, hc2, hg2, hsj, SI, HU⟩ := hrel
              clear zjp
              by_cases h1 : c1 < b
              · have h1y : (c1 : Int) < (b : Int) := by omega
                obtain ⟨jp, hjp⟩ : ∃ q, q + 1 = c1 := ⟨c1 - 1, by omega⟩
                have zjp : (c1 : Int) = (jp : Int) + 1 := by omega
                obtain ⟨iaN, hiaN⟩ : ∃ q, q = c1 := ⟨_, rfl⟩
                obtain ⟨ibN, hibN⟩ : ∃ q, q = c1 - 1 := ⟨_, rfl⟩
                have iae : ((jp : Int) + 1).toNat = iaN := by omega
                have iap : (0 : Int) ≤ (jp : Int) + 1 := by omega
                have iab : (jp : Int) + 1 < (d.size : Int) := by omega
                have iar : IntKind.i64.wrap ((jp : Int) + 1) = (jp : Int) + 1 := by rw [IntKind.wrap_i64]; omega
                have ibe : ((jp : Int)).toNat = ibN := by omega
                have ibp : (0 : Int) ≤ (jp : Int) := by omega
                have ibb : (jp : Int) < (d.size : Int) := by omega
                have ibr : IntKind.i64.wrap ((jp : Int)) = (jp : Int) := by rw [IntKind.wrap_i64]; omega

                have h1z : (jp : Int) + 1 < (b : Int) := by omega
                obtain ⟨x, hx⟩ : ∃ x, x = dj[c1]! := ⟨_, rfl⟩
                obtain ⟨y, hy⟩ : ∃ x, x = dj[c1 - 1]! := ⟨_, rfl⟩
                have lx := SI.out.c1 R (by have := HZ.out; omega) c1 (by omega)
                have ly := SI.out.c1 R (by have := HZ.out; omega) (c1 - 1) (by omega)
                rw [← hx, ← hiaN] at lx
                rw [← hy, ← hibN] at ly
                unfold enc at lx ly

                rcases hlv : ltInt x y with _ | _
                · have HX := Lib.hid (And.intro hx (And.intro hy hjp))
                  clear hx hy hiaN hibN hjp
                  go_wp2_with fail
                  go_quiet (first | (go_at_call 18; refine Calls.quiet_of_same (less_any _ _ _)))
                  have S3 : Hid (SW enc w0 blk off dj (wr.drewN nq)) := Lib.hid (SI.out.drewN nq)
                  clear lx ly SI
                  generalize wr.drewN nq = w2 at S3 ⊢
                  clear nq

                  go_wp2
                  have HNo := Lib.hid (show partialIns ltInt a b (5 - (s + 1)) k dj = PI by rw [← HI.out, HS.out, pi_go (e := d2) (f := dj) HK.out hkb (by rw [← HL.out]; exact h50) (by rw [← HD1.out]; exact HD2.out) (by rw [HT.out, ← HU.out, su_stop (.inr (by rw [← HX.out.1, ← HX.out.2.1]; exact hlv))])])
                  go_roundg (5 - (s + 1))
                  case measure => omega
                  case rel => exact ⟨k, s + 1, dj, by have := HKJ.out; first | rfl | (congr 1; omega), by go_num, by omega, by omega, by omega, Nat.le_refl _, hsj, S3, HNo⟩

                · have HN := Lib.hid (show shiftUp ltInt b (c1 + 1) (swp dj c1 (c1 - 1)) = shiftUp ltInt b c1 dj from (su_go h1 (by rw [← hx, ← hy]; exact hlv)).symm)
                  have HX := Lib.hid (And.intro hx (And.intro hy (And.intro hjp (And.intro hiaN hibN))))
                  clear hx hy hiaN hibN hjp
                  go_wp2_with fail
                  go_quiet (first | (go_at_call 18; refine Calls.quiet_of_same (less_any _ _ _)))
                  have S3 : Hid (SW enc w0 blk off dj (wr.drewN nq)) := Lib.hid (SI.out.drewN nq)
                  clear lx ly SI
                  generalize wr.drewN nq = w2 at S3 ⊢
                  clear nq

                  obtain ⟨hx, hy, hjp, hiaN, hibN⟩ := HX.out
                  have S7 := Lib.hid (S3.out.swapped R (c1) (c1 - 1) (by omega) (by omega))
                  have c1a := S3.out.c1 R (by have := HZ.out; omega) (c1) (by omega)
                  have c1b := S3.out.c1 R (by have := HZ.out; omega) (c1 - 1) (by omega)
                  have f1a := S3.out.f1 R (by have := HZ.out; omega) (c1) (by omega)
                  have f1b := S3.out.f1 R (by have := HZ.out; omega) (c1 - 1) (by omega)
                  obtain ⟨u, c1c⟩ := S3.out.c2 R (by have := HZ.out; omega) (c1) (c1 - 1) (by omega) (by omega) (enc y)
                  rw [← hx, ← hy, ← hibN, ← hiaN] at S7
                  rw [← hibN, ← hiaN] at c1c
                  rw [← hx, ← hiaN] at c1a
                  rw [← hy, ← hibN] at c1b
                  rw [← hiaN] at f1a
                  rw [← hibN] at f1b
                  unfold enc at c1a c1b c1c S7

                  replace HN := Lib.hid (show shiftUp ltInt b (c1 + 1) (swp dj iaN ibN) = shiftUp ltInt b c1 dj by rw [hiaN, hibN]; exact HN.out)
                  clear S3 hx hy hiaN hibN hjp
                  go_wp2_with fail
                  go_big_region
                  clear c1a c1b c1c f1a f1b
                  generalize ((w2.setCell ⟨blk, off + iaN, none⟩ (.int .i8 y)).setCell ⟨blk, off + ibN, none⟩ (.int .i8 x)).drew = w3 at S7 ⊢

                  clear iae ibe
                  have HZ2 := Lib.hid (show (swp dj iaN ibN).size = d.size by rw [size_swp]; exact hsj)
                  go_wp2
                  go_roundg (b - (c1 + 1))
                  case measure => have := HX.out.2.2.1; omega
                  case rel =>
                    have hjp := HX.out.2.2.1
                    exact ⟨c1 + 1, _, by first | rfl | go_num | (congr 1; omega), by omega, by omega, Nat.le_refl _, HZ2.out, S7, Lib.hid (by rw [← HU.out, ← HN.out])⟩
              · have h1y : ¬ (c1 : Int) < (b : Int) := by omega
                have h1b : decide ((c1 : Int) < (b : Int)) = false := decide_eq_false h1y
                go_wp2_with fail
                have HNo := Lib.hid (show partialIns ltInt a b (5 - (s + 1)) k dj = PI by rw [← HI.out, HS.out, pi_go (e := d2) (f := dj) HK.out hkb (by rw [← HL.out]; exact h50) (by rw [← HD1.out]; exact HD2.out) (by rw [HT.out, ← HU.out, su_stop (.inl h1)])])
                go_roundg (5 - (s + 1))
                case measure => omega
                case rel => exact ⟨k, s + 1, dj, by have := HKJ.out; first | rfl | (congr 1; omega), by go_num, by omega, by omega, by omega, Nat.le_refl _, hsj, SI, HNo⟩

          · have h2z : ¬ (2 : Int) ≤ (bk : Int) := by omega
            have h2b : decide ((2 : Int) ≤ (bk : Int)) = false := decide_eq_false h2z
            have HNo := Lib.hid (show partialIns ltInt a b (5 - (s + 1)) k d2 = PI by rw [← HI.out, HS.out, pi_go (e := d2) (f := d2) HK.out hkb (by rw [← HL.out]; exact h50) (by rw [← HD1.out]; exact HD2.out) (if_neg (by rw [← HBK.out]; exact h2))])
            go_wp2_with fail
            go_roundg (5 - (s + 1))
            case measure => omega
            case rel => exact ⟨k, s + 1, d2, by have := HKJ.out; first | rfl | (congr 1; omega), by go_num, by omega, by omega, by omega, Nat.le_refl _, hs2, S6, HNo⟩
    · have hltz : ¬ (s : Int) < 5 := by omega
      have hltb : decide ((s : Int) < 5) = false := decide_eq_false hltz
      have HF := Lib.hid (show PI = (dk, false) by rw [← HI.out, show 5 - s = 0 by omega, pi_zero])
      go_wp2
      go_ret
      rw [HF.out]
      exact ⟨rfl, dk, by rw [hsk]; exact HZ.out, rfl, S1.out⟩
end Go.Proofs.YtjpimamjcckieaaDoor.Pq
