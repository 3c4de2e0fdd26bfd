/- slices.SortStableFunc's merge, where one of the two has one element. -/
import Derived.Test.YtjffemeeomogaaaDoorStI
namespace Go.Proofs.YtjffemeeomogaaaDoor.St
open Go.ChangeShapes Go.WideShapes Go.ChangeAt Go.RowKit Go.Sort Go.Shelf
variable {α : Type} [Inhabited α]

set_option maxRecDepth 100000 in
set_option maxHeartbeats 16000000 in
theorem sym_left (num : α → Int) (key : α → Int) (cf : α → α → Int) (g : Nat) (cb : Array Value) (blk off cap a b : Nat) (d0 d : Array α) (w0 w : World) (eg : ∀ args w, (callFunc g args).run Tryd.prog w = .ok (.enter g args) w) (hcmp : CmpLays1 Tryd.prog g cb (enc num) cf blk off d0.size w0) (hk : ∀ x y, cf x y < 0 ↔ key x < key y)
    (R : Row1 (enc num) w0 blk off d0) (hs : d.size = d0.size) (S : SW (enc num) w0 blk off d w) (h1 : a + 1 < b) (hb : b ≤ d.size) (hY : Srt key (seg d (a + 1) b)) (hsz : d.size < 4611686018427387904) :
    Calls Tryd.prog 140 #[.slice (some ⟨blk, off, none⟩) d.size cap, .int .i64 (a : Int), .int .i64 ((a : Int) + 1), .int .i64 (b : Int), .func (.func g) #[] cb] w fun e w' => e = .returned (.tuple #[]) ∧ ∃ d', (Ch key a b d d' ∧ Srt key (seg d' a b)) ∧ SW (enc num) w0 blk off d' w' := by
  have mixed : Tryd.prog.follows Departure.mixedOrders = true := by kernel_rfl
  have S0 := Lib.hid S
  have HZ := Lib.hid hs
  have HK := Lib.hid hk
  have HC := Lib.hid hcmp
  have HY := Lib.hid hY
  have t1 : ((((a : Int) + 1) - (a : Int)) == 1) = true := by simp; omega
  have t2 : ((a : Int) + 1) - (a : Int) = 1 := by omega
  clear S hs hk hcmp hY
  go_enter Tryd.func140, Tryd.ntmps140
  go_wp2_with fail
  go_loopg [10, 11] (b - a) (fun g1 v10 v11 wr => ∃ (i j : Nat), v10 = .int .i64 (i : Int) ∧ v11 = .int .i64 (j : Int) ∧ a + 1 ≤ i ∧ i ≤ j ∧ j ≤ b ∧ j - i ≤ g1 ∧ Hid (a + 1 < i → key d[i - 1]! < key d[a]!) ∧ Hid (j < b → key d[a]! ≤ key d[j]!) ∧ Hid (SW (enc num) w0 blk off d wr))
  case atStart => exact ⟨a + 1, b, by go_num, rfl, by omega, by omega, by omega, by omega, Lib.hid (fun h => absurd h (by omega)), Lib.hid (fun h => absurd h (by omega)), S0⟩
  case round =>
    clear S0
    obtain ⟨i, j, rfl, rfl, hai, hij, hjb, hg1, H1, H2, S1⟩ := hrel
    by_cases hlt : i < j
    · have hltz : (i : Int) < (j : Int) := by omega
      obtain ⟨h, hh⟩ : ∃ h, h = (i + j) / 2 := ⟨_, rfl⟩
      have hhi : i ≤ h := by omega
      have hhj : h < j := by omega
      have hhz : ((i : Int) + (j : Int)) / 2 = (h : Int) := by omega
      have b1 : (0 : Int) ≤ (h : Int) := by omega
      have b2 : (h : Int) < (d.size : Int) := by omega
      have b3 : (a : Int) < (d.size : Int) := by omega
      clear hh
      go_wp2_with fail
      clear hhz
      obtain ⟨x, hx⟩ : ∃ x, x = d[h]! := ⟨_, rfl⟩
      obtain ⟨y, hy⟩ : ∃ x, x = d[a]! := ⟨_, rfl⟩
      have l1 := S1.out.cl R HZ.out h (by omega)
      have l2 := S1.out.cl R HZ.out a (by omega)
      rw [← hx] at l1
      rw [← hy] at l2
      have hc1 := S1.out.cmp HC.out HZ.out x y
      unfold enc at l1 l2 hc1
      by_cases hlv : cf x y < 0
      · have H3 := Lib.hid (show a + 1 < h + 1 → key d[h + 1 - 1]! < key d[a]! from fun _ => by rw [Nat.add_sub_cancel, ← hx, ← hy]; exact (HK.out x y).1 hlv)
        have hd1 : decide (cf x y < 0) = true := decide_eq_true hlv
        clear hx hy H1
        go_quiet_grown (first | (go_at_fn g; refine Calls.grown_of (hc1 _ _)))
        have S2 : Hid (SW (enc num) w0 blk off d (grow (wr.drewN nq) osq)) := Lib.hid (S1.out.grown nq osq)
        clear l1 l2 hc1 S1
        generalize grow (wr.drewN nq) osq = w2 at S2 ⊢
        clear nq osq
        go_wp2
        go_roundg (j - (h + 1))
        case measure => omega
        case rel => exact ⟨h + 1, j, by go_num, rfl, by omega, by omega, hjb, Nat.le_refl _, H3, H2, S2⟩
      · have H3 := Lib.hid (show h < b → key d[a]! ≤ key d[h]! from fun _ => by rw [← hx, ← hy]; exact Int.not_lt.1 fun h => hlv ((HK.out x y).2 h))
        have hd1 : decide (cf x y < 0) = false := decide_eq_false hlv
        clear hx hy H2
        go_quiet_grown (first | (go_at_fn g; refine Calls.grown_of (hc1 _ _)))
        have S2 : Hid (SW (enc num) w0 blk off d (grow (wr.drewN nq) osq)) := Lib.hid (S1.out.grown nq osq)
        clear l1 l2 hc1 S1
        generalize grow (wr.drewN nq) osq = w2 at S2 ⊢
        clear nq osq
        go_wp2
        go_roundg (h - i)
        case measure => omega
        case rel => exact ⟨i, h, rfl, rfl, hai, by omega, by omega, Nat.le_refl _, H1, H3, S2⟩
    · obtain rfl : j = i := by omega
      have hltz : ¬ (j : Int) < (j : Int) := by omega
      go_wp2_with fail
      go_loopg [13] (j - a) (fun g2 v13 wr2 => ∃ (k : Nat) (dk : Array α), v13 = .int .i64 (k : Int) ∧ a ≤ k ∧ k < j ∧ j - k ≤ g2 + 1 ∧ dk.size = d.size ∧ Hid (Rot a (a + 1) (k + 1) d dk) ∧ Hid (SW (enc num) w0 blk off dk wr2))
      case atStart => exact ⟨a, d, rfl, Nat.le_refl _, by omega, by omega, rfl, Lib.hid (Rot.triv a (a + 1) (a + 1) d (.inr (Nat.le_refl _)) (by omega) (Nat.le_refl _)), S1⟩
      case round =>
        clear S1
        obtain ⟨k, dk, rfl, hak, hkj, hg2, hsk, HR, S1⟩ := hrel
        by_cases hlk : k + 1 < j
        · have hlkz : (k : Int) < (j : Int) - 1 := by omega
          obtain ⟨iN, hiN⟩ : ∃ q, q = k := ⟨_, rfl⟩
          obtain ⟨jN, hjN⟩ : ∃ q, q = k + 1 := ⟨_, rfl⟩
          obtain ⟨x, hx⟩ : ∃ x, x = dk[k]! := ⟨_, rfl⟩
          obtain ⟨y, hy⟩ : ∃ x, x = dk[k + 1]! := ⟨_, rfl⟩
          have hz0 : dk.size = d0.size := hsk.trans HZ.out
          have S3 := Lib.hid (S1.out.swapped R k (k + 1) (by omega) (by omega))
          have c1 := S1.out.c1 R hz0 k (by omega)
          have c2 := S1.out.c1 R hz0 (k + 1) (by omega)
          have f1 := S1.out.f1 R hz0 k (by omega)
          have f2 := S1.out.f1 R hz0 (k + 1) (by omega)
          obtain ⟨u, c3⟩ := S1.out.c2 R hz0 k (k + 1) (by omega) (by omega) (enc num y)
          have H9 := Lib.hid (HR.out.up hak (by omega))
          have hsz2 := Lib.hid (show (swp dk k (k + 1)).size = d.size by rw [size_swp]; exact hsk)
          rw [← hx, ← hy, ← hjN] at S3
          rw [← hx] at c1
          rw [← hy, ← hjN] at c2
          rw [← hjN] at f2 c3 H9 hsz2
          have r1 : IntKind.i64.wrap ((k : Int) + 1) = (k : Int) + 1 := by rw [IntKind.wrap_i64]; omega
          have r3 : ((k : Int) + 1).toNat = jN := by omega
          have r5 : (0 : Int) ≤ (k : Int) + 1 := by omega
          have r6 : (0 : Int) ≤ (k : Int) := by omega
          have r7 : (k : Int) + 1 < (d.size : Int) := by omega
          have r8 : (k : Int) < (d.size : Int) := by omega
          have HJ := Lib.hid hjN
          clear S1 HR hx hy hjN hiN hz0
          unfold enc at c1 c2 c3 S3
          go_wp2_with fail
          go_big_region
          clear c1 c2 c3 f1 f2 r1 r3
          generalize ((wr.setCell ⟨blk, off + k, none⟩ (.int .i64 (num y))).setCell ⟨blk, off + jN, none⟩ (.int .i64 (num x))).drew = w3 at S3 ⊢
          go_wp2
          go_roundg (j - k - 2)
          case measure => omega
          case rel => exact ⟨k + 1, _, by go_num, by omega, by omega, by omega, hsz2.out, by rw [HJ.out] at H9; rw [HJ.out]; exact H9, S3⟩
        · have HJ := Lib.hid (show j = k + 1 by omega)
          have hlkz : ¬ (k : Int) < (j : Int) - 1 := by omega
          go_wp2
          refine bodyPost_ret (results_none rfl _ _ _) rfl ?_
          exact ⟨rfl, dk, by have h := HR.out; rw [← HJ.out] at h; exact insl_final HY.out hai hjb h H2.out H1.out, S1.out⟩
set_option maxRecDepth 100000 in
set_option maxHeartbeats 16000000 in
theorem sym_right (num : α → Int) (key : α → Int) (cf : α → α → Int) (g : Nat) (cb : Array Value) (blk off cap a m : Nat) (d0 d : Array α) (w0 w : World) (eg : ∀ args w, (callFunc g args).run Tryd.prog w = .ok (.enter g args) w) (hcmp : CmpLays1 Tryd.prog g cb (enc num) cf blk off d0.size w0) (hk : ∀ x y, cf x y < 0 ↔ key x < key y)
    (R : Row1 (enc num) w0 blk off d0) (hs : d.size = d0.size) (S : SW (enc num) w0 blk off d w) (h1 : a + 1 < m) (hb : m + 1 ≤ d.size) (hX : Srt key (seg d a m)) (hsz : d.size < 4611686018427387904) :
    Calls Tryd.prog 140 #[.slice (some ⟨blk, off, none⟩) d.size cap, .int .i64 (a : Int), .int .i64 (m : Int), .int .i64 ((m : Int) + 1), .func (.func g) #[] cb] w fun e w' => e = .returned (.tuple #[]) ∧ ∃ d', (Ch key a (m + 1) d d' ∧ Srt key (seg d' a (m + 1))) ∧ SW (enc num) w0 blk off d' w' := by
  have mixed : Tryd.prog.follows Departure.mixedOrders = true := by kernel_rfl
  have S0 := Lib.hid S
  have HZ := Lib.hid hs
  have HK := Lib.hid hk
  have HC := Lib.hid hcmp
  have HX := Lib.hid hX
  have t0 : (((m : Int) - (a : Int)) == 1) = false := by simp; omega
  have t01 : ¬ (m : Int) - (a : Int) = 1 := by omega
  have t2 : ((m : Int) + 1) - (m : Int) = 1 := by omega
  clear S hs hk hcmp hX
  go_enter Tryd.func140, Tryd.ntmps140
  go_wp2_with fail
  go_loopg [14, 15] (m - a) (fun g1 v14 v15 wr => ∃ (i j : Nat), v14 = .int .i64 (i : Int) ∧ v15 = .int .i64 (j : Int) ∧ a ≤ i ∧ i ≤ j ∧ j ≤ m ∧ j - i ≤ g1 ∧ Hid (a < i → key d[i - 1]! ≤ key d[m]!) ∧ Hid (j < m → key d[m]! < key d[j]!) ∧ Hid (SW (enc num) w0 blk off d wr))
  case atStart => exact ⟨a, m, rfl, rfl, by omega, by omega, by omega, by omega, Lib.hid (fun h => absurd h (by omega)), Lib.hid (fun h => absurd h (by omega)), S0⟩
  case round =>
    clear S0
    obtain ⟨i, j, rfl, rfl, hai, hij, hjb, hg1, H1, H2, S1⟩ := hrel
    by_cases hlt : i < j
    · have hltz : (i : Int) < (j : Int) := by omega
      obtain ⟨h, hh⟩ : ∃ h, h = (i + j) / 2 := ⟨_, rfl⟩
      have hhi : i ≤ h := by omega
      have hhj : h < j := by omega
      have hhz : ((i : Int) + (j : Int)) / 2 = (h : Int) := by omega
      have b1 : (0 : Int) ≤ (h : Int) := by omega
      have b2 : (h : Int) < (d.size : Int) := by omega
      have b3 : (m : Int) < (d.size : Int) := by omega
      clear hh
      go_wp2_with fail
      clear hhz
      obtain ⟨x, hx⟩ : ∃ x, x = d[m]! := ⟨_, rfl⟩
      obtain ⟨y, hy⟩ : ∃ x, x = d[h]! := ⟨_, rfl⟩
      have l1 := S1.out.cl R HZ.out m (by omega)
      have l2 := S1.out.cl R HZ.out h (by omega)
      rw [← hx] at l1
      rw [← hy] at l2
      have hc1 := S1.out.cmp HC.out HZ.out x y
      unfold enc at l1 l2 hc1
      by_cases hlv : cf x y < 0
      · have H3 := Lib.hid (show h < m → key d[m]! < key d[h]! from fun _ => by rw [← hx, ← hy]; exact (HK.out x y).1 hlv)
        have hd1 : decide (cf x y < 0) = true := decide_eq_true hlv
        clear hx hy H2
        go_quiet_grown (first | (go_at_fn g; refine Calls.grown_of (hc1 _ _)))
        have S2 : Hid (SW (enc num) w0 blk off d (grow (wr.drewN nq) osq)) := Lib.hid (S1.out.grown nq osq)
        clear l1 l2 hc1 S1
        generalize grow (wr.drewN nq) osq = w2 at S2 ⊢
        clear nq osq
        go_wp2
        go_roundg (h - i)
        case measure => omega
        case rel => exact ⟨i, h, rfl, rfl, hai, by omega, by omega, Nat.le_refl _, H1, H3, S2⟩
      · have H3 := Lib.hid (show a < h + 1 → key d[h + 1 - 1]! ≤ key d[m]! from fun _ => by rw [Nat.add_sub_cancel, ← hx, ← hy]; exact Int.not_lt.1 fun h => hlv ((HK.out x y).2 h))
        have hd1 : decide (cf x y < 0) = false := decide_eq_false hlv
        clear hx hy H1
        go_quiet_grown (first | (go_at_fn g; refine Calls.grown_of (hc1 _ _)))
        have S2 : Hid (SW (enc num) w0 blk off d (grow (wr.drewN nq) osq)) := Lib.hid (S1.out.grown nq osq)
        clear l1 l2 hc1 S1
        generalize grow (wr.drewN nq) osq = w2 at S2 ⊢
        clear nq osq
        go_wp2
        go_roundg (j - (h + 1))
        case measure => omega
        case rel => exact ⟨h + 1, j, by go_num, rfl, by omega, by omega, hjb, Nat.le_refl _, H3, H2, S2⟩
    · obtain rfl : j = i := by omega
      have hltz : ¬ (j : Int) < (j : Int) := by omega
      go_wp2_with fail
      go_loopg [17] (m - j) (fun g2 v17 wr2 => ∃ (k : Nat) (dk : Array α), v17 = .int .i64 (k : Int) ∧ j ≤ k ∧ k ≤ m ∧ k - j ≤ g2 ∧ dk.size = d.size ∧ Hid (Rot k m (m + 1) d dk) ∧ Hid (SW (enc num) w0 blk off dk wr2))
      case atStart => exact ⟨m, d, rfl, by omega, Nat.le_refl _, Nat.le_refl _, rfl, Lib.hid (Rot.triv m m (m + 1) d (.inl (Nat.le_refl _)) (Nat.le_refl _) (by omega)), S1⟩
      case round =>
        clear S1
        obtain ⟨k, dk, rfl, hjk, hkm, hg2, hsk, HR, S1⟩ := hrel
        by_cases hlk : j < k
        · obtain ⟨kp, hkp⟩ : ∃ q, q + 1 = k := ⟨k - 1, by omega⟩
          have zkp : (k : Int) = (kp : Int) + 1 := by omega
          have hlkz : (j : Int) < (kp : Int) + 1 := by omega
          obtain ⟨iN, hiN⟩ : ∃ q, q = k := ⟨_, rfl⟩
          obtain ⟨x, hx⟩ : ∃ x, x = dk[k]! := ⟨_, rfl⟩
          obtain ⟨y, hy⟩ : ∃ x, x = dk[kp]! := ⟨_, rfl⟩
          have hz0 : dk.size = d0.size := hsk.trans HZ.out
          have S3 := Lib.hid (S1.out.swapped R k kp (by omega) (by omega))
          have c1 := S1.out.c1 R hz0 k (by omega)
          have c2 := S1.out.c1 R hz0 kp (by omega)
          have f1 := S1.out.f1 R hz0 k (by omega)
          have f2 := S1.out.f1 R hz0 kp (by omega)
          obtain ⟨u, c3⟩ := S1.out.c2 R hz0 k kp (by omega) (by omega) (enc num y)
          have H9 := Lib.hid (show Rot kp m (m + 1) d (swp dk k kp) from by have h := HR.out; rw [← hkp] at h ⊢; exact h.down (by omega) (by omega))
          have hsz2 := Lib.hid (show (swp dk k kp).size = d.size by rw [size_swp]; exact hsk)
          rw [← hx, ← hy, ← hiN] at S3
          rw [← hx, ← hiN] at c1
          rw [← hy] at c2
          rw [← hiN] at f1 c3 H9 hsz2
          have r1 : IntKind.i64.wrap ((kp : Int) + 1) = (kp : Int) + 1 := by rw [IntKind.wrap_i64]; omega
          have r2 : IntKind.i64.wrap (kp : Int) = (kp : Int) := by rw [IntKind.wrap_i64]; omega
          have r3 : ((kp : Int) + 1).toNat = iN := by omega
          have r5 : (0 : Int) ≤ (kp : Int) + 1 := by omega
          have r6 : (0 : Int) ≤ (kp : Int) := by omega
          have r7 : (kp : Int) + 1 < (d.size : Int) := by omega
          have r8 : (kp : Int) < (d.size : Int) := by omega
          have HKP := Lib.hid hkp
          clear S1 HR hx hy hiN hz0 hkp
          unfold enc at c1 c2 c3 S3
          go_wp2_with fail
          go_big_region
          clear c1 c2 c3 f1 f2 r1 r3
          generalize ((wr.setCell ⟨blk, off + iN, none⟩ (.int .i64 (num y))).setCell ⟨blk, off + kp, none⟩ (.int .i64 (num x))).drew = w3 at S3 ⊢
          go_wp2
          go_roundg (kp - j)
          case measure => omega
          case rel => exact ⟨kp, _, by first | rfl | go_num, by omega, by omega, Nat.le_refl _, hsz2.out, H9, S3⟩
        · have HJ := Lib.hid (show k = j by omega)
          have hlkz : ¬ (j : Int) < (k : Int) := by omega
          go_wp2
          refine bodyPost_ret (results_none rfl _ _ _) rfl ?_
          exact ⟨rfl, dk, by have h := HR.out; rw [HJ.out] at h; exact ins_final HX.out hai hjb h H1.out H2.out, S1.out⟩
end Go.Proofs.YtjffemeeomogaaaDoor.St
