/- slices.SortStableFunc's merge. -/
import Derived.Test.YtjffemeeomogaaaDoorStU
import Derived.Deep.DeepCutAuto
import Derived.Deep.CutBlock
namespace Go.Proofs.YtjffemeeomogaaaDoor.St
open Go.ChangeShapes Go.WideShapes Go.ChangeAt Go.RowKit Go.Sort Go.Shelf
variable {α : Type} [Inhabited α]

/-- Where the search begins and ends. -/
theorem ends (a m b q : Nat) (h1 : a < m) (h2 : m < b) (hq : q = (a + b) / 2) : ∃ lo r0 : Nat, (q < m ∧ (lo : Int) = (q : Int) + (m : Int) - (b : Int) ∧ r0 = q ∨ ¬ q < m ∧ lo = a ∧ r0 = m) ∧ a ≤ lo ∧ lo ≤ r0 ∧ r0 ≤ m ∧ r0 ≤ q ∧ q + m ≤ lo + b ∧ (lo = a ∨ q + m = lo + b) ∧ (r0 = m ∨ r0 = q) := by
  by_cases c : q < m
  · exact ⟨q + m - b, q, .inl ⟨c, by omega, rfl⟩, by omega, by omega, by omega, by omega, by omega, .inr (by omega), .inr rfl⟩
  · exact ⟨a, m, .inr ⟨c, rfl, rfl⟩, by omega, by omega, by omega, by omega, by omega, .inl rfl, .inl rfl⟩
set_option maxRecDepth 100000 in
set_option maxHeartbeats 32000000 in
theorem sym_step (num : α → Int) (key : α → Int) (cf : α → α → Int) (g : Nat) (cb : Array Value) (blk off cap a m b : Nat) (d0 d : Array α) (w0 w : World) (eg : ∀ args w, (callFunc g args).run Tryd.prog w = .ok (.enter g args) w) (hcmp : CmpLays1 Tryd.prog g cb (enc num) cf blk off d0.size w0) (hk : ∀ x y, cf x y < 0 ↔ key x < key y)
    (IH : ∀ (a' m' b' : Nat) (d' : Array α) (w' : World), b' - a' < b - a → d'.size = d0.size → SW (enc num) w0 blk off d' w' → a' < m' → m' < b' → b' ≤ d'.size → Srt key (seg d' a' m') → Srt key (seg d' m' b') →
      Calls Tryd.prog 140 #[.slice (some ⟨blk, off, none⟩) d'.size cap, .int .i64 (a' : Int), .int .i64 (m' : Int), .int .i64 (b' : Int), .func (.func g) #[] cb] w' fun e W => e = .returned (.tuple #[]) ∧ ∃ d2, (Ch key a' b' d' d2 ∧ Srt key (seg d2 a' b')) ∧ SW (enc num) w0 blk off d2 W)
    (R : Row1 (enc num) w0 blk off d0) (hs : d.size = d0.size) (S : SW (enc num) w0 blk off d w) (h1 : a + 1 < m) (h2 : m + 1 < b) (hb : b ≤ d.size) (hX : Srt key (seg d a m)) (hY : Srt key (seg d m b)) (hsz : d.size < 4611686018427387904) :
    Calls Tryd.prog 140 #[.slice (some ⟨blk, off, none⟩) d.size cap, .int .i64 (a : Int), .int .i64 (m : Int), .int .i64 (b : Int), .func (.func g) #[] cb] w fun e w' => e = .returned (.tuple #[]) ∧ ∃ d', (Ch key a b d d' ∧ Srt key (seg d' a b)) ∧ SW (enc num) w0 blk off d' w' := by
  have mixed : Tryd.prog.follows Departure.mixedOrders = true := by kernel_rfl
  have S0 := Lib.hid S
  have HZ := Lib.hid hs
  have HK := Lib.hid hk
  have HC := Lib.hid hcmp
  have HX := Lib.hid hX
  have HY := Lib.hid hY
  have HI := Lib.hid IH
  have t0 : (((m : Int) - (a : Int)) == 1) = false := by simp; omega
  have t01 : ¬ (m : Int) - (a : Int) = 1 := by omega
  have t1 : (((b : Int) - (m : Int)) == 1) = false := by simp; omega
  have t11 : ¬ (b : Int) - (m : Int) = 1 := by omega
  clear S hs hk hcmp hX hY IH
  obtain ⟨q, hq⟩ : ∃ q, q = (a + b) / 2 := ⟨_, rfl⟩
  obtain ⟨lo, r0, hw, e1, e2, e3, e4, e5, e6, e7⟩ := ends a m b q (by omega) (by omega) hq
  have hqz : ((a : Int) + (b : Int)) / 2 = (q : Int) := by omega
  have hqb : q < b := by omega
  obtain ⟨p, hp⟩ : ∃ p, p = q + m - 1 := ⟨_, rfl⟩
  have hpz : (q : Int) + (m : Int) - 1 = (p : Int) := by omega
  have HP := Lib.hid hp
  have hpl : p + 1 = q + m := by omega
  have hqa : a < q := by omega
  have HE6 := Lib.hid e6
  have HE7 := Lib.hid e7
  have HB0 := Lib.hid (show (a + 1 < m ∧ m + 1 < b ∧ b ≤ d.size ∧ d.size < 4611686018427387904) ∧ (a ≤ lo ∧ lo ≤ r0 ∧ r0 ≤ m ∧ r0 ≤ q ∧ q + m ≤ lo + b) ∧ q < b ∧ a < q ∧ p + 1 = q + m from ⟨⟨h1, h2, hb, hsz⟩, ⟨e1, e2, e3, e4, e5⟩, hqb, hqa, hpl⟩)
  have HW := Lib.hid hw
  have m1 : (a : Int) < (m : Int) := by omega
  have m2 : (m : Int) < (b : Int) := by omega
  have m3 : b ≤ d.size := hb
  have m4 : (q : Int) < (b : Int) := by omega
  clear hq e6 e7 hp hw h1 h2 hb e1 e2 e3 e4 e5 hqb hqa hpl
  go_enter Tryd.func140, Tryd.ntmps140
  go_upto_if 140 with fail
  go_cut [20, 21] (fun s20 s21 wx => s20 = .int .i64 (lo : Int) ∧ s21 = .int .i64 (r0 : Int) ∧ wx = w)
  case first =>
    by_cases hwz : (q : Int) < (m : Int)
    · go_wp2_with fail
      go_meet
      rcases HW.out with ⟨hw, hl, hr⟩ | ⟨hw, hl, hr⟩
      · exact ⟨congrArg _ (by omega), congrArg _ (by omega), rfl⟩
      · omega
    · go_wp2_with fail
      go_meet
      rcases HW.out with ⟨hw, hl, hr⟩ | ⟨hw, hl, hr⟩
      · omega
      · exact ⟨congrArg _ (by omega), congrArg _ (by omega), rfl⟩
  case rest =>
  clear hqz HW t0 t01 t1 t11
  obtain ⟨rfl, rfl, hw⟩ := hcut
  rw [hw]
  clear hw wc
  go_upto_block 8 with fail
  clear hpz
  obtain ⟨⟨h1, h2, hb, _⟩, ⟨e1, e2, e3, e4, e5⟩, hqb, hqa, hpl⟩ := HB0.out
  go_cut [20] (fun s20 wx => ∃ j : Nat, s20 = .int .i64 (j : Int) ∧ lo ≤ j ∧ j ≤ r0 ∧ Hid (lo < j → key d[j - 1]! ≤ key d[q + m - j]!) ∧ Hid (j < r0 → key d[q + m - 1 - j]! < key d[j]!) ∧ Hid (SW (enc num) w0 blk off d wx))
  case first =>
    go_wp2_with fail
    go_loopg [20, 21] (b - a) (fun g1 v20 v21 wr => ∃ (i j : Nat), v20 = .int .i64 (i : Int) ∧ v21 = .int .i64 (j : Int) ∧ lo ≤ i ∧ i ≤ j ∧ j ≤ r0 ∧ j - i ≤ g1 ∧ Hid (lo < i → key d[i - 1]! ≤ key d[q + m - i]!) ∧ Hid (j < r0 → key d[q + m - 1 - j]! < key d[j]!) ∧ Hid (SW (enc num) w0 blk off d wr))
    case atStart => exact ⟨lo, r0, rfl, rfl, Nat.le_refl _, e2, Nat.le_refl _, by omega, Lib.hid (fun h => absurd h (by omega)), Lib.hid (fun h => absurd h (by omega)), S0⟩
    case round =>
      clear S0
      obtain ⟨i, j, rfl, rfl, hai, hij, hjb, hg1, H1, H2, S1⟩ := hrel
      by_cases hlt : i < j
      · have hltz : (i : Int) < (j : Int) := by omega
        obtain ⟨h, hh⟩ : ∃ h, h = (i + j) / 2 := ⟨_, rfl⟩
        obtain ⟨pc, hpc⟩ : ∃ pc, pc = q + m - 1 - h := ⟨_, rfl⟩
        have hpcz : (p : Int) = (pc : Int) + (h : Int) := by omega
        have hhi : i ≤ h := by omega
        have hhj : h < j := by omega
        have hhz : ((i : Int) + (j : Int)) / 2 = (h : Int) := by omega
        have b1 : (0 : Int) ≤ (h : Int) := by omega
        have b2 : (h : Int) < (d.size : Int) := by omega
        have b3 : IntKind.i64.wrap (pc : Int) = (pc : Int) := by rw [IntKind.wrap_i64]; omega
        have b4 : (0 : Int) ≤ (pc : Int) := by omega
        have b5 : (pc : Int) < (d.size : Int) := by omega
        have b6 : (j : Int) ≤ (d.size : Int) := by omega
        clear hh
        obtain ⟨x, hx⟩ : ∃ x, x = d[pc]! := ⟨_, rfl⟩
        obtain ⟨y, hy⟩ : ∃ x, x = d[h]! := ⟨_, rfl⟩
        have l1 := S1.out.cl R HZ.out pc (by omega)
        have l2 := S1.out.cl R HZ.out h (by omega)
        rw [← hx] at l1
        rw [← hy] at l2
        have hc1 := S1.out.cmp HC.out HZ.out x y
        unfold enc at l1 l2 hc1
        have HPC := Lib.hid hpc
        have HNN := Lib.hid (show lo ≤ i ∧ j ≤ r0 ∧ i ≤ h ∧ h < j from ⟨hai, hjb, hhi, hhj⟩)
        have HG := Lib.hid hg1
        clear hpc hg1 hij hai hjb hhi hhj h1 h2 hb e1 e2 e3 e4 e5 hqb hqa hpl
        by_cases hlv : cf x y < 0
        · have H3 := Lib.hid (show h < r0 → key d[q + m - 1 - h]! < key d[h]! from fun _ => by rw [← HPC.out, ← hx, ← hy]; exact (HK.out x y).1 hlv)
          have hd1 : decide (cf x y < 0) = true := decide_eq_true hlv
          clear hx hy H2
          go_wp2_with fail
          clear hhz
          go_quiet_grown (first | (go_at_fn g; refine Calls.grown_of (hc1 _ _)))
          have S2 : Hid (SW (enc num) w0 blk off d (grow (wr.drewN nq) osq)) := Lib.hid (S1.out.grown nq osq)
          clear l1 l2 hc1 S1 b3
          generalize grow (wr.drewN nq) osq = w2 at S2 ⊢
          clear nq osq
          rw [← hpcz]
          clear hpcz
          go_wp2
          go_roundg (h - i)
          case measure => have := HNN.out; have := HG.out; omega
          case rel => obtain ⟨hai, hjb, hhi, hhj⟩ := HNN.out; exact ⟨i, h, rfl, rfl, hai, by omega, by omega, Nat.le_refl _, H1, H3, S2⟩
        · have H3 := Lib.hid (show lo < h + 1 → key d[h + 1 - 1]! ≤ key d[q + m - (h + 1)]! from fun _ => by rw [Nat.add_sub_cancel, show q + m - (h + 1) = pc by rw [HPC.out]; omega, ← hx, ← hy]; exact Int.not_lt.1 fun h => hlv ((HK.out x y).2 h))
          have hd1 : decide (cf x y < 0) = false := decide_eq_false hlv
          clear hx hy H1
          go_wp2_with fail
          clear hhz
          go_quiet_grown (first | (go_at_fn g; refine Calls.grown_of (hc1 _ _)))
          have S2 : Hid (SW (enc num) w0 blk off d (grow (wr.drewN nq) osq)) := Lib.hid (S1.out.grown nq osq)
          clear l1 l2 hc1 S1 b3
          generalize grow (wr.drewN nq) osq = w2 at S2 ⊢
          clear nq osq
          rw [← hpcz]
          clear hpcz
          go_wp2
          go_roundg (j - (h + 1))
          case measure => have := HNN.out; have := HG.out; omega
          case rel => obtain ⟨hai, hjb, hhi, hhj⟩ := HNN.out; exact ⟨h + 1, j, by go_num, rfl, by omega, by omega, hjb, Nat.le_refl _, H3, H2, S2⟩
      · obtain rfl : j = i := by omega
        have hltz : ¬ (j : Int) < (j : Int) := by omega
        go_wp2_with fail
        go_meet
        exact ⟨j, rfl, hai, hjb, H1, H2, S1⟩
  case rest =>
  clear S0
  obtain ⟨j, rfl, hai, hjb, H1, H2, S1⟩ := hcut
  go_step
  exact sym_tail num key g cb blk off cap a m b q j lo r0 d0 d w0 wc _ _ _ _ _ _ _ _ _ _ _ _ _ _ _ _ _ _ _ _ _ _ _ _ _ _ _ _ _ _ _ _ _ _ _ _ _ _ _ _ _ _ _ _ _ _ _ _ _ _ _ _ _ _ _ _ _ _ _ _ _ _ _ _ _ _ _ _ _ _ _ _ _ _ _ _ _ _ _ _ _ _ _ _ _ _ _ _ _ _ _ _ _ _ _ _ _ _ _ _ _ _ _ _ _ _ _ _ _ _ _ _ _ _ _ _ _ _ _ _ _ _ _ _ _ _ _ _ _ _ _ _ _ _ _ _ _ _ _ _ _ _ _ _ _ _ _ _ _ _ _ _ _ _ _ _ _ _ _ _ _ _ _ _ _ _ _ _ _ _ _ _ _ _ _ _ _ _ _ _ _ _ _ _ _ _ _ _ _ _ _ _ _ _ _ _ _ _ _ _ _ _ _ _ _ _ _ _ _ _ _ _ HI.out R HZ S1 HX HY hsz h1 h2 hb e1 e3 e4 e5 HE6 HE7 hqb hqa hai hjb H1 H2
end Go.Proofs.YtjffemeeomogaaaDoor.St
