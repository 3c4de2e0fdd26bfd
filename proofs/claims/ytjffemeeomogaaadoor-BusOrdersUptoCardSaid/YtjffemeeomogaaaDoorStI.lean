/- slices.SortStableFunc's insertion sort. -/
import Derived.Test.YtjffemeeomogaaaDoorStR
namespace Go.Proofs.YtjffemeeomogaaaDoor.St
open Go.ChangeShapes Go.WideShapes Go.ChangeAt Go.RowKit Go.Sort Go.Shelf
variable {α : Type} [Inhabited α]

set_option maxRecDepth 100000 in
set_option maxHeartbeats 16000000 in
theorem insertion_any (num : α → Int) (key : α → Int) (cf : α → α → Int) (g : Nat) (cb : Array Value) (blk off cap a b : Nat) (d0 d : Array α) (w0 w : World) (eg : ∀ args w, (callFunc g args).run Tryd.prog w = .ok (.enter g args) w) (hcmp : CmpLays1 Tryd.prog g cb (enc num) cf blk off d0.size w0) (hk : ∀ x y, cf x y < 0 ↔ key x < key y)
    (R : Row1 (enc num) w0 blk off d0) (hs : d.size = d0.size) (S : SW (enc num) w0 blk off d w) (h1 : a ≤ b) (hb : b ≤ d.size) (hsz : d.size < 4611686018427387904) :
    Calls Tryd.prog 139 #[.slice (some ⟨blk, off, none⟩) d.size cap, .int .i64 (a : Int), .int .i64 (b : Int), .func (.func g) #[] cb] w fun e w' => e = .returned (.tuple #[]) ∧ ∃ d', (Ch key a b d d' ∧ Srt key (seg d' a b)) ∧ SW (enc num) w0 blk off d' w' := by
  have mixed : Tryd.prog.follows Departure.mixedOrders = true := by kernel_rfl
  have S0 := Lib.hid S
  have HZ := Lib.hid hs
  have HK := Lib.hid hk
  have HC := Lib.hid hcmp
  clear S hs hk hcmp
  go_enter Tryd.func139, Tryd.ntmps139
  go_wp2
  go_loopg [8] (b - a) (fun g1 vi wr => ∃ (i : Nat) (dk : Array α), vi = .int .i64 (i : Int) ∧ a < i ∧ i ≤ b + 1 ∧ b + 1 - i ≤ g1 + 1 ∧ dk.size = d.size ∧ Hid (SW (enc num) w0 blk off dk wr) ∧ Hid (i ≤ b ∨ a = b) ∧ Hid (Ch key a (min i b) d dk ∧ Srt key (seg dk a (min i b))))
  case atStart => exact ⟨a + 1, d, by go_num, by omega, by omega, by omega, rfl, S0, Lib.hid (by omega), Lib.hid ⟨Ch.refl _ _ _, (Srt.one d a).part (Nat.le_refl _) (Nat.min_le_left _ _)⟩⟩
  case round =>
    clear S0
    obtain ⟨i, dk, rfl, hai, hib, hg1, hsk, S1, HO, HI⟩ := hrel
    by_cases hlt : i < b
    · have hltz : (i : Int) < (b : Int) := by omega
      have HSK := Lib.hid hsk
      have HI1 := Lib.hid (show Ch key a i d dk ∧ Srt key (seg dk a i) from by have := HI.out; rwa [Nat.min_eq_left (by omega)] at this)
      clear HI HO
      go_wp2
      go_loopg [9] i (fun g2 vj wr2 => ∃ (j : Nat) (dj : Array α), vj = .int .i64 (j : Int) ∧ a ≤ j ∧ j ≤ i ∧ j ≤ g2 ∧ dj.size = d.size ∧ Hid (SW (enc num) w0 blk off dj wr2) ∧ Hid (Rot j i (i + 1) dk dj) ∧ Hid (j < i → key dk[i]! < key dk[j]!))
      case atStart => exact ⟨i, dk, rfl, by omega, Nat.le_refl _, Nat.le_refl _, hsk, S1, Lib.hid (Rot.triv i i (i + 1) dk (.inl (Nat.le_refl _)) (Nat.le_refl _) (by omega)), Lib.hid (fun h => absurd h (by omega))⟩
      case round =>
        clear S1
        obtain ⟨j, dj, rfl, haj, hji, hg2, hsj, SJ, HR, HL⟩ := hrel
        have OUT := Lib.hid (fun (hc : a < j → key dk[j - 1]! ≤ key dk[i]!) => show Ch key a (min (i + 1) b) d dj ∧ Srt key (seg dj a (min (i + 1) b)) from by
          obtain ⟨x1, x2⟩ := ins_final HI1.out.2 haj hji HR.out hc HL.out
          rw [Nat.min_eq_left (by omega)]
          exact ⟨(HI1.out.1.wide (Nat.le_refl _) (by omega) (by omega)).trans x1, x2⟩)
        by_cases hja : a < j
        · have hjaz : (a : Int) < (j : Int) := by omega
          obtain ⟨jp, hjp⟩ : ∃ q, q + 1 = j := ⟨j - 1, by omega⟩
          have zjp : (j : Int) = (jp : Int) + 1 := by omega
          have hjad : decide ((jp : Int) + 1 > (a : Int)) = true := decide_eq_true (by omega)
          have hjaz' : (a : Int) < (jp : Int) + 1 := by omega
          have hx0 : dj[j]! = dk[i]! := by rw [HR.out.2, if_pos (by omega), if_pos (by omega), show j + (i - j) = i by omega]
          have hy0 : dj[j - 1]! = dk[j - 1]! := by rw [HR.out.2, if_neg (by omega)]
          obtain ⟨iN, hiN⟩ : ∃ q, q = j := ⟨_, rfl⟩
          obtain ⟨jN, hjN⟩ : ∃ q, q = j - 1 := ⟨_, rfl⟩
          have ea : ((jp : Int) + 1).toNat = iN := by omega
          have pa : (0 : Int) ≤ (jp : Int) + 1 := by omega
          have ba : (jp : Int) + 1 < (d.size : Int) := by omega
          have ra : IntKind.i64.wrap ((jp : Int) + 1) = (jp : Int) + 1 := by rw [IntKind.wrap_i64]; omega
          have ec : ((jp : Int)).toNat = jN := by omega
          have pc : (0 : Int) ≤ (jp : Int) := by omega
          have bc : (jp : Int) < (d.size : Int) := by omega
          have rc : IntKind.i64.wrap ((jp : Int)) = (jp : Int) := by rw [IntKind.wrap_i64]; omega
          obtain ⟨x, hx⟩ : ∃ x, x = dj[j]! := ⟨_, rfl⟩
          obtain ⟨y, hy⟩ : ∃ x, x = dj[j - 1]! := ⟨_, rfl⟩
          have l1 := SJ.out.cl R (by have := HZ.out; omega) j (by omega)
          have l2 := SJ.out.cl R (by have := HZ.out; omega) (j - 1) (by omega)
          rw [← hx, ← hiN] at l1
          rw [← hy, ← hjN] at l2
          have hc1 := SJ.out.cmp HC.out (by have := HZ.out; omega) x y
          unfold enc at l1 l2 hc1
          by_cases hlv : cf x y < 0
          · have hlx : key x < key y := (HK.out x y).1 hlv
            have HX := Lib.hid (And.intro hx (And.intro hy (And.intro hiN hjN)))
            have HY := Lib.hid (And.intro hx0 (And.intro hy0 hlx))
            have hd1 : decide (cf x y < 0) = true := decide_eq_true hlv
            clear hx hy hiN hjN hx0 hy0 hlx
            go_wp2_with fail
            go_quiet_grown (first | (go_at_fn g; refine Calls.grown_of (hc1 _ _)))
            have S2 : Hid (SW (enc num) w0 blk off dj (grow (wr.drewN nq) osq)) := Lib.hid (SJ.out.grown nq osq)
            clear l1 l2 hc1 SJ
            generalize grow (wr.drewN nq) osq = w2 at S2 ⊢
            clear nq osq
            have S3 := Lib.hid (S2.out.swapped R j (j - 1) (by omega) (by omega))
            have c1a := S2.out.c1 R (by have := HZ.out; omega) j (by omega)
            have c1b := S2.out.c1 R (by have := HZ.out; omega) (j - 1) (by omega)
            have f1a := S2.out.f1 R (by have := HZ.out; omega) j (by omega)
            have f1b := S2.out.f1 R (by have := HZ.out; omega) (j - 1) (by omega)
            obtain ⟨u, c1c⟩ := S2.out.c2 R (by have := HZ.out; omega) j (j - 1) (by omega) (by omega) (enc num y)
            rw [← HX.out.1, ← HX.out.2.1, ← HX.out.2.2.2, ← HX.out.2.2.1] at S3
            rw [← HX.out.2.2.2, ← HX.out.2.2.1] at c1c
            rw [← HX.out.1, ← HX.out.2.2.1] at c1a
            rw [← HX.out.2.1, ← HX.out.2.2.2] at c1b
            rw [← HX.out.2.2.1] at f1a
            rw [← HX.out.2.2.2] at f1b
            have H9 := Lib.hid (show Rot (j - 1) i (i + 1) dk (swp dj j (j - 1)) from by
              have h := HR.out
              rw [← hjp] at h ⊢
              exact h.down (by omega) (by omega))
            have H8 := Lib.hid (show j - 1 < i → key dk[i]! < key dk[j - 1]! from fun _ => by rw [← HY.out.1, ← HY.out.2.1, ← HX.out.1, ← HX.out.2.1]; exact HY.out.2.2)
            rw [← HX.out.2.2.2, ← HX.out.2.2.1] at H9
            rw [← HX.out.2.2.2] at H8
            have hjN2 : jN + 1 = j := by have := HX.out.2.2.2; omega
            have HJ := Lib.hid hjN2
            have hsz2 : (swp dj iN jN).size = d.size := by rw [size_swp]; exact hsj
            have HSZ := Lib.hid hsz2
            clear S2 hjN2 hsz2 HX HY HR HL OUT
            unfold enc at c1a c1b c1c S3
            go_wp2_with fail
            go_big_region
            clear c1a c1b c1c f1a f1b
            generalize ((w2.setCell ⟨blk, off + iN, none⟩ (.int .i64 (num y))).setCell ⟨blk, off + jN, none⟩ (.int .i64 (num x))).drew = w3 at S3 ⊢
            clear ea ec
            go_wp2
            go_roundg (j - 1)
            case measure => omega
            case rel => exact ⟨jN, _, by first | rfl | go_num | (congr 1; have := HJ.out; omega), by have := HJ.out; omega, by have := HJ.out; omega, by have := HJ.out; omega, HSZ.out, S3, H9, H8⟩
          · have hlx : key y ≤ key x := Int.not_lt.1 fun h => hlv ((HK.out x y).2 h)
            have OU := Lib.hid (OUT.out fun _ => by rw [← hx0, ← hy0, ← hx, ← hy]; exact hlx)
            have hd1 : decide (cf x y < 0) = false := decide_eq_false hlv
            clear hx hy hiN hjN hx0 hy0 hlx OUT
            go_wp2_with fail
            go_quiet_grown (first | (go_at_fn g; refine Calls.grown_of (hc1 _ _)))
            have S2 : Hid (SW (enc num) w0 blk off dj (grow (wr.drewN nq) osq)) := Lib.hid (SJ.out.grown nq osq)
            clear l1 l2 hc1 SJ
            generalize grow (wr.drewN nq) osq = w2 at S2 ⊢
            clear nq osq
            clear ea ec
            go_wp2
            go_roundg (b - (i + 1))
            case measure => omega
            case rel => exact ⟨i + 1, dj, by go_num, by omega, by omega, by omega, hsj, S2, Lib.hid (.inl (by omega)), OU⟩
        · have hjaz : decide ((j : Int) > (a : Int)) = false := decide_eq_false (by omega)
          have hjaz' : ¬ (a : Int) < (j : Int) := by omega
          have OU := Lib.hid (OUT.out fun h => absurd h hja)
          clear OUT
          go_wp2_with fail
          go_big_region
          have S2 := Lib.hid (SJ.out.drew)
          clear SJ
          generalize wr.drew = w2 at S2 ⊢
          go_wp2
          go_roundg (b - (i + 1))
          case measure => omega
          case rel => exact ⟨i + 1, dj, by go_num, by omega, by omega, by omega, hsj, S2, Lib.hid (.inl (by omega)), OU⟩
    · have hltz : ¬ (i : Int) < (b : Int) := by omega
      go_wp2
      go_end0
      exact ⟨rfl, dk, by have := HI.out; rwa [Nat.min_eq_right (by omega)] at this, S1.out⟩
end Go.Proofs.YtjffemeeomogaaaDoor.St
