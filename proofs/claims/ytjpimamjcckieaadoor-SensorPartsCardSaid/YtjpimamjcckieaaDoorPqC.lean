/- slices.Sort over small numbers: the heap sort; a stretch turned about. -/
import Derived.Test.YtjpimamjcckieaaDoorPqB
namespace Go.Proofs.YtjpimamjcckieaaDoor.Pq
open Go.ChangeShapes Go.WideShapes Go.ChangeAt Go.RowKit Go.Sort Go.Shelf

set_option maxRecDepth 100000 in
set_option maxHeartbeats 16000000 in
theorem heap_any (blk off cap a b : Nat) (d0 d : Array Int) (w0 w : World) (R : Row1 enc w0 blk off d0) (hs : d.size = d0.size) (S : SW enc w0 blk off d w) (hb : b ≤ d.size) (hsz : d.size < 1152921504606846976) (hab : a < b) :
    Calls Tryd.prog 13 #[.slice (some ⟨blk, off, none⟩) d.size cap, .int .i64 (a : Int), .int .i64 (b : Int)] w fun e w' => e = .returned (.tuple #[]) ∧ ∃ d', d'.size = d0.size ∧ d' = heapSort ltInt d a b ∧ SW enc w0 blk off d' w' := by
  have S0 := Lib.hid S
  have HZ := Lib.hid hs
  obtain ⟨hi, hhi⟩ : ∃ hi : Nat, (b : Int) - (a : Int) = (hi : Int) := ⟨b - a, by omega⟩
  have HHI := Lib.hid (show hi = b - a ∧ 0 < hi by omega)
  have hw1 : IntKind.i64.wrap (hi : Int) = (hi : Int) := by rw [IntKind.wrap_i64]; omega
  obtain ⟨hm, hhm⟩ : ∃ hm : Nat, (hi : Int) - 1 = (hm : Int) := ⟨hi - 1, by omega⟩
  have HHM := Lib.hid (show hm + 1 = hi by omega)
  have hw2 : IntKind.i64.wrap (hm : Int) = (hm : Int) := by rw [IntKind.wrap_i64]; omega
  obtain ⟨hq, hhq⟩ : ∃ hq : Nat, (hm : Int).tdiv 2 = (hq : Int) := ⟨hm / 2, by rw [Int.tdiv_eq_ediv_of_nonneg (by omega)]; omega⟩
  have HHQ := Lib.hid (show hq = hm / 2 by rw [Int.tdiv_eq_ediv_of_nonneg (by omega)] at hhq; omega)
  have hw3 : IntKind.i64.wrap (hq : Int) = (hq : Int) := by have := HHQ.out; rw [IntKind.wrap_i64]; omega
  clear S hs
  go_enter Tryd.func13, Tryd.ntmps13
  go_wp2
  go_loopg [9] (hq + 1) (fun g1 vi wr => ∃ (k : Nat) (dk : Array Int), ((k = 0 ∧ vi = .int .i64 (-1)) ∨ ∃ kp : Nat, k = kp + 1 ∧ vi = .int .i64 (kp : Int)) ∧ k ≤ g1 ∧ k ≤ hq + 1 ∧ dk.size = d.size ∧ Hid (SW enc w0 blk off dk wr) ∧ Hid (heapBuild ltInt hi a k dk = heapBuild ltInt hi a (hq + 1) d))
  case atStart => exact ⟨hq + 1, d, .inr ⟨hq, rfl, rfl⟩, Nat.le_refl _, Nat.le_refl _, rfl, S0, Lib.hid rfl⟩
  case round =>
    clear S0
    obtain ⟨k, dk, hk, hg1, hk2, hsk, S1, HI⟩ := hrel
    rcases hk with ⟨rfl, rfl⟩ | ⟨kp, rfl, rfl⟩
    · have HB := Lib.hid (show dk = heapBuild ltInt hi a (hq + 1) d from HI.out)
      clear HI
      go_wp2
      go_loopg [10] hi (fun g1 vi wr => ∃ (k : Nat) (dk : Array Int), ((k = 0 ∧ vi = .int .i64 (-1)) ∨ ∃ kp : Nat, k = kp + 1 ∧ vi = .int .i64 (kp : Int)) ∧ k ≤ g1 ∧ k ≤ hi ∧ dk.size = d.size ∧ Hid (SW enc w0 blk off dk wr) ∧ Hid (heapPop ltInt a k dk = heapSort ltInt d a b))
      case atStart =>
        refine ⟨hi, dk, .inr ⟨hm, HHM.out.symm, rfl⟩, Nat.le_refl _, Nat.le_refl _, hsk, S1, Lib.hid ?_⟩
        rw [HB.out]
        unfold heapSort
        rw [← HHI.out.1, show (hi - 1) / 2 = hq by rw [HHQ.out, ← HHM.out, Nat.add_sub_cancel]]
      case round =>
        clear S1 HB hsk
        obtain ⟨k, dk, hk, hg1, hk2, hsk, S1, HI⟩ := hrel
        rcases hk with ⟨rfl, rfl⟩ | ⟨kp, rfl, rfl⟩
        · go_wp2
          go_end0
          exact ⟨rfl, dk, by rw [hsk]; exact HZ.out, HI.out, S1.out⟩
        · have hab2 : a + hi ≤ b := by have := HHI.out; omega
          have iap : (0 : Int) ≤ (a : Int) := by omega
          have iab : (a : Int) < (d.size : Int) := by omega

          obtain ⟨ibN, hibN⟩ : ∃ q, q = a + kp := ⟨_, rfl⟩
          have ibe : ((a : Int) + (kp : Int)).toNat = ibN := by omega
          have ibp : (0 : Int) ≤ (a : Int) + (kp : Int) := by omega
          have ibb : (a : Int) + (kp : Int) < (d.size : Int) := by omega
          have ibr : IntKind.i64.wrap ((a : Int) + (kp : Int)) = (a : Int) + (kp : Int) := by rw [IntKind.wrap_i64]; omega
          obtain ⟨x, hx⟩ : ∃ x, x = dk[a]! := ⟨_, rfl⟩
          obtain ⟨y, hy⟩ : ∃ x, x = dk[a + kp]! := ⟨_, rfl⟩

          have S5 := Lib.hid (S1.out.swapped R (a) (a + kp) (by omega) (by omega))
          have c1a := S1.out.c1 R (by have := HZ.out; omega) (a) (by omega)
          have c1b := S1.out.c1 R (by have := HZ.out; omega) (a + kp) (by omega)
          have f1a := S1.out.f1 R (by have := HZ.out; omega) (a) (by omega)
          have f1b := S1.out.f1 R (by have := HZ.out; omega) (a + kp) (by omega)
          obtain ⟨u, c1c⟩ := S1.out.c2 R (by have := HZ.out; omega) (a) (a + kp) (by omega) (by omega) (enc y)
          rw [← hx, ← hy, ← hibN] at S5
          rw [← hibN] at c1c
          rw [← hx] at c1a
          rw [← hy, ← hibN] at c1b
          rw [← hibN] at f1b
          unfold enc at c1a c1b c1c S5

          have HCA := Lib.hid hibN
          clear S1 hx hy hibN
          go_upto_region 10 with fail

          go_big_region
          clear c1a c1b c1c f1a f1b
          generalize ((wr.setCell ⟨blk, off + a, none⟩ (.int .i8 y)).setCell ⟨blk, off + ibN, none⟩ (.int .i8 x)).drew = w2 at S5 ⊢
          have HC := sift_any blk off cap 0 kp a d0 (swp dk a ibN) w0 w2 R (by rw [size_swp, hsk]; exact HZ.out) S5.out (by rw [size_swp, hsk]; omega) (by rw [size_swp, hsk]; omega) (by omega)
          rw [size_swp, hsk, show ((0 : Nat) : Int) = 0 from rfl] at HC
          have HC' := Lib.hid HC
          clear HC ibe S5
          go_wp2_with (go_at_call 23; refine HC'.out.mono ?_; rintro e w9 ⟨rfl, d9, h91, h92, h93⟩; have HD1 := Lib.hid h91; have HD2 := Lib.hid h92; have HD3 := Lib.hid h93; clear h91 h92 h93)
          go_roundg kp
          case measure => omega
          case rel =>
            refine ⟨kp, d9, ?_, Nat.le_refl _, by omega, by rw [HD1.out]; exact HZ.out.symm, HD3, Lib.hid ?_⟩
            · cases kp with
              | zero => exact .inl ⟨rfl, congrArg (Value.int .i64) (by first | omega | (unfold wrap64; omega))⟩
              | succ kq => exact .inr ⟨kq, rfl, congrArg (Value.int .i64) (by have := HHQ.out; have := HHM.out; have := HHI.out; first | omega | (unfold wrap64; omega))⟩
            · rw [HD2.out, HCA.out]
              exact HI.out
    · have HC := sift_any blk off cap kp hi a d0 dk w0 wr R (hsk.trans HZ.out) S1.out (by rw [hsk]; have := HHI.out; omega) (by rw [hsk]; omega) (by have := HHQ.out; have := HHM.out; omega)
      rw [hsk] at HC
      have HC' := Lib.hid HC
      clear HC
      go_wp2_with (go_at_call 23; refine HC'.out.mono ?_; rintro e w9 ⟨rfl, d9, h91, h92, h93⟩; have HD1 := Lib.hid h91; have HD2 := Lib.hid h92; have HD3 := Lib.hid h93; clear h91 h92 h93)
      go_roundg kp
      case measure => omega
      case rel =>
        refine ⟨kp, d9, ?_, Nat.le_refl _, by omega, by rw [HD1.out]; exact HZ.out.symm, HD3, Lib.hid ?_⟩
        · cases kp with
          | zero => exact .inl ⟨rfl, congrArg (Value.int .i64) (by first | omega | (unfold wrap64; omega))⟩
          | succ kq => exact .inr ⟨kq, rfl, congrArg (Value.int .i64) (by have := HHQ.out; have := HHM.out; have := HHI.out; first | omega | (unfold wrap64; omega))⟩
        · rw [HD2.out]
          exact HI.out
theorem rev_go {i j : Nat} {d : Array Int} (h : i < j) : reverseLoop i j d = reverseLoop (i + 1) (j - 1) (swp d i j) := by
  conv => lhs; unfold reverseLoop
  rw [if_pos h]
theorem rev_stop {i j : Nat} {d : Array Int} (h : ¬ i < j) : reverseLoop i j d = d := by
  unfold reverseLoop
  rw [if_neg h]
set_option maxRecDepth 100000 in
set_option maxHeartbeats 16000000 in
theorem reverse_any (blk off cap a b : Nat) (d0 d : Array Int) (w0 w : World) (R : Row1 enc w0 blk off d0) (hs : d.size = d0.size) (S : SW enc w0 blk off d w) (hb : b ≤ d.size) (hsz : d.size < 1152921504606846976) (hab : a < b) :
    Calls Tryd.prog 16 #[.slice (some ⟨blk, off, none⟩) d.size cap, .int .i64 (a : Int), .int .i64 (b : Int)] w fun e w' => e = .returned (.tuple #[]) ∧ ∃ d', d'.size = d0.size ∧ d' = reverseRange d a b ∧ SW enc w0 blk off d' w' := by
  have S0 := Lib.hid S
  have HZ := Lib.hid hs
  obtain ⟨bm, hbm⟩ : ∃ bm : Nat, (b : Int) - 1 = (bm : Int) := ⟨b - 1, by omega⟩
  have HBM := Lib.hid (show bm + 1 = b by omega)
  have hw1 : IntKind.i64.wrap (bm : Int) = (bm : Int) := by rw [IntKind.wrap_i64]; omega
  clear S hs
  go_enter Tryd.func16, Tryd.ntmps16
  go_wp2
  go_loopg [6, 7] b (fun g1 vi vj wr => ∃ (i j : Nat) (dk : Array Int), vi = .int .i64 (i : Int) ∧ vj = .int .i64 (j : Int) ∧ j < b ∧ i ≤ b ∧ j ≤ g1 ∧ dk.size = d.size ∧ Hid (SW enc w0 blk off dk wr) ∧ Hid (reverseLoop i j dk = reverseRange d a b))
  case atStart => exact ⟨a, bm, d, rfl, rfl, by have := HBM.out; omega, by omega, by have := HBM.out; omega, rfl, S0, Lib.hid (by unfold reverseRange; rw [← HBM.out, Nat.add_sub_cancel])⟩
  case round =>
    clear S0
    obtain ⟨i, j, dk, rfl, rfl, hjb, hib, hg1, hsk, S1, HI⟩ := hrel
    by_cases hlt : i < j
    · have hltz : (i : Int) < (j : Int) := by omega
      obtain ⟨jp, hjp⟩ : ∃ q : Nat, (j : Int) - 1 = (q : Int) := ⟨j - 1, by omega⟩
      have HJP := Lib.hid (show jp = j - 1 by omega)
      have hw2 : IntKind.i64.wrap (jp : Int) = (jp : Int) := by rw [IntKind.wrap_i64]; omega
      have iap : (0 : Int) ≤ (i : Int) := by omega
      have iab : (i : Int) < (d.size : Int) := by omega

      have ibp : (0 : Int) ≤ (j : Int) := by omega
      have ibb : (j : Int) < (d.size : Int) := by omega
      obtain ⟨x, hx⟩ : ∃ x, x = dk[i]! := ⟨_, rfl⟩
      obtain ⟨y, hy⟩ : ∃ x, x = dk[j]! := ⟨_, rfl⟩

      have S5 := Lib.hid (S1.out.swapped R (i) (j) (by omega) (by omega))
      have c1a := S1.out.c1 R (by have := HZ.out; omega) (i) (by omega)
      have c1b := S1.out.c1 R (by have := HZ.out; omega) (j) (by omega)
      have f1a := S1.out.f1 R (by have := HZ.out; omega) (i) (by omega)
      have f1b := S1.out.f1 R (by have := HZ.out; omega) (j) (by omega)
      obtain ⟨u, c1c⟩ := S1.out.c2 R (by have := HZ.out; omega) (i) (j) (by omega) (by omega) (enc y)
      rw [← hx, ← hy] at S5
      rw [← hx] at c1a
      rw [← hy] at c1b
      unfold enc at c1a c1b c1c S5

      clear S1 hx hy
      go_upto_region 3 with fail

      go_big_region
      clear c1a c1b c1c f1a f1b
      generalize ((wr.setCell ⟨blk, off + i, none⟩ (.int .i8 y)).setCell ⟨blk, off + j, none⟩ (.int .i8 x)).drew = w2 at S5 ⊢
      have H9 := Lib.hid (show reverseLoop (i + 1) jp (swp dk i j) = reverseRange d a b by rw [HJP.out, ← rev_go hlt]; exact HI.out)
      have HSZ := Lib.hid (show (swp dk i j).size = d.size by rw [size_swp]; exact hsk)
      go_wp2
      go_roundg jp
      case measure => have := HJP.out; omega
      case rel => exact ⟨i + 1, jp, _, by go_num, rfl, by have := HJP.out; omega, by omega, Nat.le_refl _, HSZ.out, S5, H9⟩
    · have hltz : ¬ (i : Int) < (j : Int) := by omega
      go_wp2
      go_end0
      exact ⟨rfl, dk, by rw [hsk]; exact HZ.out, by rw [← HI.out, rev_stop hlt], S1.out⟩
end Go.Proofs.YtjpimamjcckieaaDoor.Pq
