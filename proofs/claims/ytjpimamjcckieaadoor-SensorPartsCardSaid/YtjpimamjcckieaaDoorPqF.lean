/- slices.Sort over small numbers: three elements put elsewhere. -/
import Derived.Test.YtjpimamjcckieaaDoorPqE
import Derived.Test.YtjpimamjcckieaaDoorShelf
import Derived.Sort.Walk7
import Derived.Deep.Cut
namespace Go.Proofs.YtjpimamjcckieaaDoor.Pq
open Go.ChangeShapes Go.WideShapes Go.ChangeAt Go.RowKit Go.Sort Go.Shelf

/-- The row, and a number of 64 bits in a box of its own. -/
def Rnd (w0 : World) (blk off : Nat) (dk : Array Int) (c : Nat) (X : Nat) (W : World) : Prop :=
  SW enc w0 blk off dk W ∧ W.cell? ⟨c, 0, none⟩ = some (.int .u64 (X : Int)) ∧ W.frozen? ⟨c, 0, none⟩ = false ∧ w0.heap.size ≤ c ∧ c < W.heap.size
section
variable {w0 W : World} {blk off c X : Nat} {dk : Array Int}
theorem Rnd.start (h : SW enc w0 blk off dk W) (T : TypeId) (L : Nat) : Rnd w0 blk off dk W.heap.size L (W.alloc (.cells #[.int .u64 (L : Int)] T)) := ⟨h.alloc _, by simp, by simp, h.le, by simp⟩
theorem Rnd.put (h : Rnd w0 blk off dk c X W) (Y n : Nat) : Rnd w0 blk off dk c Y ((W.setCell ⟨c, 0, none⟩ (.int .u64 (Y : Int))).drewN n) :=
  ⟨(h.1.setCell_new c 0 _ h.2.2.2.1).drewN n, World.cell?_setCell_same' _ _ _ (by rw [h.2.1]; rfl), (World.frozen?_setCell _ _ _ _).trans h.2.2.1, h.2.2.2.1, by have := h.2.2.2.2; simpa [World.setCell] using this⟩
theorem Rnd.swap {d0 : Array Int} (h : Rnd w0 blk off dk c X W) (R : Row1 enc w0 blk off d0) (i j : Nat) (hi : i < dk.size) (hj : j < dk.size) : Rnd w0 blk off (swp dk i j) c X ((W.setCell ⟨blk, off + i, none⟩ (enc dk[j]!)).setCell ⟨blk, off + j, none⟩ (enc dk[i]!)).drew :=
  ⟨h.1.swapped R i j hi hj, (box_kept_swap1 (by have := R.hblk; have := h.2.2.2.1; omega) h.2.1 h.2.2.1 _ _ _ _).1, (box_kept_swap1 (by have := R.hblk; have := h.2.2.2.1; omega) h.2.1 h.2.2.1 _ _ _ _).2, h.2.2.2.1, by have := h.2.2.2.2; simpa [World.setCell] using this⟩
end
set_option maxRecDepth 100000 in
set_option maxHeartbeats 16000000 in
theorem next_any (c X : Nat) (hX : X < 18446744073709551616) (w : World) (hc : w.cell? ⟨c, 0, none⟩ = some (.int .u64 X)) (hf : w.frozen? ⟨c, 0, none⟩ = false) :
    Calls Tryd.prog 25 #[.pointer (some ⟨c, 0, none⟩)] w fun e w' => e = .returned (.int .u64 (xorNextN X : Nat)) ∧ w' = (w.setCell ⟨c, 0, none⟩ (.int .u64 (xorNextN X : Nat))).drewN 3 := by
  obtain ⟨A, hA⟩ : ∃ A : Nat, A = X ^^^ (X * 8192 % 18446744073709551616) := ⟨_, rfl⟩
  obtain ⟨B, hB⟩ : ∃ B : Nat, B = A ^^^ (A / 128) := ⟨_, rfl⟩
  obtain ⟨C, hC⟩ : ∃ C : Nat, C = B ^^^ (B * 131072 % 18446744073709551616) := ⟨_, rfl⟩
  have lA : A < 18446744073709551616 := by rw [hA]; exact Nat.xor_lt_two_pow (n := 64) (by omega) (by omega)
  have lB : B < 18446744073709551616 := by rw [hB]; exact Nat.xor_lt_two_pow (n := 64) (by omega) (by omega)
  have e1 : bits .xor .u64 (X : Int) (IntKind.u64.wrap ((X : Int) * 8192)) = (A : Int) := by
    rw [IntKind.wrap_u64, show ((X : Int) * 8192 % 18446744073709551616) = ((X * 8192 % 18446744073709551616 : Nat) : Int) by omega, bits_xor_u64_nat _ _ hX (by omega), hA]
  have e2 : bits .xor .u64 (A : Int) ((A : Int) / 128) = (B : Int) := by
    rw [show ((A : Int) / 128) = ((A / 128 : Nat) : Int) by omega, bits_xor_u64_nat _ _ lA (by omega), hB]
  have e3 : bits .xor .u64 (B : Int) (IntKind.u64.wrap ((B : Int) * 131072)) = (C : Int) := by
    rw [IntKind.wrap_u64, show ((B : Int) * 131072 % 18446744073709551616) = ((B * 131072 % 18446744073709551616 : Nat) : Int) by omega, bits_xor_u64_nat _ _ lB (by omega), hC]
  have hv : xorNextN X = C := by unfold xorNextN; simp only []; rw [← hA, ← hB, ← hC]
  have hss : ∀ v v', (w.setCell ⟨c, 0, none⟩ v).setCell ⟨c, 0, none⟩ v' = w.setCell ⟨c, 0, none⟩ v' := setCell_setCell w c 0
  rw [hv]
  clear hA hB hC hv
  go_enter Tryd.func25, Tryd.ntmps25
  go_wp2
  go_region
  all_goals go_wp2
  all_goals go_region
  all_goals go_wp2
  all_goals go_region
  all_goals go_wp2
  go_ret
  exact ⟨rfl, rfl⟩
set_option maxRecDepth 100000 in
set_option maxHeartbeats 16000000 in
theorem pow_any (n : Nat) (hn : n < 4611686018427387904) (w : World) : Calls Tryd.prog 24 #[.int .i64 n] w fun e w' => e = .returned (.int .u64 ((1 <<< bitsLen n : Nat) : Int)) ∧ w' = w := by
  have hLen : ∀ w, Calls Tryd.prog 11 #[.int .u64 (n : Int)] w fun e w' => e = .returned (.int .i64 (bitsLen n : Nat)) ∧ w' = w := fun w => by
    have h := Tryd.bits_Len (n : Int) w (by omega) (by omega)
    rwa [Int.toNat_natCast, bitLen_eq _ (by omega)] at h
  have hk : bitsLen n ≤ 62 := (bitsLen_le_iff n 62).2 (by omega)
  have hp := wrap_two_pow (bitsLen n) hk
  go_enter Tryd.func24, Tryd.ntmps24
  go_wp2_with (first | (go_at_call 11; refine (hLen _).mono ?_; rintro e w' ⟨rfl, rfl⟩))
  go_ret
  exact ⟨rfl, rfl⟩
set_option maxRecDepth 100000 in
set_option maxHeartbeats 16000000 in
theorem break_any (blk off cap a b : Nat) (d0 d : Array Int) (w0 w : World) (R : Row1 enc w0 blk off d0) (hs : d.size = d0.size) (S : SW enc w0 blk off d w) (hb : b ≤ d.size) (hsz : d.size < 1152921504606846976) (hl : 13 ≤ b - a) :
    Calls Tryd.prog 14 #[.slice (some ⟨blk, off, none⟩) d.size cap, .int .i64 (a : Int), .int .i64 (b : Int)] w fun e w' => e = .returned (.tuple #[]) ∧ ∃ d', d'.size = d0.size ∧ d' = breakPatterns d a b ∧ SW enc w0 blk off d' w' := by
  obtain ⟨L, hlz⟩ : ∃ L : Nat, (b : Int) - (a : Int) = (L : Int) := ⟨b - a, by omega⟩
  have HBP := Lib.hid (show breakPatterns d a b = bpRest a L (1 <<< bitsLen L) (a + L / 4 * 2 - 1) 3 0 (UInt64.ofNat L, d) by
    rw [show b = a + L by omega, breakPatterns_eq d a L (by omega)])
  obtain ⟨M, hM⟩ : ∃ M : Nat, M = 1 <<< bitsLen L := ⟨_, rfl⟩
  have hM1 : 1 ≤ M := by rw [hM, Nat.one_shiftLeft]; exact Nat.two_pow_pos _
  have hM2 : M ≤ 2 * L := by rw [hM, Nat.one_shiftLeft]; exact two_pow_bitsLen_le (by omega)
  have hNP : ∀ w, Calls Tryd.prog 24 #[.int .i64 (L : Int)] w fun e w' => e = .returned (.int .u64 (M : Int)) ∧ w' = w := by rw [hM]; exact fun w => pow_any L (by omega) w
  rw [← hM] at HBP
  replace hNP := Lib.hid hNP
  obtain ⟨q, hq⟩ : ∃ q : Nat, (L : Int).tdiv 4 = (q : Int) := ⟨L / 4, by rw [Int.tdiv_eq_ediv_of_nonneg (by omega)]; omega⟩
  have hqn : q = L / 4 := by rw [Int.tdiv_eq_ediv_of_nonneg (by omega)] at hq; omega
  obtain ⟨j, hj⟩ : ∃ j : Nat, (a : Int) + (q : Int) * 2 = (j : Int) := ⟨a + q * 2, by omega⟩
  obtain ⟨i0, hi0⟩ : ∃ i0 : Nat, (j : Int) - 1 = (i0 : Int) := ⟨j - 1, by omega⟩
  obtain ⟨je, hje⟩ : ∃ je : Nat, (j : Int) + 1 = (je : Int) := ⟨j + 1, by omega⟩
  have HI := Lib.hid (show i0 = a + L / 4 * 2 - 1 ∧ je = i0 + 2 ∧ i0 + 3 < a + L by rw [← hqn]; omega)
  rw [← HI.out.1] at HBP
  have hLd : a + L ≤ d.size := by omega
  have w1 : IntKind.i64.wrap (L : Int) = (L : Int) := by rw [IntKind.wrap_i64]; omega
  have w1u : IntKind.u64.wrap (L : Int) = (L : Int) := by rw [IntKind.wrap_u64]; omega
  have w2 : IntKind.i64.wrap (q : Int) = (q : Int) := by rw [IntKind.wrap_i64]; omega
  have w3 : IntKind.i64.wrap ((q : Int) * 2) = (q : Int) * 2 := by rw [IntKind.wrap_i64]; omega
  have w5 : IntKind.i64.wrap (i0 : Int) = (i0 : Int) := by rw [IntKind.wrap_i64]; omega
  have w6 : IntKind.i64.wrap (j : Int) = (j : Int) := by rw [IntKind.wrap_i64]; omega
  have w7 : IntKind.i64.wrap (je : Int) = (je : Int) := by rw [IntKind.wrap_i64]; omega
  have w8 : IntKind.u64.wrap ((M : Int) - 1) = (M : Int) - 1 := by rw [IntKind.wrap_u64]; omega
  have h8 : (8 : Int) ≤ (L : Int) := by omega
  have HZ := Lib.hid hs
  have S0 := Lib.hid (Rnd.start S 53 L)
  clear hM hqn S hs
  go_enter Tryd.func14, Tryd.ntmps14
  go_wp2_with (first | (go_at_call 24; refine (hNP.out _).mono ?_; rintro e w' ⟨rfl, rfl⟩))
  generalize w.heap.size = c at S0 ⊢
  generalize w.alloc (.cells #[.int .u64 (L : Int)] 53) = W1 at S0 ⊢
  go_loopg [9, 10] 3 (fun g1 vi _ wr => ∃ (t ix : Nat) (r : UInt64) (dk : Array Int), vi = .int .i64 (ix : Int) ∧ Hid (ix = i0 + t) ∧ t ≤ 3 ∧ 3 - t ≤ g1 ∧ dk.size = d.size ∧ Hid (Rnd w0 blk off dk c r.toNat wr) ∧ Hid (bpRest a L M i0 (3 - t) t (r, dk) = breakPatterns d a b))
  case atStart => exact ⟨0, i0, UInt64.ofNat L, d, rfl, Lib.hid rfl, by omega, by omega, rfl, by rw [show (UInt64.ofNat L).toNat = L from by simp; omega]; exact S0, Lib.hid HBP.out.symm⟩
  case round =>
    clear S0 HBP
    obtain ⟨t, ix, r, dk, rfl, HIX, ht, hg1, hsk, S1, HR⟩ := hrel
    by_cases hlt : t < 3
    · have hle : (ix : Int) ≤ (je : Int) := by have := HIX.out; have := HI.out; omega
      have hixd : ix < d.size := by have := HIX.out; have := HI.out; omega
      obtain ⟨Rn, hRr⟩ : ∃ Rn : Nat, Rn = r.toNat := ⟨_, rfl⟩
      have lR : Rn < 18446744073709551616 := by rw [hRr]; exact r.toNat_lt
      obtain ⟨R', hR'⟩ : ∃ R' : Nat, R' = xorNextN Rn := ⟨_, rfl⟩
      have lR' : R' < 18446744073709551616 := by rw [hR']; exact xorNextN_lt Rn lR
      obtain ⟨O, hO⟩ : ∃ O : Nat, O = R' &&& (M - 1) := ⟨_, rfl⟩
      have lO : O ≤ M - 1 := by rw [hO]; exact Nat.and_le_right
      have eAnd : bits .and .u64 (R' : Int) ((M : Int) - 1) = (O : Int) := by
        rw [show ((M : Int) - 1) = ((M - 1 : Nat) : Int) by omega, bits_and_u64_nat _ _ lR' (by omega), hO]
      have wO : IntKind.i64.wrap (O : Int) = (O : Int) := by rw [IntKind.wrap_i64]; omega
      have HN := Lib.hid (show R' = (xorNext r).toNat ∧ O = (xorNext r).toNat &&& (M - 1) from by
        have e : R' = (xorNext r).toNat := by rw [hR', hRr, xorNext_toNat]
        exact ⟨e, by rw [hO, e]⟩)
      rw [← hRr] at S1
      have hNext := Lib.hid (next_any c Rn lR wr S1.out.2.1 S1.out.2.2.1)
      rw [← hR'] at hNext
      have S2 := Lib.hid (S1.out.put R' 3)
      clear hRr hR' hO S1
      go_upto_region 8 with (first | (go_at_call 25; refine hNext.out.mono ?_; rintro e w' ⟨rfl, rfl⟩))
      generalize (wr.setCell ⟨c, 0, none⟩ (.int .u64 (R' : Int))).drewN 3 = w2 at S2 ⊢
      clear hNext
      by_cases hLO : L ≤ O
      · have hLOz : (L : Int) ≤ (O : Int) := by omega
        obtain ⟨p, hp⟩ : ∃ p : Nat, (O : Int) - (L : Int) = (p : Int) := ⟨O - L, by omega⟩
        have wp : IntKind.i64.wrap (p : Int) = (p : Int) := by rw [IntKind.wrap_i64]; omega
        have HOP := Lib.hid (show (if O ≥ L then O - L else O) = p by rw [if_pos (by omega)]; omega)
        have iap : (0 : Int) ≤ (ix : Int) := by omega
        have iab : (ix : Int) < (d.size : Int) := by omega

        obtain ⟨ibN, hibN⟩ : ∃ q, q = a + p := ⟨_, rfl⟩
        have ibe : ((a : Int) + (p : Int)).toNat = ibN := by omega
        have ibp : (0 : Int) ≤ (a : Int) + (p : Int) := by omega
        have ibb : (a : Int) + (p : Int) < (d.size : Int) := by omega
        have ibr : IntKind.i64.wrap ((a : Int) + (p : Int)) = (a : Int) + (p : Int) := by rw [IntKind.wrap_i64]; omega
        obtain ⟨x, hx⟩ : ∃ x, x = dk[ix]! := ⟨_, rfl⟩
        obtain ⟨y, hy⟩ : ∃ x, x = dk[a + p]! := ⟨_, rfl⟩

        have S5 := Lib.hid (S2.out.swap R ix (a + p) (by omega) (by omega))
        have c1a := S2.out.1.c1 R (by have := HZ.out; omega) ix (by omega)
        have c1b := S2.out.1.c1 R (by have := HZ.out; omega) (a + p) (by omega)
        have f1a := S2.out.1.f1 R (by have := HZ.out; omega) ix (by omega)
        have f1b := S2.out.1.f1 R (by have := HZ.out; omega) (a + p) (by omega)
        obtain ⟨u, c1c⟩ := S2.out.1.c2 R (by have := HZ.out; omega) ix (a + p) (by omega) (by omega) (enc y)
        rw [← hx, ← hy, ← hibN] at S5
        rw [← hy] at c1b
        rw [← hibN] at c1c c1b f1b
        rw [← hx] at c1a
        unfold enc at c1a c1b c1c S5
        have HIB := Lib.hid hibN
        clear S2 hx hy hibN
        go_upto_region 10 with fail

        go_big_region
        clear c1a c1b c1c f1a f1b
        generalize ((w2.setCell ⟨blk, off + ix, none⟩ (.int .i8 y)).setCell ⟨blk, off + ibN, none⟩ (.int .i8 x)).drew = w3 at S5 ⊢

        clear ibe
        have HSZ := Lib.hid (show (swp dk ix ibN).size = d.size by rw [size_swp]; exact hsk)
        go_wp2
        go_roundg (3 - (t + 1))
        case measure => omega
        case rel =>
          refine ⟨t + 1, ix + 1, xorNext r, _, by go_num, Lib.hid (by have := HIX.out; omega), by omega, Nat.le_refl _, HSZ.out, by rw [← HN.out.1]; exact S5, Lib.hid ?_⟩
          rw [HIB.out, HIX.out, ← HR.out, bp_step a L M i0 t r dk p (by omega) (by rw [← HN.out.2]; exact HOP.out)]
      · have hLOz : ¬ (L : Int) ≤ (O : Int) := by omega
        have HOP := Lib.hid (show (if O ≥ L then O - L else O) = O by rw [if_neg (by omega)])
        have iap : (0 : Int) ≤ (ix : Int) := by omega
        have iab : (ix : Int) < (d.size : Int) := by omega

        obtain ⟨ibN, hibN⟩ : ∃ q, q = a + O := ⟨_, rfl⟩
        have ibe : ((a : Int) + (O : Int)).toNat = ibN := by omega
        have ibp : (0 : Int) ≤ (a : Int) + (O : Int) := by omega
        have ibb : (a : Int) + (O : Int) < (d.size : Int) := by omega
        have ibr : IntKind.i64.wrap ((a : Int) + (O : Int)) = (a : Int) + (O : Int) := by rw [IntKind.wrap_i64]; omega
        obtain ⟨x, hx⟩ : ∃ x, x = dk[ix]! := ⟨_, rfl⟩
        obtain ⟨y, hy⟩ : ∃ x, x = dk[a + O]! := ⟨_, rfl⟩

        have S5 := Lib.hid (S2.out.swap R ix (a + O) (by omega) (by omega))
        have c1a := S2.out.1.c1 R (by have := HZ.out; omega) ix (by omega)
        have c1b := S2.out.1.c1 R (by have := HZ.out; omega) (a + O) (by omega)
        have f1a := S2.out.1.f1 R (by have := HZ.out; omega) ix (by omega)
        have f1b := S2.out.1.f1 R (by have := HZ.out; omega) (a + O) (by omega)
        obtain ⟨u, c1c⟩ := S2.out.1.c2 R (by have := HZ.out; omega) ix (a + O) (by omega) (by omega) (enc y)
        rw [← hx, ← hy, ← hibN] at S5
        rw [← hy] at c1b
        rw [← hibN] at c1c c1b f1b
        rw [← hx] at c1a
        unfold enc at c1a c1b c1c S5
        have HIB := Lib.hid hibN
        clear S2 hx hy hibN
        go_upto_region 10 with fail

        go_big_region
        clear c1a c1b c1c f1a f1b
        generalize ((w2.setCell ⟨blk, off + ix, none⟩ (.int .i8 y)).setCell ⟨blk, off + ibN, none⟩ (.int .i8 x)).drew = w3 at S5 ⊢

        clear ibe
        have HSZ := Lib.hid (show (swp dk ix ibN).size = d.size by rw [size_swp]; exact hsk)
        go_wp2
        go_roundg (3 - (t + 1))
        case measure => omega
        case rel =>
          refine ⟨t + 1, ix + 1, xorNext r, _, by go_num, Lib.hid (by have := HIX.out; omega), by omega, Nat.le_refl _, HSZ.out, by rw [← HN.out.1]; exact S5, Lib.hid ?_⟩
          rw [HIB.out, HIX.out, ← HR.out, bp_step a L M i0 t r dk O (by omega) (by rw [← HN.out.2]; exact HOP.out)]
    · have hle : ¬ (ix : Int) ≤ (je : Int) := by have := HIX.out; have := HI.out; omega
      have HF := Lib.hid (show dk = breakPatterns d a b by rw [← HR.out, show t = 3 by omega]; rfl)
      go_wp2
      go_end0
      exact ⟨rfl, dk, by rw [hsk]; exact HZ.out, HF.out, S1.out.1⟩
end Go.Proofs.YtjpimamjcckieaaDoor.Pq
