/- The contract of shownHead at a text that is shown as it stands; of fit and Fit there. -/
import Derived.Test.YtaoekpedjgnnjaaDoorWdJ
import Derived.Lib.TrimAscii
namespace Go.Proofs.YtaoekpedjgnnjaaDoor.Wd
open Go.ChangeShapes Go.WideShapes Go.ChangeAt Go.RowKit Own Bld Go.Lib Nums

/-- Bytes that are shown as they stand. -/
def Clear (s : ByteArray) : Prop := ∀ i (hi : i < s.size), 32 ≤ s[i].toNat ∧ s[i].toNat ≤ 126 ∧ s[i] ≠ 92
theorem clear_dec {s : ByteArray} (h : Clear s) (k : Nat) (hk : k < s.size) : decodeL (s.data.toList.drop k) = (s[k].toNat, 1) := by
  rw [drop_at s k hk]
  exact decodeL_ascii _ _ (by have := h k hk; omega)
theorem clear_shown {c : UInt8} (h1 : 32 ≤ c.toNat) (h2 : c.toNat ≤ 126) (h3 : c ≠ 92) : shownP [c] c.toNat = [c] := by
  have h4 : hidn [c] c.toNat = false := by
    unfold hidn
    rw [decide_eq_false (by omega : ¬ c.toNat = 65533), decide_eq_false (by omega : ¬ c.toNat < 32), decide_eq_false (by omega : ¬ 127 ≤ c.toNat)]
    rfl
  have h5 : c.toNat ≠ 92 := fun h => h3 (UInt8.toNat_inj.1 (by show c.toNat = 92; omega))
  unfold shownP
  rw [h4, if_neg (by decide), if_neg h5]

set_option maxRecDepth 100000 in
set_option maxHeartbeats 8000000 in
theorem shownHead_any (s : ByteArray) (n : Nat) (w : World) (hs : s.size ≤ 67108864) (hn : n ≤ 4096) (hc : Clear s) (hT : U8 w) :
    Calls Tryd.prog 46 #[.string s, .int .i64 (n : Int)] w fun e w' => e = .returned (.string (str (s.data.toList.take n))) ∧ Below w.heap.size w w' := by
  have HT := Lib.hid hT
  have HC := Lib.hid hc
  have hz : s.data.toList.length = s.size := rfl
  have HZ := Lib.hid hz
  clear hz hT hc
  go_enter Tryd.func46, Tryd.ntmps46
  go_wp2_with fail
  go_loopw [1] (fun v wr => ∃ pos : Nat, pos ≤ s.size ∧ pos ≤ n ∧ v = .int .i64 ((n - pos : Nat) : Int) ∧ Bd w.heap.size w.heap.size (s.data.toList.take pos) wr ∧ wr.heap[w.heap.size + 1]? = some (.stringIter s pos) ∧ Below w.heap.size w wr) (fun _ wr => s.size - wr.iterPos (w.heap.size + 1))
  case atStart =>
    refine ⟨0, by omega, by omega, rfl, Lib.IsBuilderF.alloc (Bd.fresh w) _, ?_, ((Below.refl _ _).alloc (Nat.le_refl _) _).alloc (by simp) _⟩
    have h := heap_alloc_new (w.alloc (.cells #[.pointer none, .slice none 0 0] 41)) (.stringIter s 0)
    have e : (w.alloc (.cells #[.pointer none, .slice none 0 0] 41)).heap.size = w.heap.size + 1 := by simp
    rw [e] at h
    exact h
  case round =>
    obtain ⟨pos, hp, hpn, rfl, hbd, hit, hbw⟩ := hrel
    have HIT := Lib.hid hit
    have HBW := Lib.hid hbw
    have HBD := Lib.hid hbd
    have hkr : w.heap.size + 1 < wr.heap.size := lt_heap' hit
    clear hit hbw hbd
    by_cases hlt : pos < s.size
    · have HDE := Lib.hid (clear_dec HC.out pos hlt)
      obtain ⟨q1, q2, q3⟩ := HC.out pos hlt
      have HSH : Hid (shownP (str [s[pos]]).data.toList s[pos].toNat = [s[pos]]) := Lib.hid (clear_shown q1 q2 q3)
      have HTL := Lib.hid (take_last s pos hlt)
      have HPT : Hid (part s pos = [s[pos]]) := Lib.hid (by
        unfold part
        rw [HDE.out, drop_at s pos hlt]
        rfl)
      have HTK : Hid (∀ W, U8 W → Calls Tryd.prog 37 #[.string s, .int .i64 (pos : Int), .int .i32 (s[pos].toNat : Int)] W fun e w' => e = .returned (.string (str [s[pos]])) ∧ Below W.heap.size W w') := Lib.hid fun W h => by
        have h2 := taken_any s pos W hs hlt h
        rw [HDE.out, HPT.out] at h2
        exact h2
      have hnx : ∀ ty, (Instr.next (.pointer (some ⟨w.heap.size + 1, 0, none⟩)) true ty).run Tryd.prog wr = _ := fun ty => Lib.run_next_ascii_at wr (w.heap.size + 1) s pos ty HIT.out hlt (by omega)
      have I2 : Hid ((wr.iterAt (w.heap.size + 1) s (pos + 1)).heap[w.heap.size + 1]? = some (.stringIter s (pos + 1))) := Lib.hid (Lib.iterAt_heap wr (w.heap.size + 1) s pos _ HIT.out)
      have D2 : Hid (Bd w.heap.size w.heap.size (s.data.toList.take pos) (wr.iterAt (w.heap.size + 1) s (pos + 1))) := Lib.hid (Lib.IsBuilderF.iterAt HBD.out HIT.out _)
      have hsz2 : w.heap.size ≤ (wr.iterAt (w.heap.size + 1) s (pos + 1)).heap.size := by rw [Lib.iterAt_size]; omega
      have hsz2' : w.heap.size + 1 < (wr.iterAt (w.heap.size + 1) s (pos + 1)).heap.size := by rw [Lib.iterAt_size]; omega
      have W2 : Hid (Below w.heap.size w (wr.iterAt (w.heap.size + 1) s (pos + 1))) := Lib.hid (Lib.below_iterAt HBW.out (k := w.heap.size + 1) (by omega) s _)
      have hme : Hid (wr.iterPos (w.heap.size + 1) = pos) := Lib.hid (by simp only [World.iterPos, HIT.out])
      generalize wr.iterAt (w.heap.size + 1) s (pos + 1) = wi at hnx D2 hsz2 hsz2' I2 W2
      clear HIT HBW HBD HDE HPT
      generalize hcc : s[pos] = c at hnx HSH HTL HTK q1 q2 q3
      clear hcc
      have hc128 : c.toNat < 128 := by omega
      go_wp2_with fail
      refine (HTK.out _ (HT.out.below W2.out)).mono ?_
      rintro e w2 ⟨rfl, b2⟩
      have D3 := Lib.hid (bd_below' D2.out b2)
      have W3 := Lib.hid (W2.out.trans (b2.mono hsz2))
      have I3 : Hid (w2.heap[w.heap.size + 1]? = some (.stringIter s (pos + 1))) := Lib.hid ((b2.block _ (lt_heap' I2.out)).trans I2.out)
      have hsz3 : w.heap.size ≤ w2.heap.size := W3.out.size
      clear b2 D2 W2 I2 hnx
      go_wp2_with fail
      refine (shown_any (str [c]) c.toNat _ (by rw [str_size]; simp) (by omega)).mono ?_
      rw [HSH.out]
      rintro e w3 ⟨rfl, b3⟩
      have D4 := Lib.hid (bd_below' D3.out b3)
      have W4 := Lib.hid (W3.out.trans (b3.mono hsz3))
      have I4 : Hid (w3.heap[w.heap.size + 1]? = some (.stringIter s (pos + 1))) := Lib.hid ((b3.block _ (lt_heap' I3.out)).trans I3.out)
      have hsz4 : w.heap.size ≤ w3.heap.size := W4.out.size
      have hlt4 : w.heap.size + 1 < w3.heap.size := lt_heap' I4.out
      clear b3 D3 W3 I3
      have I5 : Hid ((w3.alloc (.stringIter (str [c]) 0)).heap[w3.heap.size]? = some (.stringIter (str [c]) 0)) := Lib.hid (heap_alloc_new w3 _)
      have O5 : Hid ((w3.alloc (.stringIter (str [c]) 0)).heap[w.heap.size + 1]? = some (.stringIter s (pos + 1))) := Lib.hid (by rw [Lib.alloc_old w3 _ _ hlt4]; exact I4.out)
      have D5 : Hid (Bd w.heap.size w.heap.size (s.data.toList.take pos) (w3.alloc (.stringIter (str [c]) 0))) := Lib.hid (Lib.IsBuilderF.alloc D4.out _)
      have W5 : Hid (Below w.heap.size w (w3.alloc (.stringIter (str [c]) 0))) := Lib.hid (W4.out.alloc hsz4 _)
      have hz5 : (w3.alloc (.stringIter (str [c]) 0)).heap.size = w3.heap.size + 1 := by simp
      have hnx2 : ∀ ty, (Instr.next (.pointer (some ⟨w3.heap.size, 0, none⟩)) true ty).run Tryd.prog (w3.iter (str [c]) 0) = .ok (.tuple #[.bool true, .int .i64 0, .int .i32 (c.toNat : Int)]) ((w3.alloc (.stringIter (str [c]) 0)).iterAt w3.heap.size (str [c]) 1) := fun ty => Lib.run_next_ascii_at (w3.alloc (.stringIter (str [c]) 0)) w3.heap.size (str [c]) 0 ty I5.out (by rw [str_size]; simp) hc128
      have I6 : Hid (((w3.alloc (.stringIter (str [c]) 0)).iterAt w3.heap.size (str [c]) 1).heap[w3.heap.size]? = some (.stringIter (str [c]) 1)) := Lib.hid (Lib.iterAt_heap _ w3.heap.size (str [c]) 0 _ I5.out)
      have O6 : Hid (((w3.alloc (.stringIter (str [c]) 0)).iterAt w3.heap.size (str [c]) 1).heap[w.heap.size + 1]? = some (.stringIter s (pos + 1))) := Lib.hid (by rw [Lib.iterAt_other _ w3.heap.size (w.heap.size + 1) (str [c]) 1 (by omega)]; exact O5.out)
      have D6 : Hid (Bd w.heap.size w.heap.size (s.data.toList.take pos) ((w3.alloc (.stringIter (str [c]) 0)).iterAt w3.heap.size (str [c]) 1)) := Lib.hid (Lib.IsBuilderF.iterAt D5.out I5.out _)
      have W6 : Hid (Below w.heap.size w ((w3.alloc (.stringIter (str [c]) 0)).iterAt w3.heap.size (str [c]) 1)) := Lib.hid (Lib.below_iterAt W5.out (k := w3.heap.size) (by omega) _ _)
      have hsz6 : w.heap.size ≤ ((w3.alloc (.stringIter (str [c]) 0)).iterAt w3.heap.size (str [c]) 1).heap.size := by rw [Lib.iterAt_size, hz5]; omega
      clear hz5 I5 O5 D5 W5 D4 W4 I4
      have HL : Hid ((s.data.toList.take pos).length ≤ s.size) := Lib.hid (by rw [List.length_take, HZ.out]; omega)
      go_wp2_with fail
      refine wp_loop_rounds 2 ?_
      rw [rounds_succ]
      generalize (w3.alloc (.stringIter (str [c]) 0)).iterAt w3.heap.size (str [c]) 1 = w5 at hnx2 I6 O6 D6 W6 hsz6
      generalize w3.iter (str [c]) 0 = w4 at hnx2 ⊢
      by_cases hm0 : n - pos = 0
      · have HE : Hid (s.data.toList.take n = s.data.toList.take pos) := Lib.hid (by
          have : n = pos := by omega
          rw [this])
        have t0 : (((n - pos : Nat) : Int) == 0) = true := beq_iff_eq.2 (by omega)
        clear hm0
        go_wp2_with fail
        refine (Tryd.Builder_String_any_k w.heap.size w.heap.size _ _ D6.out hsz6).mono ?_
        rintro e w6 ⟨rfl, _, b6, _⟩
        have W7 := Lib.hid (W6.out.trans b6)
        clear b6
        go_wp2_with fail
        go_ret
        rw [HE.out]
        exact ⟨rfl, W7.out⟩
      · have t0 : (((n - pos : Nat) : Int) == 0) = false := beq_eq_false_iff_ne.2 (by omega)
        have hm1 : 1 ≤ n - pos := by omega
        have HM : Hid (((n - pos : Nat) : Int) - 1 = ((n - (pos + 1) : Nat) : Int)) := Lib.hid (by omega)
        have hpn' : pos + 1 ≤ n := by omega
        have hbk : w.heap.size ≠ w3.heap.size := by omega
        clear hm0
        go_wp2_with fail
        refine (writeRune_any w.heap.size w.heap.size _ c _ hc128 D6.out (by have := HL.out; omega) hsz6).mono ?_
        rintro e w6 ⟨rfl, d7, b7, k7⟩
        have D7 := Lib.hid d7
        have W7 := Lib.hid (W6.out.trans b7)
        have I7 := Lib.hid (k7.iter I6.out (by omega))
        have O7 := Lib.hid (k7.iter O6.out (by omega))
        have hnx3 : ∀ ty, (Instr.next (.pointer (some ⟨w3.heap.size, 0, none⟩)) true ty).run Tryd.prog w6 = _ := fun ty => Lib.run_next_end_at w6 w3.heap.size (str [c]) 1 ty I7.out (by rw [str_size]; simp)
        clear d7 b7 k7 hnx2
        go_wp2_with fail
        rw [rounds_succ]
        go_wp2_with fail
        go_roundw
        case rel => exact ⟨pos + 1, by omega, hpn', by rw [← HM.out], by rw [HTL.out]; exact D7.out, O7.out, W7.out⟩
        case measure =>
          have h1 : w6.iterPos (w.heap.size + 1) = pos + 1 := by simp only [World.iterPos, O7.out]
          rw [h1, hme.out]
          omega
    · obtain rfl : pos = s.size := by omega
      have HE : Hid (s.data.toList.take n = s.data.toList.take s.size) := Lib.hid (by
        rw [List.take_of_length_le (by rw [HZ.out]; omega), List.take_of_length_le (by rw [HZ.out]; omega)])
      have hnx : ∀ ty, (Instr.next (.pointer (some ⟨w.heap.size + 1, 0, none⟩)) true ty).run Tryd.prog wr = _ := fun ty => Lib.run_next_end_at wr (w.heap.size + 1) s s.size ty HIT.out hlt
      have hsz := HBW.out.size
      go_wp2_with fail
      refine (Tryd.Builder_String_any_k w.heap.size w.heap.size _ _ HBD.out hsz).mono ?_
      rintro e w3 ⟨rfl, _, b3, _⟩
      have W3 := Lib.hid (HBW.out.trans b3)
      clear b3
      go_wp2_with fail
      go_ret
      rw [HE.out]
      exact ⟨rfl, W3.out⟩
end Go.Proofs.YtaoekpedjgnnjaaDoor.Wd
