/- The contract of Width. -/
import Derived.Test.YtaoekpedjgnnjaaDoorWdB
namespace Go.Proofs.YtaoekpedjgnnjaaDoor.Wd
open Go.ChangeShapes Go.WideShapes Go.ChangeAt Go.RowKit Own Bld Go.Lib

set_option maxRecDepth 100000 in
set_option maxHeartbeats 4000000 in
theorem width_any (s : ByteArray) (w : World) (hs : s.size ≤ 67108864) (hT : U8 w) :
    Calls Tryd.prog 45 #[.string s] w fun e w' => e = .returned (.int .i64 (widthW s.data.toList : Int)) ∧ Below w.heap.size w w' := by
  have HT := Lib.hid hT
  have hz : s.data.toList.length = s.size := rfl
  have HZ := Lib.hid hz
  have HTL := Lib.hid (widthW_len _ s.data.toList (Nat.le_refl _))
  clear hz hT
  go_enter Tryd.func45, Tryd.ntmps45
  go_wp2_with fail
  go_loopw [3] (fun c wr => ∃ pos m : Nat, pos ≤ s.size ∧ c = .int .i64 m ∧ wr.heap[w.heap.size]? = some (.stringIter s pos) ∧ Below w.heap.size w wr ∧ widthW s.data.toList = m + widthW (s.data.toList.drop pos)) (fun _ wr => s.size - wr.iterPos w.heap.size)
  case atStart => exact ⟨0, 0, by omega, rfl, heap_alloc_new w _, (Below.refl _ _).alloc (Nat.le_refl _) _, by simp⟩
  case round =>
    obtain ⟨pos, m, hp, rfl, hit, hbw, hacc⟩ := hrel
    have HAC := Lib.hid hacc
    have HIT := Lib.hid hit
    have HBW := Lib.hid hbw
    have hkr : w.heap.size < wr.heap.size := lt_heap' hit
    clear hacc hit hbw
    by_cases hlt : pos < s.size
    · have hne : s.data.toList.drop pos ≠ [] := by
        intro h
        have h2 := congrArg List.length h
        have h3 := HZ.out
        rw [List.length_drop] at h2
        simp at h2
        omega
      have hdl := decodeL_le _ hne
      have hdw := decodeL_width (s.data.toList.drop pos)
      have hdr := decodeL_rune (s.data.toList.drop pos)
      rw [List.length_drop, HZ.out] at hdl
      have hnx : ∀ ty, (Instr.next (.pointer (some ⟨w.heap.size, 0, none⟩)) true ty).run Tryd.prog wr = .ok (.tuple #[.bool true, .int .i64 pos, .int .i32 ((decodeL (s.data.toList.drop pos)).1 : Int)]) (wr.iterAt w.heap.size s (pos + (decodeL (s.data.toList.drop pos)).2)) := fun ty => by
        rw [decodeL_drop]
        exact Lib.run_next_any_at wr w.heap.size s pos ty HIT.out hlt
      have HST : Hid (widthW s.data.toList = (m + widthP (part s pos) (decodeL (s.data.toList.drop pos)).1) + widthW (s.data.toList.drop (pos + (decodeL (s.data.toList.drop pos)).2))) := Lib.hid (by
        rw [HAC.out, widthW_step _ hne, List.drop_drop, Nat.add_assoc]
        rfl)
      have HPL : Hid ((part s pos).length ≤ s.size) := Lib.hid (by
        unfold part
        rw [List.length_take, List.length_drop, HZ.out]
        omega)
      have HTK := Lib.hid fun W (h : U8 W) => taken_any s pos W hs hlt h
      have hap : m + widthP (part s pos) (decodeL (s.data.toList.drop pos)).1 ≤ 268435456 := by
        have h := HTL.out
        have h2 := HZ.out
        rw [HST.out] at h
        omega
      have I2 : Hid ((wr.iterAt w.heap.size s (pos + (decodeL (s.data.toList.drop pos)).2)).heap[w.heap.size]? = some (.stringIter s (pos + (decodeL (s.data.toList.drop pos)).2))) := Lib.hid (Lib.iterAt_heap wr w.heap.size s pos _ HIT.out)
      have hsz2 : w.heap.size ≤ (wr.iterAt w.heap.size s (pos + (decodeL (s.data.toList.drop pos)).2)).heap.size := by rw [Lib.iterAt_size]; omega
      have W2 : Hid (Below w.heap.size w (wr.iterAt w.heap.size s (pos + (decodeL (s.data.toList.drop pos)).2))) := Lib.hid (Lib.below_iterAt HBW.out (k := w.heap.size) (by omega) s _)
      have hme : Hid (wr.iterPos w.heap.size = pos) := Lib.hid (by simp only [World.iterPos, HIT.out])
      generalize wr.iterAt w.heap.size s (pos + (decodeL (s.data.toList.drop pos)).2) = wi at hnx hsz2 I2 W2
      clear hne HAC HIT HBW
      generalize (decodeL (s.data.toList.drop pos)).2 = n at hdl hdw HST I2
      have hsp : (str (part s pos)).size ≤ 67108864 := by rw [str_size]; have := HPL.out; omega
      generalize (decodeL (s.data.toList.drop pos)).1 = r at hnx HST HTK hap hdr
      go_wp2_with fail
      refine (HTK.out _ (HT.out.below W2.out)).mono ?_
      rintro e w2 ⟨rfl, b2⟩
      have W3 := Lib.hid (W2.out.trans (b2.mono hsz2))
      have I3 : Hid (w2.heap[w.heap.size]? = some (.stringIter s (pos + n))) := Lib.hid ((b2.block _ (lt_heap' I2.out)).trans I2.out)
      clear b2 W2 I2 hnx
      go_wp2_with fail
      refine (shownWidth_any (str (part s pos)) r _ hsp hdr).mono ?_
      rw [str_list]
      rintro e w3 ⟨rfl, rfl⟩
      generalize widthP (part s pos) r = q at hap HST ⊢
      go_wp2_with fail
      go_roundw
      case rel => exact ⟨pos + n, m + q, by omega, by go_num, I3.out, W3.out, HST.out⟩
      case measure =>
        have h1 : w2.iterPos w.heap.size = pos + n := by simp only [World.iterPos, I3.out]
        rw [h1, hme.out]
        omega
    · obtain rfl : pos = s.size := by omega
      have HE : Hid (m = widthW s.data.toList) := Lib.hid (by
        rw [HAC.out, List.drop_eq_nil_of_le (by rw [HZ.out]; omega)]
        rfl)
      have hnx : ∀ ty, (Instr.next (.pointer (some ⟨w.heap.size, 0, none⟩)) true ty).run Tryd.prog wr = _ := fun ty => Lib.run_next_end_at wr w.heap.size s s.size ty HIT.out hlt
      clear HAC
      go_wp2_with fail
      go_ret
      rw [← HE.out]
      exact ⟨rfl, HBW.out⟩
end Go.Proofs.YtaoekpedjgnnjaaDoor.Wd
