/- The contracts of Show and Width. -/
import Derived.Test.YtaoekpedjgnnjaaDoorWdA
namespace Go.Proofs.YtaoekpedjgnnjaaDoor.Wd
open Go.ChangeShapes Go.WideShapes Go.ChangeAt Go.RowKit Own Bld Go.Lib

theorem lt_heap' {w : World} {j : Nat} {o : Obj} (h : w.heap[j]? = some o) : j < w.heap.size := (Array.getElem?_eq_some_iff.1 h).1
theorem others_iter' {e : TypeId} {b : Nat} {w wr : World} (h : Lib.OthersKept e (some b) w wr) {k : Nat} (hk : w.heap.size ≤ k) (s : ByteArray) (pos : Nat) : Lib.OthersKept e (some b) w (wr.iterAt k s pos) :=
  fun j o hj h1 h2 => (Lib.iterAt_other wr k j s pos (by have := lt_heap' hj; omega)).trans (h j o hj h1 h2)
theorem bd_lt' {B b : Nat} {l : List UInt8} {w : World} (h : Bd B b l w) : b < w.heap.size := by
  rcases h with h | h
  · exact h.lt
  · exact h.lt
theorem bd_below' {B b : Nat} {l : List UInt8} {w w' : World} (h : Bd B b l w) (hb : Below w.heap.size w w') : Bd B b l w' := by
  have key : ∀ p, Lib.BuilderAtF 41 5 B b p (Lib.byteCells l) w → Lib.BuilderAtF 41 5 B b p (Lib.byteCells l) w' := by
    rintro p ⟨h1, v, h2, h3, h4⟩
    refine ⟨h1, v, (hb.block b (lt_heap' h2)).trans h2, ⟨h3.1, ?_⟩, h4⟩
    rcases h3.2 with h0 | ⟨g, cap, cur, fz, hv, hg, hh, hr⟩
    · exact .inl h0
    · exact .inr ⟨g, cap, cur, fz, hv, hg, (hb.block g (lt_heap' hh)).trans hh, hr⟩
  rcases h with h | h
  · exact .inl (key _ h)
  · exact .inr (key _ h)
theorem others_below' {e : TypeId} {b : Nat} {w w' : World} (hb : Below w.heap.size w w') : Lib.OthersKept e (some b) w w' := fun j _ hj _ _ => (hb.block j (lt_heap' hj)).trans hj

set_option maxRecDepth 100000 in
set_option maxHeartbeats 4000000 in
theorem show_any (s : ByteArray) (w : World) (hs : s.size ≤ 67108864) (hT : U8 w) :
    Calls Tryd.prog 24 #[.string s] w fun e w' => e = .returned (.string (str (showW s.data.toList))) ∧ Below w.heap.size w w' := by
  have HT := Lib.hid hT
  have hz : s.data.toList.length = s.size := rfl
  have HZ := Lib.hid hz
  have HTL := Lib.hid (showW_len _ s.data.toList (Nat.le_refl _))
  clear hz hT
  go_enter Tryd.func24, Tryd.ntmps24
  go_wp2_with fail
  go_loopw [] (fun wr => ∃ (pos : Nat) (acc : List UInt8), pos ≤ s.size ∧ Bd w.heap.size w.heap.size acc wr ∧ wr.heap[w.heap.size + 1]? = some (.stringIter s pos) ∧ Below w.heap.size w wr ∧ showW s.data.toList = acc ++ showW (s.data.toList.drop pos)) (fun wr => s.size - wr.iterPos (w.heap.size + 1))
  case atStart =>
    refine ⟨0, [], by omega, Lib.IsBuilderF.alloc (Bd.fresh w) _, ?_, ((Below.refl _ _).alloc (Nat.le_refl _) _).alloc (by simp) _, by simp⟩
    have h := heap_alloc_new (w.alloc (.cells #[.pointer none, .slice none 0 0] 41)) (.stringIter s 0)
    have e : (w.alloc (.cells #[.pointer none, .slice none 0 0] 41)).heap.size = w.heap.size + 1 := by simp
    rw [e] at h
    exact h
  case round =>
    obtain ⟨pos, acc, hp, hbd, hit, hbw, hacc⟩ := hrel
    have HAC := Lib.hid hacc
    have HIT := Lib.hid hit
    have HBW := Lib.hid hbw
    have HBD := Lib.hid hbd
    have hkr : w.heap.size + 1 < wr.heap.size := lt_heap' hit
    have hal : acc.length ≤ 268435456 := by
      have h := HTL.out
      have h2 := HZ.out
      rw [hacc, List.length_append] at h
      omega
    clear hacc hit hbw hbd
    by_cases hlt : pos < s.size
    · have hne : s.data.toList.drop pos ≠ [] := by
        intro h
        have h2 := congrArg List.length h
        have h3 := HZ.out
        rw [List.length_drop] at h2
        simp at h2
        omega
      have hdl := decodeL_le _ hne
      have hdw := decodeL_width (s.data.toList.drop pos)
      have hdr := decodeL_rune (s.data.toList.drop pos)
      rw [List.length_drop, HZ.out] at hdl
      have hnx : ∀ ty, (Instr.next (.pointer (some ⟨w.heap.size + 1, 0, none⟩)) true ty).run Tryd.prog wr = .ok (.tuple #[.bool true, .int .i64 pos, .int .i32 ((decodeL (s.data.toList.drop pos)).1 : Int)]) (wr.iterAt (w.heap.size + 1) s (pos + (decodeL (s.data.toList.drop pos)).2)) := fun ty => by
        rw [decodeL_drop]
        exact Lib.run_next_any_at wr (w.heap.size + 1) s pos ty HIT.out hlt
      have HST : Hid (showW s.data.toList = (acc ++ shownP (part s pos) (decodeL (s.data.toList.drop pos)).1) ++ showW (s.data.toList.drop (pos + (decodeL (s.data.toList.drop pos)).2))) := Lib.hid (by
        rw [HAC.out, showW_step _ hne, List.drop_drop, List.append_assoc]
        rfl)
      have HPL : Hid ((part s pos).length ≤ s.size) := Lib.hid (by
        unfold part
        rw [List.length_take, List.length_drop, HZ.out]
        omega)
      have HTK := Lib.hid fun W (h : U8 W) => taken_any s pos W hs hlt h
      have hap : (acc ++ shownP (part s pos) (decodeL (s.data.toList.drop pos)).1).length ≤ 268435456 := by
        have h := HTL.out
        have h2 := HZ.out
        rw [HST.out, List.length_append] at h
        omega
      have I2 : Hid ((wr.iterAt (w.heap.size + 1) s (pos + (decodeL (s.data.toList.drop pos)).2)).heap[w.heap.size + 1]? = some (.stringIter s (pos + (decodeL (s.data.toList.drop pos)).2))) := Lib.hid (Lib.iterAt_heap wr (w.heap.size + 1) s pos _ HIT.out)
      have D2 : Hid (Bd w.heap.size w.heap.size acc (wr.iterAt (w.heap.size + 1) s (pos + (decodeL (s.data.toList.drop pos)).2))) := Lib.hid (Lib.IsBuilderF.iterAt HBD.out HIT.out _)
      have hsz2 : w.heap.size ≤ (wr.iterAt (w.heap.size + 1) s (pos + (decodeL (s.data.toList.drop pos)).2)).heap.size := by rw [Lib.iterAt_size]; omega
      have W2 : Hid (Below w.heap.size w (wr.iterAt (w.heap.size + 1) s (pos + (decodeL (s.data.toList.drop pos)).2))) := Lib.hid (Lib.below_iterAt HBW.out (k := w.heap.size + 1) (by omega) s _)
      have hme : Hid (wr.iterPos (w.heap.size + 1) = pos) := Lib.hid (by simp only [World.iterPos, HIT.out])
      generalize wr.iterAt (w.heap.size + 1) s (pos + (decodeL (s.data.toList.drop pos)).2) = wi at hnx D2 hsz2 I2 W2
      clear hne HAC HIT HBW HBD
      generalize (decodeL (s.data.toList.drop pos)).2 = n at hdl hdw HST I2
      have hsp : (str (part s pos)).size ≤ 67108864 := by rw [str_size]; have := HPL.out; omega
      generalize (decodeL (s.data.toList.drop pos)).1 = r at hnx HST HTK hap hdr
      rw [List.length_append] at hap
      go_wp2_with fail
      refine (HTK.out _ (HT.out.below W2.out)).mono ?_
      rintro e w2 ⟨rfl, b2⟩
      have D3 := Lib.hid (bd_below' D2.out b2)
      have W3 := Lib.hid (W2.out.trans (b2.mono hsz2))
      have I3 : Hid (w2.heap[w.heap.size + 1]? = some (.stringIter s (pos + n))) := Lib.hid ((b2.block _ (lt_heap' I2.out)).trans I2.out)
      have hsz3 : w.heap.size ≤ w2.heap.size := W3.out.size
      clear b2 D2 W2 I2 hnx
      go_wp2_with fail
      refine (shown_any (str (part s pos)) r _ hsp hdr).mono ?_
      rw [str_list]
      rintro e w3 ⟨rfl, b3⟩
      have D4 := Lib.hid (bd_below' D3.out b3)
      have W4 := Lib.hid (W3.out.trans (b3.mono hsz3))
      have I4 : Hid (w3.heap[w.heap.size + 1]? = some (.stringIter s (pos + n))) := Lib.hid ((b3.block _ (lt_heap' I3.out)).trans I3.out)
      have hsz4 : w.heap.size ≤ w3.heap.size := W4.out.size
      clear b3 D3 W3 I3
      generalize shownP (part s pos) r = q at hap HST ⊢
      go_wp2_with fail
      refine (string_any w.heap.size w.heap.size acc (str q) _ D4.out (by rw [str_size]; omega) hsz4).mono ?_
      rintro e w4 ⟨rfl, d5, b5, k5⟩
      have D5 := Lib.hid d5
      have W5 := Lib.hid (W4.out.trans b5)
      have I5 := Lib.hid (k5.iter I4.out (by omega))
      clear d5 b5 k5 D4 W4 I4
      go_wp2_with fail
      go_roundw
      case rel => exact ⟨pos + n, acc ++ q, by omega, D5.out, I5.out, W5.out, HST.out⟩
      case measure =>
        have h1 : w4.iterPos (w.heap.size + 1) = pos + n := by simp only [World.iterPos, I5.out]
        rw [h1, hme.out]
        omega
    · obtain rfl : pos = s.size := by omega
      have HE : Hid (acc = showW s.data.toList) := Lib.hid (by
        rw [HAC.out, List.drop_eq_nil_of_le (by rw [HZ.out]; omega), showW_nil, List.append_nil])
      have hnx : ∀ ty, (Instr.next (.pointer (some ⟨w.heap.size + 1, 0, none⟩)) true ty).run Tryd.prog wr = _ := fun ty => Lib.run_next_end_at wr (w.heap.size + 1) s s.size ty HIT.out hlt
      have hsz := HBW.out.size
      clear HAC
      go_wp2_with fail
      refine (Tryd.Builder_String_any_k w.heap.size w.heap.size _ _ HBD.out hsz).mono ?_
      rintro e w3 ⟨rfl, _, b3, _⟩
      have W3 := Lib.hid (HBW.out.trans b3)
      clear b3
      go_wp2_with fail
      go_ret
      rw [← HE.out]
      exact ⟨rfl, W3.out⟩
end Go.Proofs.YtaoekpedjgnnjaaDoor.Wd
