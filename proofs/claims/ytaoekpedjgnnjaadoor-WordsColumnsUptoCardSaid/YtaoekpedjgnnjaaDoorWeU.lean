/- The contract of shownHead at every text. -/
import Derived.Test.YtaoekpedjgnnjaaDoorWeR
import Derived.Test.YtaoekpedjgnnjaaDoorWeS
import Derived.Test.YtaoekpedjgnnjaaDoorWdB
namespace Go.Proofs.YtaoekpedjgnnjaaDoor.Wd
open Go.ChangeShapes Go.WideShapes Go.ChangeAt Go.RowKit Own Bld Go.Lib Nums

set_option maxRecDepth 100000 in
set_option maxHeartbeats 8000000 in
theorem shownHead_all (s : ByteArray) (n : Nat) (w : World) (hs : s.size ≤ 67108864) (hn : n ≤ 4096) (hT : U8 w) :
    Calls Tryd.prog 46 #[.string s, .int .i64 (n : Int)] w fun e w' => e = .returned (.string (str ((tokW s.data.toList).take n).flatten)) ∧ Below w.heap.size w w' := by
  have HT := Lib.hid hT
  have hz : s.data.toList.length = s.size := rfl
  have HZ := Lib.hid hz
  have HTA := Lib.hid (toks s.data.toList).2.1
  clear hz hT
  go_enter Tryd.func46, Tryd.ntmps46
  go_wp2_with fail
  go_loopw [1] (fun v wr => ∃ (pos m : Nat) (T : List (List UInt8)), pos ≤ s.size ∧ m ≤ n ∧ v = .int .i64 ((n - m : Nat) : Int) ∧ Hid (m = T.length) ∧ Hid (tokW s.data.toList = T ++ tokW (s.data.toList.drop pos)) ∧ Bd w.heap.size w.heap.size T.flatten wr ∧ wr.heap[w.heap.size + 1]? = some (.stringIter s pos) ∧ Below w.heap.size w wr) (fun _ wr => s.size - wr.iterPos (w.heap.size + 1))
  case atStart =>
    refine ⟨0, 0, [], by omega, by omega, rfl, Lib.hid rfl, Lib.hid (by simp), Lib.IsBuilderF.alloc (Bd.fresh w) _, ?_, ((Below.refl _ _).alloc (Nat.le_refl _) _).alloc (by simp) _⟩
    have h := heap_alloc_new (w.alloc (.cells #[.pointer none, .slice none 0 0] 41)) (.stringIter s 0)
    have e : (w.alloc (.cells #[.pointer none, .slice none 0 0] 41)).heap.size = w.heap.size + 1 := by simp
    rw [e] at h
    exact h
  case round =>
    obtain ⟨pos, m, T, hp, hmn, rfl, HML, HTK, hbd, hit, hbw⟩ := hrel
    have HIT := Lib.hid hit
    have HBW := Lib.hid hbw
    have HBD := Lib.hid hbd
    have hkr : w.heap.size + 1 < wr.heap.size := lt_heap' hit
    clear hit hbw hbd
    by_cases hlt : pos < s.size
    · have hne : s.data.toList.drop pos ≠ [] := by
        intro h
        have h2 := congrArg List.length h
        have h3 := HZ.out
        rw [List.length_drop] at h2
        simp at h2
        omega
      have hdl := decodeL_le _ hne
      have hdw := decodeL_width (s.data.toList.drop pos)
      have hdr := decodeL_rune (s.data.toList.drop pos)
      rw [List.length_drop, HZ.out] at hdl
      have hnx : ∀ ty, (Instr.next (.pointer (some ⟨w.heap.size + 1, 0, none⟩)) true ty).run Tryd.prog wr = .ok (.tuple #[.bool true, .int .i64 pos, .int .i32 ((decodeL (s.data.toList.drop pos)).1 : Int)]) (wr.iterAt (w.heap.size + 1) s (pos + (decodeL (s.data.toList.drop pos)).2)) := fun ty => by
        rw [decodeL_drop]
        exact Lib.run_next_any_at wr (w.heap.size + 1) s pos ty HIT.out hlt
      have HTP := Lib.hid (tokP_all _ hne)
      have HST : Hid (tokW s.data.toList = T ++ tokP (part s pos) (decodeL (s.data.toList.drop pos)).1 ++ tokW (s.data.toList.drop (pos + (decodeL (s.data.toList.drop pos)).2))) := Lib.hid (by
        rw [HTK.out, tokW_step _ hne, List.drop_drop, List.append_assoc]
        rfl)
      have HPL : Hid ((part s pos).length ≤ s.size) := Lib.hid (by
        unfold part
        rw [List.length_take, List.length_drop, HZ.out]
        omega)
      have HPS : Hid ((tokP (part s pos) (decodeL (s.data.toList.drop pos)).1).flatten = shownP (part s pos) (decodeL (s.data.toList.drop pos)).1 ∧ ∀ q ∈ tokP (part s pos) (decodeL (s.data.toList.drop pos)).1, TokE q) := Lib.hid ⟨HTP.out.1, HTP.out.2.1⟩
      have HTF := Lib.hid fun W (h : U8 W) => taken_any s pos W hs hlt h
      have I2 : Hid ((wr.iterAt (w.heap.size + 1) s (pos + (decodeL (s.data.toList.drop pos)).2)).heap[w.heap.size + 1]? = some (.stringIter s (pos + (decodeL (s.data.toList.drop pos)).2))) := Lib.hid (Lib.iterAt_heap wr (w.heap.size + 1) s pos _ HIT.out)
      have D2 : Hid (Bd w.heap.size w.heap.size T.flatten (wr.iterAt (w.heap.size + 1) s (pos + (decodeL (s.data.toList.drop pos)).2))) := Lib.hid (Lib.IsBuilderF.iterAt HBD.out HIT.out _)
      have hsz2 : w.heap.size ≤ (wr.iterAt (w.heap.size + 1) s (pos + (decodeL (s.data.toList.drop pos)).2)).heap.size := by rw [Lib.iterAt_size]; omega
      have W2 : Hid (Below w.heap.size w (wr.iterAt (w.heap.size + 1) s (pos + (decodeL (s.data.toList.drop pos)).2))) := Lib.hid (Lib.below_iterAt HBW.out (k := w.heap.size + 1) (by omega) s _)
      have hme : Hid (wr.iterPos (w.heap.size + 1) = pos) := Lib.hid (by simp only [World.iterPos, HIT.out])
      generalize wr.iterAt (w.heap.size + 1) s (pos + (decodeL (s.data.toList.drop pos)).2) = wi at hnx D2 hsz2 I2 W2
      clear hne HTK HIT HBW HBD HTP
      generalize (decodeL (s.data.toList.drop pos)).2 = k at hdl hdw HST I2
      have hsp : (str (part s pos)).size ≤ 67108864 := by rw [str_size]; have := HPL.out; omega
      generalize (decodeL (s.data.toList.drop pos)).1 = r at hnx HST HTF HPS hdr
      go_wp2_with fail
      refine (HTF.out _ (HT.out.below W2.out)).mono ?_
      rintro e w2 ⟨rfl, b2⟩
      have D3 := Lib.hid (bd_below' D2.out b2)
      have W3 := Lib.hid (W2.out.trans (b2.mono hsz2))
      have I3 : Hid (w2.heap[w.heap.size + 1]? = some (.stringIter s (pos + k))) := Lib.hid ((b2.block _ (lt_heap' I2.out)).trans I2.out)
      have hsz3 : w.heap.size ≤ w2.heap.size := W3.out.size
      clear b2 D2 W2 I2 hnx
      go_wp2_with fail
      refine (shown_any (str (part s pos)) r _ hsp hdr).mono ?_
      rw [str_list]
      rintro e w3 ⟨rfl, b3⟩
      have D4 := Lib.hid (bd_below' D3.out b3)
      have W4 := Lib.hid (W3.out.trans (b3.mono hsz3))
      have I4 : Hid (w3.heap[w.heap.size + 1]? = some (.stringIter s (pos + k))) := Lib.hid ((b3.block _ (lt_heap' I3.out)).trans I3.out)
      have hsz4 : w.heap.size ≤ w3.heap.size := W4.out.size
      have hlt4 : w.heap.size + 1 < w3.heap.size := lt_heap' I4.out
      clear b3 D3 W3 I3
      obtain ⟨S, hS⟩ : ∃ S, str (shownP (part s pos) r) = S := ⟨_, rfl⟩
      have HSF : Hid (S.data.toList = (tokP (part s pos) r).flatten) := Lib.hid (by rw [← hS, str_list, HPS.out.1])
      rw [hS]
      clear hS hsp
      obtain ⟨us0, hus⟩ : ∃ us, tokP (part s pos) r = us := ⟨_, rfl⟩
      have HUA : Hid (∀ q ∈ us0, TokE q) := Lib.hid (by rw [← hus]; exact HPS.out.2)
      rw [hus] at HSF HST
      clear hus HPS HPL
      go_wp2_with fail
      go_loopw [1] (fun v wr => ∃ (p2 m : Nat) (T us : List (List UInt8)), p2 ≤ S.size ∧ m ≤ n ∧ v = .int .i64 ((n - m : Nat) : Int) ∧ Hid (m = T.length) ∧ Hid (tokW s.data.toList = T ++ us ++ tokW (s.data.toList.drop (pos + k))) ∧ Hid (S.data.toList.drop p2 = us.flatten) ∧ Hid (∀ q ∈ us, TokE q) ∧ Bd w.heap.size w.heap.size T.flatten wr ∧ wr.heap[w.heap.size + 1]? = some (.stringIter s (pos + k)) ∧ wr.heap[w3.heap.size]? = some (.stringIter S p2) ∧ Below w.heap.size w wr) (fun _ wr => S.size - wr.iterPos w3.heap.size)
      case atStart =>
        refine ⟨0, m, T, us0, Nat.zero_le _, hmn, rfl, HML, HST, Lib.hid (by rw [List.drop_zero]; exact HSF.out), HUA, Lib.IsBuilderF.alloc D4.out _, ?_, heap_alloc_new w3 _, W4.out.alloc hsz4 _⟩
        have h := Lib.alloc_old w3 (.stringIter S 0) _ hlt4
        exact h.trans I4.out
      case round =>
        obtain ⟨p2, m2, T2, us, hp2, hm2, rfl, HML2, HTK2, HDR, HUS, hbd2, hout2, hin2, hbw2⟩ := hrel
        have D5 := Lib.hid hbd2
        have O5 := Lib.hid hout2
        have I5 := Lib.hid hin2
        have W5 := Lib.hid hbw2
        have hsz5 : w.heap.size ≤ wr.heap.size := hbw2.size
        clear hbd2 hout2 hin2 hbw2 D4 W4 I4 HST HSF HUA HML
        have hpl : S.data.toList.length = S.size := rfl
        cases us with
        | nil =>
          have hpe : p2 = S.size := by
            have h := congrArg List.length HDR.out
            rw [List.length_drop, hpl, List.flatten_nil, List.length_nil] at h
            omega
          subst hpe
          have HTK3 : Hid (tokW s.data.toList = T2 ++ tokW (s.data.toList.drop (pos + k))) := Lib.hid (by rw [HTK2.out, List.append_nil])
          have hnx2 : ∀ ty, (Instr.next (.pointer (some ⟨w3.heap.size, 0, none⟩)) true ty).run Tryd.prog wr = _ := fun ty => Lib.run_next_end_at wr w3.heap.size S S.size ty I5.out (Nat.lt_irrefl _)
          clear hpl
          go_wp2_with fail
          go_roundw
          case rel => exact ⟨pos + k, m2, T2, by omega, hm2, rfl, HML2, HTK3, D5.out, O5.out, W5.out⟩
          case measure =>
            have h1 : wr.iterPos (w.heap.size + 1) = pos + k := by simp only [World.iterPos, O5.out]
            rw [h1, hme.out]
            omega
        | cons q qs =>
          obtain ⟨hqn, hq4, c, hc, hdec, henc⟩ := HUS.out q List.mem_cons_self
          have HUS2 := Lib.hid fun z (hz : z ∈ qs) => HUS.out z (List.mem_cons_of_mem _ hz)
          have hfl : S.data.toList.drop p2 = q ++ qs.flatten := HDR.out
          have hq1 := List.length_pos_iff.2 hqn
          have hln := congrArg List.length hfl
          rw [List.length_drop, hpl, List.length_append] at hln
          have hlt2 : p2 < S.size := by omega
          have hd := hdec qs.flatten
          rw [← hfl] at hd
          have HDR2 : Hid (S.data.toList.drop (p2 + q.length) = qs.flatten) := Lib.hid (by rw [← List.drop_drop, hfl, List.drop_left])
          have HTK3 : Hid (tokW s.data.toList = (T2 ++ [q]) ++ qs ++ tokW (s.data.toList.drop (pos + k))) := Lib.hid (by rw [HTK2.out]; simp)
          have HTF2 : Hid ((T2 ++ [q]).flatten = T2.flatten ++ q) := Lib.hid (by simp)
          have HMT : Hid (n - m2 = 0 → (tokW s.data.toList).take n = T2) := Lib.hid fun h => by
            have h2 : n = T2.length := by have := HML2.out; omega
            rw [HTK2.out, List.append_assoc, h2, List.take_left]
          have HFLN : Hid (T2.flatten.length ≤ 16384) := Lib.hid (by
            have h1 := flat_len T2 fun z hz => HTA.out z (by rw [HTK2.out, List.append_assoc]; exact List.mem_append_left _ hz)
            have h2 := HML2.out
            omega)
          have HENC := Lib.hid henc
          have hnx2 : ∀ ty, (Instr.next (.pointer (some ⟨w3.heap.size, 0, none⟩)) true ty).run Tryd.prog wr = .ok (.tuple #[.bool true, .int .i64 p2, .int .i32 (c : Int)]) (wr.iterAt w3.heap.size S (p2 + q.length)) := fun ty => by
            have h := Lib.run_next_any_at wr w3.heap.size S p2 ty I5.out hlt2 (P := Tryd.prog)
            rw [← decodeL_drop, hd] at h
            exact h
          have hbk : w.heap.size + 1 ≠ w3.heap.size := by omega
          have I6 : Hid ((wr.iterAt w3.heap.size S (p2 + q.length)).heap[w3.heap.size]? = some (.stringIter S (p2 + q.length))) := Lib.hid (Lib.iterAt_heap _ w3.heap.size S p2 _ I5.out)
          have O6 : Hid ((wr.iterAt w3.heap.size S (p2 + q.length)).heap[w.heap.size + 1]? = some (.stringIter s (pos + k))) := Lib.hid (by rw [Lib.iterAt_other _ w3.heap.size (w.heap.size + 1) S _ hbk]; exact O5.out)
          have D6 : Hid (Bd w.heap.size w.heap.size T2.flatten (wr.iterAt w3.heap.size S (p2 + q.length))) := Lib.hid (Lib.IsBuilderF.iterAt D5.out I5.out _)
          have W6 : Hid (Below w.heap.size w (wr.iterAt w3.heap.size S (p2 + q.length))) := Lib.hid (Lib.below_iterAt W5.out (k := w3.heap.size) (by omega) _ _)
          have hsz6 : w.heap.size ≤ (wr.iterAt w3.heap.size S (p2 + q.length)).heap.size := by rw [Lib.iterAt_size]; omega
          have hme2 : Hid (wr.iterPos w3.heap.size = p2) := Lib.hid (by simp only [World.iterPos, I5.out])
          have hpz : p2 + q.length ≤ S.size := by omega
          generalize wr.iterAt w3.heap.size S (p2 + q.length) = wj at hnx2 I6 O6 D6 W6 hsz6
          clear hfl hqn hdec henc hln hd hpl HUS HDR HTK2 D5 O5 I5 W5 hsz5
          by_cases hm0 : n - m2 = 0
          · have t0 : (((n - m2 : Nat) : Int) == 0) = true := beq_iff_eq.2 (by omega)
            have HE := Lib.hid (HMT.out hm0)
            clear hm0
            go_wp2_with fail
            refine (Tryd.Builder_String_any_k w.heap.size w.heap.size _ _ D6.out hsz6).mono ?_
            rintro e w6 ⟨rfl, _, b6, _⟩
            have W7 := Lib.hid (W6.out.trans b6)
            clear b6
            go_wp2_with fail
            go_ret
            rw [HE.out]
            exact ⟨rfl, W7.out⟩
          · have t0 : (((n - m2 : Nat) : Int) == 0) = false := beq_eq_false_iff_ne.2 (by omega)
            have hm1 : 1 ≤ n - m2 := by omega
            have HM : Hid (((n - m2 : Nat) : Int) - 1 = ((n - (m2 + 1) : Nat) : Int)) := Lib.hid (by omega)
            have hm3 : m2 + 1 ≤ n := by omega
            clear hm0
            go_wp2_with fail
            refine (writeAny_any w.heap.size w.heap.size _ q c _ hc HENC.out hq1 hq4 D6.out (by have := HFLN.out; omega) hsz6).mono ?_
            rintro e w6 ⟨rfl, d7, b7, k7⟩
            have D7 := Lib.hid d7
            have W7 := Lib.hid (W6.out.trans b7)
            have I7 := Lib.hid (k7.iter I6.out (by omega))
            have O7 := Lib.hid (k7.iter O6.out (by omega))
            clear d7 b7 k7 hnx2
            go_wp2_with fail
            go_roundw
            case rel => exact ⟨p2 + q.length, m2 + 1, T2 ++ [q], qs, hpz, hm3, by rw [← HM.out], Lib.hid (by have := HML2.out; rw [List.length_append, List.length_singleton]; omega), HTK3, HDR2, HUS2, by rw [HTF2.out]; exact D7.out, O7.out, I7.out, W7.out⟩
            case measure =>
              have h1 : w6.iterPos w3.heap.size = p2 + q.length := by simp only [World.iterPos, I7.out]
              rw [h1, hme2.out]
              omega
    · obtain rfl : pos = s.size := by omega
      have HE : Hid ((tokW s.data.toList).take n = T) := Lib.hid (by
        have h : s.data.toList.drop s.size = [] := List.drop_of_length_le (by rw [HZ.out]; exact Nat.le_refl _)
        rw [HTK.out, h, tokW_nil, List.append_nil, List.take_of_length_le (by have := HML.out; omega)])
      have hnx : ∀ ty, (Instr.next (.pointer (some ⟨w.heap.size + 1, 0, none⟩)) true ty).run Tryd.prog wr = _ := fun ty => Lib.run_next_end_at wr (w.heap.size + 1) s s.size ty HIT.out hlt
      have hsz := HBW.out.size
      go_wp2_with fail
      refine (Tryd.Builder_String_any_k w.heap.size w.heap.size _ _ HBD.out hsz).mono ?_
      rintro e w3 ⟨rfl, _, b3, _⟩
      have W3 := Lib.hid (HBW.out.trans b3)
      clear b3
      go_wp2_with fail
      go_ret
      rw [HE.out]
      exact ⟨rfl, W3.out⟩
end Go.Proofs.YtaoekpedjgnnjaaDoor.Wd
