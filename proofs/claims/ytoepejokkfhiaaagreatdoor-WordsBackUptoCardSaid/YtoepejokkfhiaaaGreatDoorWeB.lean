/- The walk of the law on words there and back. -/
import Derived.Test.YtoepejokkfhiaaaGreatDoorWeA
import Derived.Test.YtoepejokkfhiaaaGreatDoorWeT
import Derived.Test.YtoepejokkfhiaaaGreatDoorWdV
namespace Go.Proofs.YtoepejokkfhiaaaGreatDoor.Wd
open Go.ChangeShapes Go.WideShapes Go.ChangeAt Go.RowKit Own Bld Go.Lib Nums

theorem cod_len : ∀ {x b : List UInt8}, Cod x b → x.length ≤ b.length
  | [], _, _ => Nat.zero_le _
  | c :: x, b, h => by
    obtain ⟨q, d, rfl, hu, hc⟩ := h
    have h1 := (first_un hu d).2
    have h2 := List.length_pos_iff.2 h1
    have h3 := cod_len hc
    rw [List.length_cons, List.length_append]
    omega
theorem in_ge (x : List UInt8) : x.length ≤ (inW x).length := by
  unfold inW
  split
  · exact Nat.le_refl _
  · rw [quote_body]
    have := cod_len (cod_body x)
    rw [List.length_cons, List.length_append]
    omega
theorem tail_ge : ∀ xs : List (List UInt8), bulkL xs ≤ (tailL xs).length
  | [] => Nat.zero_le _
  | x :: xs => by
    have h1 := tail_ge xs
    have h2 := in_ge x
    show x.length + 1 + bulkL xs ≤ ((32 :: inW x) ++ tailL xs).length
    rw [List.length_append, List.length_cons]
    omega
theorem line_ge (xs : List (List UInt8)) : bulkL xs ≤ (lineL xs).length + 1 := by
  cases xs with
  | nil => exact Nat.zero_le _
  | cons x xs =>
    have h1 := tail_ge xs
    have h2 := in_ge x
    show x.length + 1 + bulkL xs ≤ (inW x ++ tailL xs).length + 1
    rw [List.length_append]
    omega
theorem strs_one (xs : List (List UInt8)) : ∀ u ∈ strs xs, u.oneCell' = true := by
  intro u hu
  obtain ⟨x, _, rfl⟩ := List.mem_map.1 hu
  rfl
theorem ne_str {a b : ByteArray} (h : a ≠ b) : (a.toList == b.toList) = false := by
  rw [eq_lists]
  exact decide_eq_false fun e => h (bytes_ext e)
/-- What Fields tells of a line, and what Line tells of that. -/
theorem fields_two (l : List UInt8) : (∃ m, fldR l = (m, 0) ∧ lineL m = l ∧ bulkL m ≤ l.length + 1) ∨ fldR l = ([], 4) := by
  unfold fldR
  cases h : fieldsW l with
  | none => exact .inr rfl
  | some m =>
    have e := line_fields h
    have g := line_ge m
    rw [e] at g
    exact .inl ⟨m, rfl, e, g⟩

set_option maxRecDepth 100000 in
set_option maxHeartbeats 8000000 in
theorem walkBack (A : Option Addr) (c n : Nat) (xs : List (List UInt8)) (line s t : ByteArray) (w : World) (hn : n = xs.length) (hx : bulkL xs ≤ 1048576) (hl : line.size ≤ 1048575) (hs : s.size ≤ 1048575) (ht : t.size ≤ 1048575) (hA : Src w A n c (strs xs)) (he : En w) (hv : Vars w) :
    Calls Tryz.prog 4 #[.slice A n c, .string line, .string s, .string t] w fun e w' => e = .returned (.bool true) ∧ Below w.heap.size w w' := by
  have HE := Lib.hid he
  have HV := Lib.hid hv
  have HN := Lib.hid hn
  have GA := Lib.hid hA
  have hnb : n ≤ 1048576 := by have := bulk_len xs; omega
  have HX := Lib.hid hx
  have HFL : Hid (fldR (lineL xs) = (xs, 0)) := Lib.hid (by unfold fldR; rw [fields_line])
  have HLL : Hid ((lineL xs).length ≤ 8388608) := Lib.hid (by have := line_len xs; omega)
  obtain ⟨P, hP⟩ : ∃ P, P = str (showW s.data.toList) := ⟨_, rfl⟩
  obtain ⟨Q, hQ⟩ : ∃ P, P = str (showW t.data.toList) := ⟨_, rfl⟩
  obtain ⟨PQ, hPQ⟩ : ∃ P, P = str (quoteW s.data.toList) := ⟨_, rfl⟩
  obtain ⟨QQ, hQQ⟩ : ∃ P, P = str (quoteW t.data.toList) := ⟨_, rfl⟩
  have SH : Hid (∀ W, U8 W → Calls Tryz.prog 17 #[.string s] W fun e w' => e = .returned (.string P) ∧ Below W.heap.size W w') := Lib.hid fun W h => by rw [hP]; exact show_any s W (by omega) h
  have TH : Hid (∀ W, U8 W → Calls Tryz.prog 17 #[.string t] W fun e w' => e = .returned (.string Q) ∧ Below W.heap.size W w') := Lib.hid fun W h => by rw [hQ]; exact show_any t W (by omega) h
  have SQ : Hid (∀ W, En W → Calls Tryz.prog 18 #[.string s] W fun e w' => e = .returned (.string PQ) ∧ Below W.heap.size W w') := Lib.hid fun W h => by rw [hPQ]; exact quote_any s W (by omega) (quote_room s (by omega)) h
  have TQ : Hid (∀ W, En W → Calls Tryz.prog 18 #[.string t] W fun e w' => e = .returned (.string QQ) ∧ Below W.heap.size W w') := Lib.hid fun W h => by rw [hQQ]; exact quote_any t W (by omega) (quote_room t (by omega)) h
  have KST : Hid ((s = t ∧ P = Q ∧ PQ = QQ) ∨ (s ≠ t ∧ P ≠ Q ∧ PQ ≠ QQ)) := Lib.hid (by
    rw [hP, hQ, hPQ, hQQ]
    by_cases h : s = t
    · subst h
      exact .inl ⟨rfl, rfl, rfl⟩
    · exact .inr ⟨h, fun e => h (bytes_ext (show_inj (congrArg (fun b : ByteArray => b.data.toList) e))), fun e => h (bytes_ext (quote_inj (congrArg (fun b : ByteArray => b.data.toList) e)))⟩)
  have KTO : Hid (∃ ps : List (List UInt8), P.data.toList = ps.flatten ∧ ∀ q ∈ ps, Tok q) := Lib.hid (by
    obtain ⟨ps, h1, h2, _⟩ := toks_show _ s.data.toList (Nat.le_refl _)
    rw [hP, str_list]
    exact ⟨ps, h1, h2⟩)
  have HSL : P.size ≤ 4194300 := by
    have h := showW_len _ s.data.toList (Nat.le_refl _)
    have e : s.data.toList.length = s.size := rfl
    rw [hP, str_size]
    omega
  clear hP hQ hPQ hQQ
  clear he hv hn hA hx
  go_enter Tryz.func4, Tryz.ntmps4
  go_wp2_with fail
  refine (works_any _ HE.out HV.out).mono ?_
  rintro e w1 ⟨rfl, b1⟩
  have B1 := Lib.hid b1
  have hz1 := b1.size
  clear b1
  go_wp2_with (at_builtin; go_must (refine wpList_append_src rfl (.tmp 17) (.tmp 18) 33 rfl w1.heap.size 9 (.string ByteArray.empty) 16 Tryz.underlying33 info_str rfl _ 0 [] rfl (own_empty w1 9) A n c (strs xs) rfl ((GA.out.below B1.out).below (grows w1 _)) (strs_one xs) (by omega) (by omega) (by simp) ?_); intro v1 w2 hown1 hg1)
  have B2 : Hid (Below w.heap.size w w2) := Lib.hid (B1.out.trans (((grows w1 _).grown hg1 (by simp) (by intro k hk; injection hk with hk; exact Nat.le_of_eq hk)).mono hz1))
  clear hg1
  simp only [Nat.zero_add, List.nil_append] at hown1
  obtain ⟨A1, c1, rfl, hs1⟩ := own_src hown1
  have S1 := Lib.hid hs1
  clear hown1 hs1 hz1 B1
  refine (line_any A1 c1 n xs _ HN.out HX.out S1.out (HE.out.below B2.out)).mono ?_
  rintro e w3 ⟨rfl, b3⟩
  have B3 := Lib.hid (B2.out.trans (b3.mono B2.out.size))
  clear b3 B2 S1
  go_wp2_with fail
  refine (fields_any (str (lineL xs)) _ (by rw [str_size]; have := HLL.out; omega) (HE.out.below B3.out)).mono ?_
  rw [str_list, HFL.out]
  rintro e w4 ⟨A4, n4, c4, hn4, rfl, ho4, b4⟩
  replace hn4 : n4 = n := by rw [hn4, HN.out]
  subst hn4
  obtain ⟨A4', c4', hv4, hs4⟩ := own_src ho4
  injection hv4 with q1 _ q3
  subst q1 q3
  have S4 : Hid (Src w4 A4 n4 c4 (strs xs)) := Lib.hid hs4
  have B4 := Lib.hid (B3.out.trans (b4.mono B3.out.size))
  clear b4 B3 ho4 hs4
  go_wp2_with fail
  refine (sameTexts_any A4 A c4 c n4 xs _ HN.out (by omega) S4.out (GA.out.below B4.out)).mono ?_
  rintro e w5 ⟨rfl, q, rfl⟩
  have B5 := Lib.hid (below_drewN' B4.out q)
  clear B4 S4
  go_wp2_with fail
  refine (fields_any line _ (by omega) (HE.out.below B5.out)).mono ?_
  rcases fields_two line.data.toList with ⟨m, hf, hlm, hbm⟩ | hf
  · rw [hf]
    have HLM := Lib.hid hlm
    have HBM : Hid (bulkL m ≤ 1048576) := Lib.hid (by have e : line.data.toList.length = line.size := rfl; omega)
    clear hf hlm hbm
    rintro e w6 ⟨A6, n6, c6, hn6, rfl, ho6, b6⟩
    have HN6 := Lib.hid hn6
    obtain ⟨A6', c6', hv6, hs6⟩ := own_src ho6
    injection hv6 with q1 _ q3
    subst q1 q3
    have S6 : Hid (Src w6 A6 n6 c6 (strs m)) := Lib.hid hs6
    have B6 := Lib.hid (B5.out.trans (b6.mono B5.out.size))
    clear b6 B5 ho6 hs6 hn6
    go_wp2_with fail
    refine (line_any A6 c6 n6 m _ HN6.out HBM.out S6.out (HE.out.below B6.out)).mono ?_
    rw [HLM.out, str_of]
    rintro e w7 ⟨rfl, b7⟩
    have B7 := Lib.hid (B6.out.trans (b7.mono B6.out.size))
    clear b7 B6 S6
    rcases KST.out with ⟨rfl, rfl, rfl⟩ | ⟨k1, k2, k3⟩
    case' inr => have n1 := ne_str k1; have n2 := ne_str k2; have n3 := ne_str k3; clear k1 k2 k3
    all_goals
      clear KST
      go_wp2_with fail
      refine (SH.out _ (HE.out.u8.below B7.out)).mono ?_
      rintro e w8 ⟨rfl, b8⟩
      have B8 := Lib.hid (B7.out.trans (b8.mono B7.out.size))
      clear b8 B7
      go_wp2_with fail
      refine (TH.out _ (HE.out.u8.below B8.out)).mono ?_
      rintro e w9 ⟨rfl, b9⟩
      have B9 := Lib.hid (B8.out.trans (b9.mono B8.out.size))
      clear b9 B8
      go_wp2_with fail
      refine (SQ.out _ (HE.out.below B9.out)).mono ?_
      rintro e w10 ⟨rfl, b10⟩
      have B10 := Lib.hid (B9.out.trans (b10.mono B9.out.size))
      clear b10 B9
      go_wp2_with fail
      refine (TQ.out _ (HE.out.below B10.out)).mono ?_
      rintro e w11 ⟨rfl, b11⟩
      have B11 := Lib.hid (B10.out.trans (b11.mono B10.out.size))
      clear b11 B10
      go_wp2_with fail
      refine (SH.out _ (HE.out.u8.below B11.out)).mono ?_
      try clear n1 n2 n3
      rintro e w12 ⟨rfl, b12⟩
      have B12 := Lib.hid (B11.out.trans (b12.mono B11.out.size))
      have hz12 : w.heap.size ≤ w12.heap.size := B12.out.size
      clear b12 B11
      go_wp2_with fail
      go_loopw [] (fun wr => ∃ (pos : Nat) (ps : List (List UInt8)), pos ≤ P.size ∧ P.data.toList.drop pos = ps.flatten ∧ (∀ q ∈ ps, Tok q) ∧ wr.heap[w12.heap.size]? = some (.stringIter P pos) ∧ Below w.heap.size w wr) (fun wr => P.size - wr.iterPos w12.heap.size)
      case atStart =>
        obtain ⟨ps, h1, h2⟩ := KTO.out
        exact ⟨0, ps, Nat.zero_le _, h1, h2, heap_alloc_new w12 _, B12.out.alloc hz12 _⟩
      case round =>
        obtain ⟨pos, ps, hp, hps, htk, hit, hbw⟩ := hrel
        have HIT := Lib.hid hit
        have HBW := Lib.hid hbw
        have hkr : w12.heap.size < wr.heap.size := lt_heap' hit
        have hpl : P.data.toList.length = P.size := rfl
        cases ps with
        | nil =>
          have hpe : pos = P.size := by
            have h := congrArg List.length hps
            rw [List.length_drop, hpl, List.flatten_nil, List.length_nil] at h
            omega
          subst hpe
          have hnx : ∀ ty, (Instr.next (.pointer (some ⟨w12.heap.size, 0, none⟩)) true ty).run Tryz.prog wr = _ := fun ty => Lib.run_next_end_at wr w12.heap.size P P.size ty HIT.out (Nat.lt_irrefl _)
          clear hps htk hit hbw hpl
          go_wp2_with fail
          go_ret
          exact ⟨rfl, HBW.out⟩
        | cons q qs =>
          obtain ⟨hqn, r, hdec, h32, h127, h239⟩ := htk q List.mem_cons_self
          have htk2 := Lib.hid fun z (hz : z ∈ qs) => htk z (List.mem_cons_of_mem _ hz)
          have hfl : P.data.toList.drop pos = q ++ qs.flatten := hps
          have hq1 := List.length_pos_iff.2 hqn
          have hln := congrArg List.length hfl
          rw [List.length_drop, hpl, List.length_append] at hln
          have hlt : pos < P.size := by omega
          have hd := hdec qs.flatten
          rw [← hfl] at hd
          have HPS : Hid (P.data.toList.drop (pos + q.length) = qs.flatten) := Lib.hid (by rw [← List.drop_drop, hfl, List.drop_left])
          have H239 : Hid (r = 65533 → P[pos] = 239) := Lib.hid fun h => by
            have h2 := h239 h
            have h3 := drop_at P pos hlt
            rw [hfl] at h3
            cases q with
            | nil => exact absurd rfl hqn
            | cons z zs =>
              injection h3 with h3 _
              rw [← h3]
              exact h2
          have hnx : ∀ ty, (Instr.next (.pointer (some ⟨w12.heap.size, 0, none⟩)) true ty).run Tryz.prog wr = .ok (.tuple #[.bool true, .int .i64 pos, .int .i32 (r : Int)]) (wr.iterAt w12.heap.size P (pos + q.length)) := fun ty => by
            have h := Lib.run_next_any_at wr w12.heap.size P pos ty HIT.out hlt (P := Tryz.prog)
            rw [← decodeL_drop, hd] at h
            exact h
          have I2 : Hid ((wr.iterAt w12.heap.size P (pos + q.length)).heap[w12.heap.size]? = some (.stringIter P (pos + q.length))) := Lib.hid (Lib.iterAt_heap wr w12.heap.size P pos _ HIT.out)
          have W2 : Hid (Below w.heap.size w (wr.iterAt w12.heap.size P (pos + q.length))) := Lib.hid (Lib.below_iterAt HBW.out (k := w12.heap.size) (by omega) P _)
          have hsz2 : w.heap.size ≤ (wr.iterAt w12.heap.size P (pos + q.length)).heap.size := W2.out.size
          have hme : Hid (wr.iterPos w12.heap.size = pos) := Lib.hid (by simp only [World.iterPos, HIT.out])
          have hpz : pos + q.length ≤ P.size := by omega
          generalize wr.iterAt w12.heap.size P (pos + q.length) = wi at hnx I2 W2 hsz2
          clear hps htk hit hbw hfl hqn hdec hd hln hpl h239
          have hr0 : decide ((r : Int) < 32) = false := decide_eq_false (by omega)
          by_cases hr1 : r < 127
          · have t1 : decide ((127 : Int) ≤ (r : Int)) = false := decide_eq_false (by omega)
            have t2 : ((r : Int) == 65533) = false := beq_eq_false_iff_ne.2 (by omega)
            clear hr1 h127
            go_wp2_with fail
            go_roundw
            case rel => exact ⟨pos + q.length, qs, hpz, HPS.out, htk2.out, I2.out, W2.out⟩
            case measure =>
              have h1 : wi.iterPos w12.heap.size = pos + q.length := by simp only [World.iterPos, I2.out]
              rw [h1, hme.out]
              omega
          · have t1 : decide ((127 : Int) ≤ (r : Int)) = true := decide_eq_true (by omega)
            have t1b : decide ((r : Int) ≤ 159) = false := decide_eq_false (by omega)
            by_cases hr2 : r = 65533
            · have t2 : ((r : Int) == 65533) = true := beq_iff_eq.2 (by omega)
              have hb := H239.out hr2
              clear hr1 h127 hr2
              go_wp2_with fail
              refine (SH.out _ (HE.out.u8.below W2.out)).mono ?_
              rintro e w3 ⟨rfl, b3⟩
              have W3 := Lib.hid (W2.out.trans (b3.mono hsz2))
              have I3 : Hid (w3.heap[w12.heap.size]? = some (.stringIter P (pos + q.length))) := Lib.hid ((b3.block _ (lt_heap' I2.out)).trans I2.out)
              clear b3
              go_wp2_with fail
              go_roundw
              case rel => exact ⟨pos + q.length, qs, hpz, HPS.out, htk2.out, I3.out, W3.out⟩
              case measure =>
                have h1 : w3.iterPos w12.heap.size = pos + q.length := by simp only [World.iterPos, I3.out]
                rw [h1, hme.out]
                omega
            · have t2 : ((r : Int) == 65533) = false := beq_eq_false_iff_ne.2 (by omega)
              clear hr1 h127 hr2
              go_wp2_with fail
              go_roundw
              case rel => exact ⟨pos + q.length, qs, hpz, HPS.out, htk2.out, I2.out, W2.out⟩
              case measure =>
                have h1 : wi.iterPos w12.heap.size = pos + q.length := by simp only [World.iterPos, I2.out]
                rw [h1, hme.out]
                omega
  · rw [hf]
    clear hf
    rintro e w7 ⟨A6, n6, c6, hn6, rfl, ho6, b6⟩
    replace hn6 : n6 = 0 := hn6
    subst hn6
    have B7 := Lib.hid (B5.out.trans (b6.mono B5.out.size))
    clear b6 B5 ho6
    rcases KST.out with ⟨rfl, rfl, rfl⟩ | ⟨k1, k2, k3⟩
    case' inr => have n1 := ne_str k1; have n2 := ne_str k2; have n3 := ne_str k3; clear k1 k2 k3
    all_goals
      clear KST
      go_wp2_with fail
      refine (SH.out _ (HE.out.u8.below B7.out)).mono ?_
      rintro e w8 ⟨rfl, b8⟩
      have B8 := Lib.hid (B7.out.trans (b8.mono B7.out.size))
      clear b8 B7
      go_wp2_with fail
      refine (TH.out _ (HE.out.u8.below B8.out)).mono ?_
      rintro e w9 ⟨rfl, b9⟩
      have B9 := Lib.hid (B8.out.trans (b9.mono B8.out.size))
      clear b9 B8
      go_wp2_with fail
      refine (SQ.out _ (HE.out.below B9.out)).mono ?_
      rintro e w10 ⟨rfl, b10⟩
      have B10 := Lib.hid (B9.out.trans (b10.mono B9.out.size))
      clear b10 B9
      go_wp2_with fail
      refine (TQ.out _ (HE.out.below B10.out)).mono ?_
      rintro e w11 ⟨rfl, b11⟩
      have B11 := Lib.hid (B10.out.trans (b11.mono B10.out.size))
      clear b11 B10
      go_wp2_with fail
      refine (SH.out _ (HE.out.u8.below B11.out)).mono ?_
      try clear n1 n2 n3
      rintro e w12 ⟨rfl, b12⟩
      have B12 := Lib.hid (B11.out.trans (b12.mono B11.out.size))
      have hz12 : w.heap.size ≤ w12.heap.size := B12.out.size
      clear b12 B11
      go_wp2_with fail
      go_loopw [] (fun wr => ∃ (pos : Nat) (ps : List (List UInt8)), pos ≤ P.size ∧ P.data.toList.drop pos = ps.flatten ∧ (∀ q ∈ ps, Tok q) ∧ wr.heap[w12.heap.size]? = some (.stringIter P pos) ∧ Below w.heap.size w wr) (fun wr => P.size - wr.iterPos w12.heap.size)
      case atStart =>
        obtain ⟨ps, h1, h2⟩ := KTO.out
        exact ⟨0, ps, Nat.zero_le _, h1, h2, heap_alloc_new w12 _, B12.out.alloc hz12 _⟩
      case round =>
        obtain ⟨pos, ps, hp, hps, htk, hit, hbw⟩ := hrel
        have HIT := Lib.hid hit
        have HBW := Lib.hid hbw
        have hkr : w12.heap.size < wr.heap.size := lt_heap' hit
        have hpl : P.data.toList.length = P.size := rfl
        cases ps with
        | nil =>
          have hpe : pos = P.size := by
            have h := congrArg List.length hps
            rw [List.length_drop, hpl, List.flatten_nil, List.length_nil] at h
            omega
          subst hpe
          have hnx : ∀ ty, (Instr.next (.pointer (some ⟨w12.heap.size, 0, none⟩)) true ty).run Tryz.prog wr = _ := fun ty => Lib.run_next_end_at wr w12.heap.size P P.size ty HIT.out (Nat.lt_irrefl _)
          clear hps htk hit hbw hpl
          go_wp2_with fail
          go_ret
          exact ⟨rfl, HBW.out⟩
        | cons q qs =>
          obtain ⟨hqn, r, hdec, h32, h127, h239⟩ := htk q List.mem_cons_self
          have htk2 := Lib.hid fun z (hz : z ∈ qs) => htk z (List.mem_cons_of_mem _ hz)
          have hfl : P.data.toList.drop pos = q ++ qs.flatten := hps
          have hq1 := List.length_pos_iff.2 hqn
          have hln := congrArg List.length hfl
          rw [List.length_drop, hpl, List.length_append] at hln
          have hlt : pos < P.size := by omega
          have hd := hdec qs.flatten
          rw [← hfl] at hd
          have HPS : Hid (P.data.toList.drop (pos + q.length) = qs.flatten) := Lib.hid (by rw [← List.drop_drop, hfl, List.drop_left])
          have H239 : Hid (r = 65533 → P[pos] = 239) := Lib.hid fun h => by
            have h2 := h239 h
            have h3 := drop_at P pos hlt
            rw [hfl] at h3
            cases q with
            | nil => exact absurd rfl hqn
            | cons z zs =>
              injection h3 with h3 _
              rw [← h3]
              exact h2
          have hnx : ∀ ty, (Instr.next (.pointer (some ⟨w12.heap.size, 0, none⟩)) true ty).run Tryz.prog wr = .ok (.tuple #[.bool true, .int .i64 pos, .int .i32 (r : Int)]) (wr.iterAt w12.heap.size P (pos + q.length)) := fun ty => by
            have h := Lib.run_next_any_at wr w12.heap.size P pos ty HIT.out hlt (P := Tryz.prog)
            rw [← decodeL_drop, hd] at h
            exact h
          have I2 : Hid ((wr.iterAt w12.heap.size P (pos + q.length)).heap[w12.heap.size]? = some (.stringIter P (pos + q.length))) := Lib.hid (Lib.iterAt_heap wr w12.heap.size P pos _ HIT.out)
          have W2 : Hid (Below w.heap.size w (wr.iterAt w12.heap.size P (pos + q.length))) := Lib.hid (Lib.below_iterAt HBW.out (k := w12.heap.size) (by omega) P _)
          have hsz2 : w.heap.size ≤ (wr.iterAt w12.heap.size P (pos + q.length)).heap.size := W2.out.size
          have hme : Hid (wr.iterPos w12.heap.size = pos) := Lib.hid (by simp only [World.iterPos, HIT.out])
          have hpz : pos + q.length ≤ P.size := by omega
          generalize wr.iterAt w12.heap.size P (pos + q.length) = wi at hnx I2 W2 hsz2
          clear hps htk hit hbw hfl hqn hdec hd hln hpl h239
          have hr0 : decide ((r : Int) < 32) = false := decide_eq_false (by omega)
          by_cases hr1 : r < 127
          · have t1 : decide ((127 : Int) ≤ (r : Int)) = false := decide_eq_false (by omega)
            have t2 : ((r : Int) == 65533) = false := beq_eq_false_iff_ne.2 (by omega)
            clear hr1 h127
            go_wp2_with fail
            go_roundw
            case rel => exact ⟨pos + q.length, qs, hpz, HPS.out, htk2.out, I2.out, W2.out⟩
            case measure =>
              have h1 : wi.iterPos w12.heap.size = pos + q.length := by simp only [World.iterPos, I2.out]
              rw [h1, hme.out]
              omega
          · have t1 : decide ((127 : Int) ≤ (r : Int)) = true := decide_eq_true (by omega)
            have t1b : decide ((r : Int) ≤ 159) = false := decide_eq_false (by omega)
            by_cases hr2 : r = 65533
            · have t2 : ((r : Int) == 65533) = true := beq_iff_eq.2 (by omega)
              have hb := H239.out hr2
              clear hr1 h127 hr2
              go_wp2_with fail
              refine (SH.out _ (HE.out.u8.below W2.out)).mono ?_
              rintro e w3 ⟨rfl, b3⟩
              have W3 := Lib.hid (W2.out.trans (b3.mono hsz2))
              have I3 : Hid (w3.heap[w12.heap.size]? = some (.stringIter P (pos + q.length))) := Lib.hid ((b3.block _ (lt_heap' I2.out)).trans I2.out)
              clear b3
              go_wp2_with fail
              go_roundw
              case rel => exact ⟨pos + q.length, qs, hpz, HPS.out, htk2.out, I3.out, W3.out⟩
              case measure =>
                have h1 : w3.iterPos w12.heap.size = pos + q.length := by simp only [World.iterPos, I3.out]
                rw [h1, hme.out]
                omega
            · have t2 : ((r : Int) == 65533) = false := beq_eq_false_iff_ne.2 (by omega)
              clear hr1 h127 hr2
              go_wp2_with fail
              go_roundw
              case rel => exact ⟨pos + q.length, qs, hpz, HPS.out, htk2.out, I2.out, W2.out⟩
              case measure =>
                have h1 : wi.iterPos w12.heap.size = pos + q.length := by simp only [World.iterPos, I2.out]
                rw [h1, hme.out]
                omega
end Go.Proofs.YtoepejokkfhiaaaGreatDoor.Wd
