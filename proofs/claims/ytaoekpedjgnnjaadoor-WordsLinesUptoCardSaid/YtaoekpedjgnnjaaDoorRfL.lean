/- The document's own plain, digit and Line. -/
import Derived.Test.YtaoekpedjgnnjaaDoorRfQ
import Derived.Lib.AppendStr
namespace Go.Proofs.YtaoekpedjgnnjaaDoor.Wd
open Go.ChangeShapes Go.WideShapes Go.ChangeAt Go.RowKit Own Bld Go.Lib Nums

set_option maxRecDepth 100000 in
set_option maxHeartbeats 2000000 in
theorem refPlain_any (s : ByteArray) (w : World) (hs : s.size ≤ 268435456) :
    Calls Tryd.prog 22 #[.string s] w fun e w' => e = .returned (.bool (plainW s.data.toList)) ∧ w = w' := by
  have hz : s.data.toList.length = s.size := rfl
  have HZ := Lib.hid hz
  clear hz
  go_enter Tryd.func22, Tryd.ntmps22
  go_wp2_with fail
  go_loop [3] (fun i => ∃ k : Nat, k ≤ s.size ∧ i = .int .i64 k ∧ Hid ((s.data.toList.take k).all plainC = true)) (fun i => s.size - (RowKit.intOf i).toNat)
  case atStart => exact ⟨0, by omega, rfl, Lib.hid rfl⟩
  case round =>
    obtain ⟨k, hk, rfl, HA⟩ := hrel
    by_cases hlt : k < s.size
    · have hc256 : s[k].toNat < 256 := s[k].toNat_lt
      by_cases hp : plainC s[k] = true
      · have HN := Lib.hid (plain_step hlt HA.out hp)
        unfold plainC at hp
        simp only [Bool.and_eq_true, decide_eq_true_eq] at hp
        obtain ⟨⟨⟨p1, p2⟩, p3⟩, p4⟩ := hp
        have t1 : decide ((s[k].toNat : Int) < 33) = false := decide_eq_false (by omega)
        have t2 : decide ((126 : Int) < (s[k].toNat : Int)) = false := decide_eq_false (by omega)
        have t3 : ((s[k].toNat : Int) == 34) = false := beq_eq_false_iff_ne.2 (by omega)
        have t4 : ((s[k].toNat : Int) == 92) = false := beq_eq_false_iff_ne.2 (by omega)
        clear p1 p2 p3 p4 HA
        go_wp2_with fail
        go_round
        case rel => exact ⟨k + 1, by omega, by go_num, HN⟩
        case measure => simp [RowKit.intOf]; omega
      · have hp' : plainC s[k] = false := by simpa using hp
        have HV := Lib.hid (plain_no hlt hp')
        unfold plainC at hp'
        clear hp HA
        by_cases q1 : s[k].toNat < 33
        · have t1 : decide ((s[k].toNat : Int) < 33) = true := decide_eq_true (by omega)
          clear q1 hp'
          go_wp2_with fail
          go_ret
          rw [HV.out]
          exact ⟨rfl, rfl⟩
        · have t1 : decide ((s[k].toNat : Int) < 33) = false := decide_eq_false (by omega)
          by_cases q2 : 126 < s[k].toNat
          · have t2 : decide ((126 : Int) < (s[k].toNat : Int)) = true := decide_eq_true (by omega)
            clear q1 q2 hp'
            go_wp2_with fail
            go_ret
            rw [HV.out]
            exact ⟨rfl, rfl⟩
          · have t2 : decide ((126 : Int) < (s[k].toNat : Int)) = false := decide_eq_false (by omega)
            by_cases q3 : s[k].toNat = 34
            · have t3 : ((s[k].toNat : Int) == 34) = true := beq_iff_eq.2 (by omega)
              clear q1 q2 q3 hp'
              go_wp2_with fail
              go_ret
              rw [HV.out]
              exact ⟨rfl, rfl⟩
            · have t3 : ((s[k].toNat : Int) == 34) = false := beq_eq_false_iff_ne.2 (by omega)
              have q4 : s[k].toNat = 92 := Classical.byContradiction fun h4 => by
                rw [decide_eq_true (by omega), decide_eq_true (by omega), decide_eq_true q3, decide_eq_true h4] at hp'
                cases hp'
              have t4 : ((s[k].toNat : Int) == 92) = true := beq_iff_eq.2 (by omega)
              clear q1 q2 q3 q4 hp'
              go_wp2_with fail
              go_ret
              rw [HV.out]
              exact ⟨rfl, rfl⟩
    · obtain rfl : k = s.size := by omega
      by_cases h0 : s.size = 0
      · have hl : s.data.toList = [] := List.eq_nil_of_length_eq_zero (by rw [HZ.out]; exact h0)
        have HV : Hid (plainW s.data.toList = false) := Lib.hid (by rw [hl]; rfl)
        have hne : (s.toList != []) = false := by rw [Lib.toList_data, hl]; rfl
        have hne2 : s.toList.isEmpty = true := by rw [Lib.toList_data, hl]; rfl
        clear hl h0 HA
        go_wp2_with fail
        go_ret
        rw [HV.out]
        exact ⟨rfl, rfl⟩
      · have hl : s.data.toList ≠ [] := fun h => h0 (by rw [← HZ.out, h]; rfl)
        have HV : Hid (plainW s.data.toList = true) := Lib.hid (by
          have h := HA.out
          rw [List.take_of_length_le (by rw [HZ.out]; omega)] at h
          unfold plainW
          rw [h, List.isEmpty_eq_false_iff.2 hl]
          rfl)
        have hne : (s.toList != []) = true := by rw [Lib.toList_data, bne_iff_ne]; exact hl
        have hne2 : s.toList.isEmpty = false := by rw [Lib.toList_data, List.isEmpty_eq_false_iff]; exact hl
        clear hl h0 HA
        go_wp2_with fail
        go_ret
        rw [HV.out]
        exact ⟨rfl, rfl⟩

theorem blank_cells (acc : List UInt8) : Lib.byteCells acc ++ [.int .u8 32] = Lib.byteCells (acc ++ [32]) := by
  rw [Lib.byteCells_append]
  rfl
set_option maxRecDepth 100000 in
set_option maxHeartbeats 8000000 in
theorem refLine_big (A : Option Addr) (c n : Nat) (xs : List (List UInt8)) (w : World) (hn : n = xs.length) (hx : bulkL xs ≤ 2097152) (hA : Src w A n c (strs xs)) :
    Calls Tryd.prog 10 #[.slice A n c] w fun e w' => e = .returned (.string (str (lineL xs))) ∧ Below w.heap.size w w' := by
  obtain ⟨i0, hi, hz0, hz1, hz2⟩ := info_parts info_byte
  have GA := Lib.hid hA
  have HN := Lib.hid hn
  have hnb : n ≤ 2097152 := by have := bulk_len xs; omega
  have HL : Hid (∀ k, (lineL (xs.take k)).length ≤ 16777216) := Lib.hid fun k => by
    have h1 := line_len (xs.take k)
    have h2 := bulk_take xs k
    omega
  have HX := Lib.hid hx
  clear hA hn hx
  go_enter Tryd.func10, Tryd.ntmps10
  go_wp2_with fail
  go_loopw [3, 4] (fun v3 v4 wr => ∃ k m : Nat, k ≤ n ∧ v4 = .int .i64 k ∧ Hid (m = (lineL (xs.take k)).length) ∧ wr.ownsRow w.heap.size 5 1 v3 m (Lib.byteCells (lineL (xs.take k))) ∧ Below w.heap.size w wr) (fun _ v4 _ => n - (RowKit.intOf v4).toNat)
  case atStart => exact ⟨0, 0, Nat.zero_le _, rfl, Lib.hid rfl, ⟨rfl, .inl ⟨rfl, rfl⟩⟩, Below.refl _ _⟩
  case round =>
    obtain ⟨k, m, hk, rfl, HM, hown, hbw⟩ := hrel
    have HO := Lib.hid hown
    have HB := Lib.hid hbw
    have hsz := hbw.size
    clear hown hbw
    by_cases hlt : k < n
    · obtain ⟨b, o, rfl, _, hc1⟩ := src_get' (GA.out.below HB.out) (by omega)
      have hkx : k < xs.length := by rw [← HN.out]; exact hlt
      have e1 := hc1 k _ (strs_at xs k hkx)
      have HC : Hid (∀ W, Below w.heap.size w W → W.cell? ⟨b, o + k, none⟩ = some (.string (str (xs.getD k [])))) := Lib.hid fun W hW => by
        obtain ⟨b', o', hbo, _, hc⟩ := src_get' (GA.out.below hW) (by omega)
        injection hbo with h
        injection h with h1 h2
        subst h1 h2
        exact hc k _ (strs_at xs k hkx)
      have hxs : (str (xs.getD k [])).size ≤ 2097152 := by have := bulk_at xs k hkx; have := HX.out; rw [str_size]; omega
      have HLE := Lib.hid (HL.out k)
      have HIL := Lib.hid (in_len (xs.getD k []))
      have HP := Lib.hid fun W => refPlain_any (str (xs.getD k [])) W (by omega)
      have HQ := Lib.hid fun W => refQuote_any (str (xs.getD k [])) W (by omega)
      have HSTEP : Hid (∀ h0 : 0 < k, lineL (xs.take (k + 1)) = lineL (xs.take k) ++ [32] ++ inW (xs.getD k [])) := Lib.hid fun h0 => line_step xs k hkx h0
      have HZERO : Hid (k = 0 → lineL (xs.take (k + 1)) = inW (xs.getD k [])) := Lib.hid fun h0 => by subst h0; exact line_zero xs hkx
      have HNIL : Hid (k = 0 → lineL (xs.take k) = []) := Lib.hid fun h0 => by subst h0; rfl
      clear hc1 hkx
      rw [str_list] at HP HQ
      have hxs' : (xs.getD k []).length ≤ 2097152 := by rw [str_size] at hxs; exact hxs
      generalize xs.getD k [] = x at e1 HC HSTEP HZERO HIL HP HQ hxs hxs'
      have HXL : Hid ((str x).size = x.length) := Lib.hid rfl
      have HTX : Hid ((str x).data.toList = x) := Lib.hid (str_list x)
      have HIY : Hid (plainW x = true → inW x = x) := Lib.hid fun h => by unfold inW; rw [if_pos h]
      have HIN : Hid (plainW x = false → inW x = quoteW x) := Lib.hid fun h => by unfold inW; rw [if_neg (by rw [h]; exact Bool.false_ne_true)]
      generalize hX : str x = X at *
      generalize lineL (xs.take k) = acc at HO HM HSTEP HNIL HLE
      have hmb : m ≤ 16777216 := by have := HM.out; have := HLE.out; omega
      by_cases h0 : k = 0
      · have t0 : decide (0 < k) = false := decide_eq_false (by omega)
        have HZ : Hid (lineL (xs.take (k + 1)) = acc ++ inW x) := Lib.hid (by rw [HZERO.out h0, HNIL.out h0]; rfl)
        clear h0
        go_wp2_with fail
        refine (HP.out _).mono ?_
        rintro e w4 ⟨rfl, rfl⟩
        by_cases hp : plainW x = true
        · have HZ2 : Hid (lineL (xs.take (k + 1)) = acc ++ x) := Lib.hid (by rw [HZ.out, HIY.out hp])
          have HSC := Lib.hid (str_cells X (acc))
          rw [HTX.out] at HSC
          rw [hp]
          go_wp2_with (at_builtin; go_must (refine Lib.wpList_append_own_string _ rfl (.tmp 21) (.tmp 25) 39 9 rfl w.heap.size 5 i0 Tryd.underlying39 Tryd.underlying9 hi hz0 hz1 hz2 _ (m) _ rfl HO.out X rfl (by unfold maxLen; omega) (by omega) (by omega) ?_); intro v5 w5 ho5 hg5 _)
          have HB5 := Lib.hid (grown_row HB.out HO.out (Nat.le_refl _) hsz hg5)
          rw [HSC.out, ← HZ2.out] at ho5
          have HO5 := Lib.hid ho5
          have HM5 : Hid (m + X.size = (lineL (xs.take (k + 1))).length) := Lib.hid (by rw [HZ2.out]; simp only [List.length_append]; rw [← HM.out, HXL.out])
          clear ho5 hg5
          go_wp2_with fail
          go_roundw
          case rel => exact ⟨k + 1, m + X.size, by omega, by go_num, HM5, HO5.out, HB5.out⟩
          case measure => simp [RowKit.intOf]; omega
        · have hp' : plainW x = false := by simpa using hp
          have HZ2 : Hid (lineL (xs.take (k + 1)) = acc ++ quoteW x) := Lib.hid (by rw [HZ.out, HIN.out hp'])
          have hqz : (str (quoteW x)).size ≤ 16777218 := by rw [str_size, ← HIN.out hp']; have := HIL.out; omega
          have HQL : Hid ((str (quoteW x)).size = (quoteW x).length) := Lib.hid rfl
          have HSC := Lib.hid (str_cells (str (quoteW x)) (acc))
          rw [str_list] at HSC
          rw [hp']
          clear hp hp'
          go_wp2_with fail
          refine (HQ.out _).mono ?_
          generalize str (quoteW x) = Y at hqz HQL HSC ⊢
          rintro e w6 ⟨rfl, b6⟩
          have O6 := Lib.hid (own_below HO.out b6 (Nat.le_refl _))
          have HB6 := Lib.hid (HB.out.trans (b6.mono hsz))
          have hsz6 := HB6.out.size
          clear b6
          go_wp2_with (at_builtin; go_must (refine Lib.wpList_append_own_string _ rfl (.tmp 27) (.tmp 32) 39 9 rfl w.heap.size 5 i0 Tryd.underlying39 Tryd.underlying9 hi hz0 hz1 hz2 _ (m) _ rfl O6.out Y rfl (by unfold maxLen; omega) (by omega) (by omega) ?_); intro v5 w5 ho5 hg5 _)
          have HB5 := Lib.hid (grown_row HB6.out O6.out (Nat.le_refl _) hsz6 hg5)
          rw [HSC.out, ← HZ2.out] at ho5
          have HO5 := Lib.hid ho5
          have HM5 : Hid (m + Y.size = (lineL (xs.take (k + 1))).length) := Lib.hid (by rw [HZ2.out]; simp only [List.length_append]; rw [← HM.out, HQL.out])
          clear ho5 hg5
          go_wp2_with fail
          go_roundw
          case rel => exact ⟨k + 1, m + Y.size, by omega, by go_num, HM5, HO5.out, HB5.out⟩
          case measure => simp [RowKit.intOf]; omega
      · have t0 : decide (0 < k) = true := decide_eq_true (by omega)
        have HZ : Hid (lineL (xs.take (k + 1)) = (acc ++ [32]) ++ inW x) := Lib.hid (HSTEP.out (by omega))
        clear h0
        go_wp2_with (at_builtin; go_must (refine wpList_append_src rfl (.tmp 13) (.tmp 14) 39 rfl w.heap.size 5 (.int .u8 0) 1 Tryd.underlying39 info_byte rfl _ m _ rfl (HO.out.alloc _) _ 1 1 [.int .u8 32] rfl (src_new _ _ _) (by intro u hu; simp at hu; subst hu; rfl) (by omega) (by omega) (by simp; omega) ?_); intro v7 w7 ho7 hg7; have eb := blank_cells acc; rw [eb] at ho7; have HO7 := Lib.hid ho7; have HB7 := Lib.hid (grown_row (HB.out.alloc hsz _) (HO.out.alloc _) (Nat.le_refl _) (by simp; omega) hg7); have hsz7 := HB7.out.size; have e7 := HC.out _ HB7.out; clear ho7 hg7 eb)
        go_wp2_with fail
        refine (HP.out _).mono ?_
        rintro e w4 ⟨rfl, rfl⟩
        by_cases hp : plainW x = true
        · have HZ2 : Hid (lineL (xs.take (k + 1)) = acc ++ [32] ++ x) := Lib.hid (by rw [HZ.out, HIY.out hp])
          have HSC := Lib.hid (str_cells X (acc ++ [32]))
          rw [HTX.out] at HSC
          rw [hp]
          go_wp2_with (at_builtin; go_must (refine Lib.wpList_append_own_string _ rfl (.tmp 21) (.tmp 25) 39 9 rfl w.heap.size 5 i0 Tryd.underlying39 Tryd.underlying9 hi hz0 hz1 hz2 _ (m + 1) _ rfl HO7.out X rfl (by unfold maxLen; omega) (by omega) (by omega) ?_); intro v5 w5 ho5 hg5 _)
          have HB5 := Lib.hid (grown_row HB7.out HO7.out (Nat.le_refl _) hsz7 hg5)
          rw [HSC.out, ← HZ2.out] at ho5
          have HO5 := Lib.hid ho5
          have HM5 : Hid (m + 1 + X.size = (lineL (xs.take (k + 1))).length) := Lib.hid (by rw [HZ2.out]; simp only [List.length_append, List.length_singleton]; rw [← HM.out, HXL.out])
          clear ho5 hg5
          go_wp2_with fail
          go_roundw
          case rel => exact ⟨k + 1, m + 1 + X.size, by omega, by go_num, HM5, HO5.out, HB5.out⟩
          case measure => simp [RowKit.intOf]; omega
        · have hp' : plainW x = false := by simpa using hp
          have HZ2 : Hid (lineL (xs.take (k + 1)) = acc ++ [32] ++ quoteW x) := Lib.hid (by rw [HZ.out, HIN.out hp'])
          have hqz : (str (quoteW x)).size ≤ 16777218 := by rw [str_size, ← HIN.out hp']; have := HIL.out; omega
          have HQL : Hid ((str (quoteW x)).size = (quoteW x).length) := Lib.hid rfl
          have HSC := Lib.hid (str_cells (str (quoteW x)) (acc ++ [32]))
          rw [str_list] at HSC
          rw [hp']
          clear hp hp'
          go_wp2_with fail
          refine (HQ.out _).mono ?_
          generalize str (quoteW x) = Y at hqz HQL HSC ⊢
          rintro e w6 ⟨rfl, b6⟩
          have O6 := Lib.hid (own_below HO7.out b6 (Nat.le_refl _))
          have HB6 := Lib.hid (HB7.out.trans (b6.mono hsz7))
          have hsz6 := HB6.out.size
          clear b6
          go_wp2_with (at_builtin; go_must (refine Lib.wpList_append_own_string _ rfl (.tmp 27) (.tmp 32) 39 9 rfl w.heap.size 5 i0 Tryd.underlying39 Tryd.underlying9 hi hz0 hz1 hz2 _ (m + 1) _ rfl O6.out Y rfl (by unfold maxLen; omega) (by omega) (by omega) ?_); intro v5 w5 ho5 hg5 _)
          have HB5 := Lib.hid (grown_row HB6.out O6.out (Nat.le_refl _) hsz6 hg5)
          rw [HSC.out, ← HZ2.out] at ho5
          have HO5 := Lib.hid ho5
          have HM5 : Hid (m + 1 + Y.size = (lineL (xs.take (k + 1))).length) := Lib.hid (by rw [HZ2.out]; simp only [List.length_append, List.length_singleton]; rw [← HM.out, HQL.out])
          clear ho5 hg5
          go_wp2_with fail
          go_roundw
          case rel => exact ⟨k + 1, m + 1 + Y.size, by omega, by go_num, HM5, HO5.out, HB5.out⟩
          case measure => simp [RowKit.intOf]; omega
    · obtain rfl : n = k := by omega
      have HV : Hid (lineL (xs.take n) = lineL xs) := Lib.hid (by rw [HN.out, List.take_length])
      have hcv := conv_own HO.out
      rw [HV.out] at hcv
      go_wp2_with fail
      go_ret
      exact ⟨rfl, HB.out⟩
theorem refLine_any (A : Option Addr) (c n : Nat) (xs : List (List UInt8)) (w : World) (hn : n = xs.length) (hx : bulkL xs ≤ 1048576) (hA : Src w A n c (strs xs)) :
    Calls Tryd.prog 10 #[.slice A n c] w fun e w' => e = .returned (.string (str (lineL xs))) ∧ Below w.heap.size w w' := refLine_big A c n xs w hn (by omega) hA
end Go.Proofs.YtaoekpedjgnnjaaDoor.Wd
