/- The contracts of the document's digit, digits, value, bytes and quoted. -/
import Derived.Test.YtomhfmcmjcghoaaGreatDoorCsF
import Derived.Test.YtomhfmcmjcghoaaGreatDoorCsC
namespace Go.Proofs.YtomhfmcmjcghoaaGreatDoor.Cl
open Go.ChangeShapes Go.WideShapes Go.ChangeAt Go.RowKit Own Bld Nums

theorem digit_any (n : Nat) (w : World) (hn : n < 18446744073709551616) :
    Calls Tryz.prog 34 #[.int .u64 (n : Int)] w fun e w' => e = .returned (.int .u8 ((dg (n % 16)).toNat : Int)) ∧ w = w' := by
  have h16 : n % 16 < 16 := by omega
  have D1 := Lib.hid (show (⟨#[48, 49, 50, 51, 52, 53, 54, 55, 56, 57, 97, 98, 99, 100, 101, 102]⟩ : ByteArray)[n % 16]'(by show n % 16 < 16; omega) = dg (n % 16) from dgs_at ⟨n % 16, by omega⟩)
  go_enter Tryz.func34, Tryz.ntmps34
  go_wp2_with fail
  go_ret
  rw [← D1.out]
  exact ⟨rfl, rfl⟩

theorem own_new (w : World) (E : TypeId) (xs : List Value) (n : Nat) (hn : xs.length = n) (hm : n ≤ maxLen) : (w.alloc (.cells xs.toArray E)).ownsRow w.heap.size E 1 (.slice (some ⟨w.heap.size, 0, none⟩) n n) n xs :=
  ⟨by omega, .inr ⟨w.heap.size, n, xs.toArray, rfl, Nat.le_refl _, heap_alloc_new w _, Nat.le_refl _, hm, by simp; omega, by simp; exact List.take_of_length_le (by omega)⟩⟩
theorem conv_one (w : World) (c : UInt8) : (convert 54 9 (.slice (some ⟨w.heap.size, 0, none⟩) 1 1)).run Tryz.prog (w.alloc (.cells #[.int .u8 (c.toNat : Int)] 5)) = .ok (.string (str [c])) (w.alloc (.cells #[.int .u8 (c.toNat : Int)] 5)) :=
  conv_own (base := 0) (n := 1) (own_row w 5 (Lib.byteCells [c]) 1 rfl (by decide))
theorem hx_fuel : ∀ (f g n : Nat), n < 16 ^ (f + 1) → f ≤ g → hx (g + 1) n = hx (f + 1) n
  | f, g, n, hn, hfg => by
    by_cases h : n < 16
    · rw [hx_last _ _ h, hx_last _ _ h]
    · rcases f with _ | f
      · simp at hn; omega
      · obtain ⟨g', rfl⟩ : ∃ g', g = g' + 1 := ⟨g - 1, by omega⟩
        rw [hx_step _ _ h, hx_step _ _ h, hx_fuel f g' (n / 16) (div_lt _ _ hn) (by omega)]
/-- The digits ahead. -/
def pre (m : Nat) : List UInt8 := if m = 0 then [] else hx 16 m
theorem hx_pre (n : Nat) (hn : n < 18446744073709551616) : hx 16 n = pre (n / 16) ++ [dg (n % 16)] := by
  have hp : (18446744073709551616 : Nat) = 16 ^ 16 := by decide
  unfold pre
  by_cases h : n < 16
  · rw [hx_last _ _ h, if_pos (by omega), Nat.mod_eq_of_lt h]
    rfl
  · rw [if_neg (by omega), hx_step 15 n h, hx_fuel 14 15 (n / 16) (by rw [hp] at hn; exact div_lt n 15 hn) (by omega)]
theorem pre_step (m : Nat) (h0 : m ≠ 0) (hm : m < 18446744073709551616) : pre m = pre (m / 16) ++ [dg (m % 16)] := by
  rw [← hx_pre m hm]
  unfold pre
  rw [if_neg h0]

set_option maxHeartbeats 1000000 in
theorem refDigits_any (n : Nat) (w : World) (hn : n < 18446744073709551616) :
    Calls Tryz.prog 33 #[.int .u64 (n : Int)] w fun e w' => e = .returned (.string (str (hx 16 n))) ∧ Below w.heap.size w w' := by
  have hcv := conv_one
  have HX := Lib.hid (hx_pre n hn)
  have HL := Lib.hid (hx_le 16 n)
  have H16 : Hid (n / 16 < 18446744073709551616) := Lib.hid (by omega)
  go_enter Tryz.func33, Tryz.ntmps33
  go_wp2_with fail
  refine (digit_any n _ hn).mono ?_
  rintro e w1 ⟨rfl, rfl⟩
  generalize dg (n % 16) = c0 at HX ⊢
  go_wp2_with fail
  go_loopw [0, 3] (fun a s wr => ∃ (m : Nat) (l : List UInt8) (st : ByteArray), m < 18446744073709551616 ∧ a = .int .u64 m ∧ s = .string st ∧ StrIs st l ∧ hx 16 n = pre m ++ l ∧ Below w.heap.size w wr) (fun a _ _ => (intOf a).toNat)
  case atStart => exact ⟨n / 16, [c0], str [c0], H16.out, by simp, rfl, rfl, HX.out, (Below.refl _ _).alloc (Nat.le_refl _) _⟩
  case round =>
    obtain ⟨m, l, st, hm, rfl, rfl, hst, hxp, hbw⟩ := hrel
    have HST := Lib.hid hst
    have HXP := Lib.hid hxp
    have HB := Lib.hid hbw
    have hsz := hbw.size
    have hll : st.size ≤ 16 := by
      have h1 : st.size = l.length := by rw [show st = str l from hst]; rfl
      have h2 := HL.out
      rw [hxp, List.length_append] at h2
      omega
    clear hst hxp hbw HX
    by_cases h0 : m = 0
    · subst h0
      have HE : Hid (st = str (hx 16 n)) := Lib.hid (by
        have h1 : st = str l := HST.out
        have h2 : hx 16 n = l := by rw [HXP.out]; rfl
        rw [h1, h2])
      go_wp2_with fail
      go_ret
      exact ⟨ret_string HE.out, HB.out⟩
    · have hpos : 0 < m := by omega
      have HN : Hid (hx 16 n = pre (m / 16) ++ ([dg (m % 16)] ++ l)) := Lib.hid (by rw [HXP.out, pre_step m h0 hm]; simp)
      clear h0 HXP
      go_wp2_with fail
      refine (digit_any m _ hm).mono ?_
      rintro e w1 ⟨rfl, rfl⟩
      generalize dg (m % 16) = c at HN ⊢
      have hs1 : (str [c]).size = 1 := rfl
      go_wp2_with fail
      go_roundw
      case rel =>
        refine ⟨m / 16, [c] ++ l, _, by omega, by simp, rfl, ?_, HN.out, HB.out.alloc hsz _⟩
        unfold StrIs
        rw [← str_append, ← (show st = str l from HST.out)]
      case measure => simp [intOf]; omega

theorem value_any (c : UInt8) (w : World) :
    Calls Tryz.prog 45 #[.int .u8 (c.toNat : Int)] w fun e w' => e = .returned (.int .u64 (valV c : Int)) ∧ w = w' := by
  go_enter Tryz.func45, Tryz.ntmps45
  go_wp2_with fail
  go_loop [3] (fun a => ∃ n : Nat, n ≤ 16 ∧ a = .int .u64 n ∧ ∀ k, k < n → dg k ≠ c) (fun a => 16 - (intOf a).toNat)
  case atStart => exact ⟨0, by omega, rfl, fun k hk => by omega⟩
  case round =>
    obtain ⟨n, hn, rfl, hall⟩ := hrel
    have HA := Lib.hid hall
    clear hall
    by_cases hlt : n < 16
    · have hm : n % 16 = n := Nat.mod_eq_of_lt hlt
      have HM := Lib.hid hm
      clear hm
      go_wp2_with fail
      refine (digit_any n _ (by omega)).mono ?_
      rw [HM.out]
      rintro e w1 ⟨rfl, rfl⟩
      by_cases hd : dg n = c
      · have HV := Lib.hid (val_some c n hlt hd)
        rw [hd]
        clear hd
        go_wp2_with fail
        go_ret
        rw [HV.out]
        exact ⟨rfl, rfl⟩
      · have hb : (((dg n).toNat : Int) == (c.toNat : Int)) = false := by
          rw [beq_eq_false_iff_ne]
          intro h
          exact hd (UInt8.toNat_inj.1 (by omega))
        have HD := Lib.hid hd
        clear hd
        generalize (dg n).toNat = d at hb ⊢
        go_wp2_with fail
        go_round
        case rel => exact ⟨n + 1, by omega, by go_num, fun k hk => by
          by_cases h : k < n
          · exact HA.out k h
          · have : k = n := by omega
            rw [this]; exact HD.out⟩
        case measure => simp [intOf]; omega
    · obtain rfl : n = 16 := by omega
      have HV := Lib.hid (val_none c HA.out)
      go_wp2_with fail
      go_ret
      rw [HV.out]
      exact ⟨rfl, rfl⟩

theorem cells4w (n : Nat) : Lib.byteCells (be n 4) = [.int .u8 ((n : Int) / 256 / 256 / 256 % 256), .int .u8 ((n : Int) / 256 / 256 % 256), .int .u8 ((n : Int) / 256 % 256), .int .u8 ((n : Int) % 256)] := by
  rw [be4]
  simp [Lib.byteCells]
set_option maxHeartbeats 2000000 in
theorem bytes4w_any (n : Nat) (w : World) (_ : n < 18446744073709551616) :
    Calls Tryz.prog 44 #[.int .u64 (n : Int), .int .i64 4] w fun e w' => e = .returned (.string (str (be n 4))) ∧ Below w.heap.size w w' := by
  have hmk := made4
  have hcv : (convert 54 9 (.slice (some ⟨w.heap.size, 0, none⟩) 4 4)).run Tryz.prog (w.alloc (.cells #[.int .u8 ((n : Int) / 256 / 256 / 256 % 256), .int .u8 ((n : Int) / 256 / 256 % 256), .int .u8 ((n : Int) / 256 % 256), .int .u8 ((n : Int) % 256)] 5)) = .ok (.string (str (be n 4))) (w.alloc (.cells #[.int .u8 ((n : Int) / 256 / 256 / 256 % 256), .int .u8 ((n : Int) / 256 / 256 % 256), .int .u8 ((n : Int) / 256 % 256), .int .u8 ((n : Int) % 256)] 5)) :=
    conv_own (base := 0) (n := 4) (by
      have h : (#[.int .u8 ((n : Int) / 256 / 256 / 256 % 256), .int .u8 ((n : Int) / 256 / 256 % 256), .int .u8 ((n : Int) / 256 % 256), .int .u8 ((n : Int) % 256)] : Array Value) = (Lib.byteCells (be n 4)).toArray := by rw [cells4w n]
      rw [h]
      exact own_row w _ _ 4 (by rw [Lib.byteCells_length, be_len]) (by decide))
  go_enter Tryz.func44, Tryz.ntmps44
  go_wp2_with fail
  refine wp_loop_rounds 5 ?_
  iterate 4 (rw [rounds_succ]; go_wp2_with fail)
  rw [rounds_succ]
  go_wp2_with fail
  go_ret
  exact ⟨rfl, by go_grown⟩

theorem take_at (s : ByteArray) (k : Nat) (h : k < s.size) : s.data.toList.take (k + 1) = s.data.toList.take k ++ [s[k]] := take_snoc s k h
set_option maxRecDepth 100000 in
set_option maxHeartbeats 2000000 in
theorem refQuoted_any (s : ByteArray) (w : World) (hs : s.size ≤ 67108864) :
    Calls Tryz.prog 31 #[.string s] w fun e w' => e = .returned (.string (str (quoted s.data.toList))) ∧ Below w.heap.size w w' := by
  have hz : s.data.toList.length = s.size := rfl
  have HZ := Lib.hid hz
  clear hz
  have O0 := Lib.hid (own_new w 5 (Lib.byteCells [34]) 1 rfl (by decide))
  go_enter Tryz.func31, Tryz.ntmps31
  go_wp2_with fail
  go_loopw [3, 4] (fun v i wr => ∃ (k n : Nat) (acc : List UInt8), k ≤ s.size ∧ n ≤ 2 * k + 1 ∧ i = .int .i64 k ∧ acc = 34 :: (s.data.toList.take k).flatMap esc ∧ wr.ownsRow w.heap.size 5 1 v n (Lib.byteCells acc) ∧ Below w.heap.size w wr) (fun _ i _ => s.size - (intOf i).toNat)
  case atStart => exact ⟨0, 1, [34], by omega, by omega, rfl, rfl, O0.out, (Below.refl _ _).alloc (Nat.le_refl _) _⟩
  case round =>
    obtain ⟨k, n, acc, hk, hnk, rfl, hacc, hown, hbw⟩ := hrel
    have HA := Lib.hid hacc
    have HO := Lib.hid hown
    have HB := Lib.hid hbw
    have hsz := hbw.size
    clear hacc hown hbw O0
    by_cases hlt : k < s.size
    · have HT := Lib.hid (take_at s k hlt)
      by_cases hq : s[k] = 34 ∨ s[k] = 92
      · have HN : Hid (acc ++ [92] ++ [s[k]] = 34 :: (s.data.toList.take (k + 1)).flatMap esc) := Lib.hid (by
          have he : esc s[k] = [92, s[k]] := if_pos hq
          rw [HA.out, HT.out, List.flatMap_append]
          simp [he])
        have hcs : (((s[k].toNat : Int) == 34) = true ∧ ((s[k].toNat : Int) == 92) = false) ∨ (((s[k].toNat : Int) == 34) = false ∧ ((s[k].toNat : Int) == 92) = true) := by
          rcases hq with h | h
          · rw [h]; exact .inl ⟨rfl, rfl⟩
          · rw [h]; exact .inr ⟨rfl, rfl⟩
        clear hq HA HT
        rcases hcs with ⟨h34, h92⟩ | ⟨h34, h92⟩
        all_goals
          have tok1 : True := trivial
          go_wp2_with (first
            | (at_builtin; have tk := tok1; go_must (refine wpList_append_src rfl (.tmp 22) (.tmp 23) 54 rfl w.heap.size 5 (.int .u8 0) 1 Tryz.underlying54 info_u8 rfl _ n (Lib.byteCells acc) rfl (HO.out.alloc _) _ 1 1 [.int .u8 92] rfl (src_new _ _ _) (by intro u hu; simp at hu; subst hu; rfl) (by omega) (by omega) (by simp; omega) ?_); intro v1 w1 hown1 hg1; clear tok1 tk; have HO1 := Lib.hid (show w1.ownsRow w.heap.size 5 1 v1 (n + 1) (Lib.byteCells (acc ++ [92])) from by rw [← byteCells_snoc]; exact hown1); have HB1 := Lib.hid (below_grown HB.out hsz HO.out (Nat.le_refl _) hg1); have hsz1 := HB1.out.size; clear hown1 hg1; have tok2 : True := trivial)
            | (at_builtin; have tk := tok2; go_must (refine wpList_append_src rfl (.tmp 25) (.tmp 29) 54 rfl w.heap.size 5 (.int .u8 0) 1 Tryz.underlying54 info_u8 rfl _ (n + 1) (Lib.byteCells (acc ++ [92])) rfl (HO1.out.alloc _) _ 1 1 [.int .u8 (s[k].toNat : Int)] rfl (src_new _ _ _) (by intro u hu; simp at hu; subst hu; rfl) (by omega) (by omega) (by simp; omega) ?_); intro v2 w2 hown2 hg2; clear tok2 tk; rw [byteCells_snoc] at hown2; have HO2 := Lib.hid hown2; have HB2 := Lib.hid (below_grown HB1.out hsz1 HO1.out (Nat.le_refl _) hg2); clear hown2 hg2))
          go_wp2_with fail
          go_roundw
          case rel => exact ⟨k + 1, n + 1 + 1, _, by omega, by omega, by go_num, HN.out, HO2.out, HB2.out⟩
          case measure => simp [intOf]; omega
      · have HN : Hid (acc ++ [s[k]] = 34 :: (s.data.toList.take (k + 1)).flatMap esc) := Lib.hid (by
          have he : esc s[k] = [s[k]] := if_neg hq
          rw [HA.out, HT.out, List.flatMap_append]
          simp [he])
        have h34 : ((s[k].toNat : Int) == 34) = false := by
          rw [beq_eq_false_iff_ne]
          intro h
          exact hq (.inl (UInt8.toNat_inj.1 (by show s[k].toNat = 34; omega)))
        have h92 : ((s[k].toNat : Int) == 92) = false := by
          rw [beq_eq_false_iff_ne]
          intro h
          exact hq (.inr (UInt8.toNat_inj.1 (by show s[k].toNat = 92; omega)))
        clear hq HA HT
        go_wp2_with (at_builtin; go_must (refine wpList_append_src rfl (.tmp 25) (.tmp 29) 54 rfl w.heap.size 5 (.int .u8 0) 1 Tryz.underlying54 info_u8 rfl _ n (Lib.byteCells acc) rfl (HO.out.alloc _) _ 1 1 [.int .u8 (s[k].toNat : Int)] rfl (src_new _ _ _) (by intro u hu; simp at hu; subst hu; rfl) (by omega) (by omega) (by simp; omega) ?_); intro v2 w2 hown2 hg2)
        rw [byteCells_snoc] at hown2
        have HO2 := Lib.hid hown2
        have HB2 := Lib.hid (below_grown HB.out hsz HO.out (Nat.le_refl _) hg2)
        clear hown2 hg2
        go_wp2_with fail
        go_roundw
        case rel => exact ⟨k + 1, n + 1, _, by omega, by omega, by go_num, HN.out, HO2.out, HB2.out⟩
        case measure => simp [intOf]; omega
    · obtain rfl : k = s.size := by omega
      have HN : Hid (acc ++ [34] = quoted s.data.toList) := Lib.hid (by
        rw [HA.out, List.take_of_length_le (by rw [HZ.out]; omega)]
        simp [quoted])
      clear HA
      go_wp2_with (at_builtin; go_must (refine wpList_append_src rfl (.tmp 31) (.tmp 32) 54 rfl w.heap.size 5 (.int .u8 0) 1 Tryz.underlying54 info_u8 rfl _ n (Lib.byteCells acc) rfl (HO.out.alloc _) _ 1 1 [.int .u8 34] rfl (src_new _ _ _) (by intro u hu; simp at hu; subst hu; rfl) (by omega) (by omega) (by simp; omega) ?_); intro v1 w1 hown1 hg1; have HO1 := Lib.hid (show w1.ownsRow w.heap.size 5 1 v1 (n + 1) (Lib.byteCells (acc ++ [34])) from by rw [← byteCells_snoc]; exact hown1); have HB1 := Lib.hid (below_grown HB.out hsz HO.out (Nat.le_refl _) hg1); clear hown1 hg1; have hcv := conv_own HO1.out; rw [HN.out] at hcv)
      go_ret
      exact ⟨rfl, HB1.out⟩
end Go.Proofs.YtomhfmcmjcghoaaGreatDoor.Cl
