/- The contract of the document's guess at a text of cells, of bytes; at every text. -/
import Derived.Test.YtomhfmcmjcghoaaGreatDoorCsJ
namespace Go.Proofs.YtomhfmcmjcghoaaGreatDoor.Cl
open Go.ChangeShapes Go.WideShapes Go.ChangeAt Go.RowKit Own Bld Nums

theorem value_z (c : UInt8) (z : Int) (w : World) (hz : z = (c.toNat : Int)) :
    Calls Tryz.prog 45 #[.int .u8 z] w fun e w' => e = .returned (.int .u64 (valV c : Int)) ∧ w = w' := by
  subst hz
  exact value_any c w
theorem g32_sep (n : Nat) (c : UInt8) (l : List UInt8) (h : c = 32 ∨ c = 62) : g32 n (c :: l) = be n 4 ++ g32 0 l := by rw [g32, if_pos h]
theorem g32_x (n : Nat) (l : List UInt8) : g32 n (120 :: l) = g32 0 l := by rw [g32, if_neg (by decide), if_pos rfl]
theorem g32_else (n : Nat) (c : UInt8) (l : List UInt8) (h : ¬ (c = 32 ∨ c = 62)) (h2 : c ≠ 120) : g32 n (c :: l) = g32 ((16 * n + valV c) % 18446744073709551616) l := by rw [g32, if_neg h, if_neg h2]
theorem num_wrap (m v : Nat) : (16 * (m : Int) % 18446744073709551616 + (v : Int)) % 18446744073709551616 = (((16 * m + v) % 18446744073709551616 : Nat) : Int) := by omega
theorem eq_false_of {c : UInt8} {n : Int} {d : UInt8} (hd : (d.toNat : Int) = n) (h : c ≠ d) : ((c.toNat : Int) == n) = false := by
  rw [beq_eq_false_iff_ne]
  intro h2
  exact h (UInt8.toNat_inj.1 (by omega))
theorem neNil {s : ByteArray} (h0 : 0 < s.size) : s.toList ≠ [] := fun h => by
  have := congrArg List.length h
  rw [Lib.toList_data] at this
  have h2 : s.data.toList.length = 0 := this
  have hz : s.data.toList.length = s.size := rfl
  omega
theorem neDash {s : ByteArray} (h0 : 0 < s.size) (hq : s[0] ≠ 45) : s.toList ≠ [45] := fun h => by
  have h2 := head_at s h0
  rw [← Lib.toList_data, h] at h2
  injection h2 with h2
  exact hq h2.symm

set_option maxRecDepth 100000 in
set_option maxHeartbeats 8000000 in
theorem guessC_any (s : ByteArray) (w : World) (hs : s.size ≤ 67108864) (h0 : 0 < s.size) (hq : s[0] = 60) :
    Calls Tryz.prog 20 #[.string s] w fun e w' => e = .returned (.string (str (g32 0 (s.data.toList.drop 1)))) ∧ Below w.heap.size w w' := by
  obtain ⟨i0, hi, hz0, hz1, hz2⟩ := info_parts info_u8
  have hz : s.data.toList.length = s.size := rfl
  have HZ := Lib.hid hz
  have hn1 : (s.toList == []) = false := beq_eq_false_iff_ne.2 (neNil h0)
  have hn3 : s.toList.isEmpty = false := List.isEmpty_eq_false_iff.2 (neNil h0)
  have hn2 : (s.toList == [45]) = false := beq_eq_false_iff_ne.2 (neDash h0 (by rw [hq]; decide))
  have hb0 : ((s[0].toNat : Int) == 34) = false := by rw [hq]; rfl
  have hb1 : ((s[0].toNat : Int) == 60) = true := by rw [hq]; rfl
  clear hz hq
  go_enter Tryz.func20, Tryz.ntmps20
  go_wp2_with fail
  go_loopw [3, 5, 6] (fun v a i wr => ∃ (k n m : Nat) (acc : List UInt8), k ≤ s.size ∧ n ≤ 4 * k ∧ m < 18446744073709551616 ∧ a = .int .u64 m ∧ i = .int .i64 k ∧ g32 0 (s.data.toList.drop 1) = acc ++ g32 m (s.data.toList.drop k) ∧ wr.ownsRow w.heap.size 5 1 v n (Lib.byteCells acc) ∧ Below w.heap.size w wr) (fun _ _ i _ => s.size - (intOf i).toNat)
  case atStart => exact ⟨1, 0, 0, [], by omega, by omega, by omega, rfl, rfl, by simp, own_nil w _ _, Below.refl _ _⟩
  case round =>
    obtain ⟨k, n, m, acc, hk, hnk, hm, rfl, rfl, hrt, hown, hbw⟩ := hrel
    have HR := Lib.hid hrt
    have HO := Lib.hid hown
    have HB := Lib.hid hbw
    have hsz := hbw.size
    clear hrt hown hbw
    by_cases hlt : k < s.size
    · have HC2 : Hid (s.data.toList.drop k = s[k] :: s.data.toList.drop (k + 1)) := Lib.hid (at_list s k hlt)
      by_cases hsep : s[k] = 32 ∨ s[k] = 62
      · have HN : Hid (g32 0 (s.data.toList.drop 1) = (acc ++ be m 4) ++ g32 0 (s.data.toList.drop (k + 1))) := Lib.hid (by rw [HR.out, HC2.out, g32_sep _ _ _ hsep]; simp)
        have hcs : (((s[k].toNat : Int) == 32) = true ∧ ((s[k].toNat : Int) == 62) = false) ∨ (((s[k].toNat : Int) == 32) = false ∧ ((s[k].toNat : Int) == 62) = true) := by
          rcases hsep with h | h
          · rw [h]; exact .inl ⟨rfl, rfl⟩
          · rw [h]; exact .inr ⟨rfl, rfl⟩
        clear hsep HC2 HR
        rcases hcs with ⟨h1, h2⟩ | ⟨h1, h2⟩
        all_goals
          go_wp2_with fail
          refine (bytes4w_any m _ hm).mono ?_
          rintro e w2 ⟨rfl, b2⟩
          have B2 := Lib.hid (HB.out.trans (b2.mono hsz))
          have O2 := Lib.hid (own_below HO.out b2 (Nat.le_refl _))
          have hsz2 : w.heap.size ≤ w2.heap.size := B2.out.size
          have hs4 : (str (be m 4)).size = 4 := be_len m 4
          have HS4 := Lib.hid hs4
          have hs5 : (str (be m 4)).size ≤ 4 := by omega
          clear b2 hs4
          generalize hQ : str (be m 4) = q at HS4 hs5 ⊢
          have HQ := Lib.hid hQ
          clear hQ
          go_wp2_with (at_builtin; go_must (refine Lib.wpList_append_own_string _ rfl (.tmp 81) (.tmp 83) 54 9 rfl w.heap.size 5 i0 Tryz.underlying54 Tryz.underlying9 hi hz0 hz1 hz2 _ n _ rfl O2.out q rfl (by unfold maxLen; omega) (by omega) (by omega) ?_); intro v3 w3 ho3 hg3 _; have B3 := Lib.hid (grown_row B2.out O2.out hsz2 hg3); have O3 := Lib.hid ho3; clear ho3 hg3)
          have O4 : Hid (w3.ownsRow w.heap.size 5 1 v3 (n + 4) (Lib.byteCells (acc ++ be m 4))) := Lib.hid (by
            have h := O3.out
            rw [HS4.out, Lib.strCells_eq, ← HQ.out, str_list, ← Lib.byteCells_append] at h
            exact h)
          clear O3
          go_roundw
          case rel => exact ⟨k + 1, n + 4, 0, acc ++ be m 4, by omega, by omega, by omega, rfl, by go_num, HN.out, O4.out, B3.out⟩
          case measure => simp [intOf]; omega
      · have h32 : ((s[k].toNat : Int) == 32) = false := eq_false_of (d := 32) rfl (fun h => hsep (.inl h))
        have h62 : ((s[k].toNat : Int) == 62) = false := eq_false_of (d := 62) rfl (fun h => hsep (.inr h))
        by_cases hx : s[k] = 120
        · have h120 : ((s[k].toNat : Int) == 120) = true := by rw [hx]; rfl
          have HN : Hid (g32 0 (s.data.toList.drop 1) = acc ++ g32 0 (s.data.toList.drop (k + 1))) := Lib.hid (by rw [HR.out, HC2.out, hx, g32_x])
          clear hsep hx HC2 HR
          go_wp2_with fail
          go_roundw
          case rel => exact ⟨k + 1, n, 0, acc, by omega, by omega, by omega, rfl, by go_num, HN.out, HO.out, HB.out⟩
          case measure => simp [intOf]; omega
        · have h120 : ((s[k].toNat : Int) == 120) = false := eq_false_of (d := 120) rfl hx
          have HN : Hid (g32 0 (s.data.toList.drop 1) = acc ++ g32 ((16 * m + valV s[k]) % 18446744073709551616) (s.data.toList.drop (k + 1))) := Lib.hid (by rw [HR.out, HC2.out, g32_else _ _ _ hsep hx])
          clear hsep hx HC2 HR
          go_wp2_with fail
          refine (value_any s[k] _).mono ?_
          rintro e w2 ⟨rfl, rfl⟩
          have hv16 := (val_facts s[k]).1
          generalize valV s[k] = vv at HN hv16 ⊢
          have hml : (16 * m + vv) % 18446744073709551616 < 18446744073709551616 := Nat.mod_lt _ (by decide)
          have HW := Lib.hid (num_wrap m vv)
          go_wp2_with fail
          go_roundw
          case rel => exact ⟨k + 1, n, (16 * m + vv) % 18446744073709551616, acc, by omega, by omega, hml, by rw [← HW.out, IntKind.wrap_u64, IntKind.wrap_u64], by go_num, HN.out, HO.out, HB.out⟩
          case measure => simp [intOf]; omega
    · obtain rfl : k = s.size := by omega
      have HN : Hid (g32 0 (s.data.toList.drop 1) = acc) := Lib.hid (by
        have h := HR.out
        rw [List.drop_eq_nil_of_le (i := s.size) (by rw [HZ.out]; omega), g32, List.append_nil] at h
        exact h)
      have hcv := conv_own HO.out
      clear HR
      go_wp2_with fail
      go_ret
      rw [HN.out]
      exact ⟨rfl, HB.out⟩
end Go.Proofs.YtomhfmcmjcghoaaGreatDoor.Cl
