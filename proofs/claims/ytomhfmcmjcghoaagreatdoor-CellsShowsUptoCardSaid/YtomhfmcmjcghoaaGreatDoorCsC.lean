/- The contracts of appendByte, readTexts, readNumbers, read and Parse, at every text. -/
import Derived.Test.YtomhfmcmjcghoaaGreatDoorCsB
import Derived.Test.YtomhfmcmjcghoaaGreatDoorPv
namespace Go.Proofs.YtomhfmcmjcghoaaGreatDoor.Cl
open Go.ChangeShapes Go.WideShapes Go.ChangeAt Go.RowKit Own Bld Nums

theorem byteCells_snoc (l : List UInt8) (c : UInt8) : Lib.byteCells l ++ [.int .u8 (c.toNat : Int)] = Lib.byteCells (l ++ [c]) := by simp [Lib.byteCells]
theorem src_byte (w : World) (n : Nat) : Src (w.alloc (.cells #[.int .u8 ((n : Int) % 256)] 5)) (some ⟨w.heap.size, 0, none⟩) 1 1 [.int .u8 ((UInt8.ofNat n).toNat : Int)] := by
  have e : ((UInt8.ofNat n).toNat : Int) = (n : Int) % 256 := by simp
  rw [e]
  exact src_new _ _ _
set_option maxHeartbeats 1000000 in
theorem appendByte_any (base : Nat) (v : Value) (m n : Nat) (bs : List UInt8) (w : World) (_ : n < 4294967296) (hm : m ≤ 1073741824) (hb : base ≤ w.heap.size) (ho : w.ownsRow base 5 1 v m (Lib.byteCells bs)) :
    Calls Tryz.prog 50 #[v, .int .u32 (n : Int)] w fun e w' => ∃ v', e = .returned v' ∧ w'.ownsRow base 5 1 v' (m + 1) (Lib.byteCells (bs ++ be n 1)) ∧ w.grownBy w' v.ownBlock := by
  have HO := Lib.hid ho
  clear ho
  go_enter Tryz.func50, Tryz.ntmps50
  go_wp2_with (at_builtin; go_must (refine wpList_append_src rfl (.tmp 5) (.tmp 8) 54 rfl base 5 (.int .u8 0) 1 Tryz.underlying54 info_u8 rfl _ m (Lib.byteCells bs) rfl (HO.out.alloc _) _ 1 1 _ rfl (src_byte _ n) (by intro u hu; simp at hu; subst hu; rfl) (by omega) (by omega) (by simp; omega) ?_); intro v1 w1 hown1 hg1)
  rw [byteCells_snoc] at hown1
  have HO1 := Lib.hid hown1
  have HG1 := Lib.hid hg1
  clear hown1 hg1
  go_wp2_with fail
  go_ret
  exact ⟨v1, rfl, HO1.out, (World.grownBy_alloc w _ _).trans HG1.out⟩

theorem rt_end (l : List UInt8) : rt true (34 :: l) = 0 :: rt false l := by
  cases l with
  | nil => simp [rt]
  | cons d l => simp [rt]
theorem rt_esc (d : UInt8) (l : List UInt8) : rt true (92 :: d :: l) = d :: rt true l := by simp [rt]
theorem rt_else (c : UInt8) (l : List UInt8) (h34 : c ≠ 34) (h92 : c ≠ 92 ∨ l = []) : rt true (c :: l) = c :: rt true l := by
  cases l with
  | nil => simp [rt, h34]
  | cons d l =>
    have h : c ≠ 92 := by
      rcases h92 with h | h
      · exact h
      · cases h
    simp [rt, h34, h]
theorem rt_out (c : UInt8) (l : List UInt8) : rt false (c :: l) = rt (c == 34) l := by simp [rt]
theorem rt_nil (b : Bool) : rt b [] = [] := by cases b <;> simp [rt]
theorem rt_len : ∀ (n : Nat) (b : Bool) (l : List UInt8), l.length ≤ n → (rt b l).length ≤ l.length
  | 0, b, l, h => by
    rw [List.eq_nil_of_length_eq_zero (by omega : l.length = 0), rt_nil]
    simp
  | n + 1, b, [], _ => by rw [rt_nil]; simp
  | n + 1, false, c :: l, h => by
    rw [rt_out]
    have := rt_len n (c == 34) l (by simp at h; omega)
    simp; omega
  | n + 1, true, c :: l, h => by
    by_cases h34 : c = 34
    · rw [h34, rt_end]
      have := rt_len n false l (by simp at h; omega)
      simp; omega
    · by_cases h92 : c = 92 ∧ l ≠ []
      · obtain ⟨d, r, rfl⟩ : ∃ d r, l = d :: r := by
          cases l with
          | nil => exact absurd rfl h92.2
          | cons d r => exact ⟨d, r, rfl⟩
        rw [h92.1, rt_esc]
        have := rt_len n true r (by simp at h; omega)
        simp; omega
      · rw [rt_else c l h34 (by
          by_cases h : c = 92
          · exact .inr (Classical.byContradiction fun h2 => h92 ⟨h, h2⟩)
          · exact .inl h)]
        have := rt_len n true l (by simp at h; omega)
        simp; omega
theorem ret_true {a b : ByteArray} (h : a = b) (c : Bool) : Ending.returned (.tuple #[.string a, .bool c]) = .returned (.tuple #[.string b, .bool c]) := by rw [h]
theorem at_list (s : ByteArray) (k : Nat) (h : k < s.size) : s.data.toList.drop k = s[k] :: s.data.toList.drop (k + 1) := List.drop_eq_getElem_cons (by have : s.data.toList.length = s.size := rfl; omega)

set_option maxHeartbeats 4000000 in
theorem readTexts_any (s : ByteArray) (w : World) (hs : s.size ≤ 67108864) :
    Calls Tryz.prog 47 #[.string s] w fun e w' => e = .returned (.string (str (rt false s.data.toList))) ∧ Below w.heap.size w w' := by
  have hz : s.data.toList.length = s.size := rfl
  have HZ := Lib.hid hz
  clear hz
  go_enter Tryz.func47, Tryz.ntmps47
  go_wp2_with fail
  go_loopw [3, 4, 5] (fun v ins i wr => ∃ (k n : Nat) (b : Bool) (acc : List UInt8), k ≤ s.size ∧ n ≤ k ∧ i = .int .i64 k ∧ ins = .bool b ∧ rt false s.data.toList = acc ++ rt b (s.data.toList.drop k) ∧ wr.ownsRow w.heap.size 5 1 v n (Lib.byteCells acc) ∧ Below w.heap.size w wr) (fun _ _ i _ => s.size - (intOf i).toNat)
  case atStart => exact ⟨0, 0, false, [], by omega, by omega, rfl, rfl, by simp, own_nil w _ _, Below.refl _ _⟩
  case round =>
    obtain ⟨k, n, b, acc, hk, hnk, rfl, rfl, hrt, hown, hbw⟩ := hrel
    have HR := Lib.hid hrt
    have HO := Lib.hid hown
    have HB := Lib.hid hbw
    have hsz := hbw.size
    clear hrt hown hbw
    by_cases hlt : k < s.size
    · have HD := Lib.hid (at_list s k hlt)
      have HC2 : Hid (s.data.toList.drop k = s[k] :: s.data.toList.drop (k + 1)) := HD
      clear HD
      have HK : Hid (∀ h : k + 1 < s.size, s.data.toList.drop (k + 1) = s[k + 1] :: s.data.toList.drop (k + 2)) := Lib.hid fun h => at_list s (k + 1) h
      have HE : Hid (k + 1 = s.size → s.data.toList.drop (k + 1) = []) := Lib.hid fun h => List.drop_eq_nil_of_le (by rw [HZ.out]; omega)
      cases b with
      | false =>
        by_cases h34 : s[k] = 34
        · have hb : ((s[k].toNat : Int) == 34) = true := by rw [h34]; rfl
          have HN : Hid (rt false s.data.toList = acc ++ rt true (s.data.toList.drop (k + 1))) := Lib.hid (by rw [HR.out, HC2.out, rt_out, h34]; rfl)
          clear h34 HC2 HR
          go_wp2_with fail
          go_roundw
          case rel => exact ⟨k + 1, n, true, acc, by omega, by omega, by go_num, rfl, HN.out, HO.out, HB.out⟩
          case measure => simp [intOf]; omega
        · have hb : ((s[k].toNat : Int) == 34) = false := by
            rw [beq_eq_false_iff_ne]
            intro h
            exact h34 (UInt8.toNat_inj.1 (by show s[k].toNat = 34; omega))
          have HN : Hid (rt false s.data.toList = acc ++ rt false (s.data.toList.drop (k + 1))) := Lib.hid (by
            rw [HR.out, HC2.out, rt_out]
            have : (s[k] == 34) = false := by simpa using h34
            rw [this])
          clear h34 HC2 HR
          go_wp2_with fail
          go_roundw
          case rel => exact ⟨k + 1, n, false, acc, by omega, by omega, by go_num, rfl, HN.out, HO.out, HB.out⟩
          case measure => simp [intOf]; omega
      | true =>
        by_cases h34 : s[k] = 34
        · have hb : ((s[k].toNat : Int) == 34) = true := by rw [h34]; rfl
          have HN : Hid (rt false s.data.toList = (acc ++ [0]) ++ rt false (s.data.toList.drop (k + 1))) := Lib.hid (by rw [HR.out, HC2.out, h34, rt_end]; simp)
          clear h34 HC2 HR
          go_wp2_with (at_builtin; go_must (refine wpList_append_src rfl (.tmp 28) (.tmp 29) 54 rfl w.heap.size 5 (.int .u8 0) 1 Tryz.underlying54 info_u8 rfl _ n (Lib.byteCells acc) rfl (HO.out.alloc _) _ 1 1 [.int .u8 0] rfl (src_new _ _ _) (by intro u hu; simp at hu; subst hu; rfl) (by omega) (by omega) (by simp; omega) ?_); intro v1 w1 hown1 hg1)
          have HO1 := Lib.hid (show w1.ownsRow w.heap.size 5 1 v1 (n + 1) (Lib.byteCells (acc ++ [0])) from by rw [← byteCells_snoc]; exact hown1)
          have HB1 := Lib.hid (below_grown HB.out hsz HO.out (Nat.le_refl _) hg1)
          clear hown1 hg1
          go_wp2_with fail
          go_roundw
          case rel => exact ⟨k + 1, n + 1, false, acc ++ [0], by omega, by omega, by go_num, rfl, HN.out, HO1.out, HB1.out⟩
          case measure => simp [intOf]; omega
        · have hb : ((s[k].toNat : Int) == 34) = false := by
            rw [beq_eq_false_iff_ne]
            intro h
            exact h34 (UInt8.toNat_inj.1 (by show s[k].toNat = 34; omega))
          by_cases h92 : s[k] = 92
          · have hb2 : ((s[k].toNat : Int) == 92) = true := by rw [h92]; rfl
            by_cases hl2 : k + 1 < s.size
            · have HN : Hid (rt false s.data.toList = (acc ++ [s[k + 1]]) ++ rt true (s.data.toList.drop (k + 2))) := Lib.hid (by rw [HR.out, HC2.out, h92, HK.out hl2, rt_esc]; simp)
              have hdl : decide ((k : Int) + 1 < (s.size : Int)) = true := by simp; omega
              clear h34 h92 HC2 HR
              go_wp2_with (at_builtin; go_must (refine wpList_append_src rfl (.tmp 43) (.tmp 47) 54 rfl w.heap.size 5 (.int .u8 0) 1 Tryz.underlying54 info_u8 rfl _ n (Lib.byteCells acc) rfl (HO.out.alloc _) _ 1 1 [.int .u8 (s[k + 1].toNat : Int)] rfl (src_new _ _ _) (by intro u hu; simp at hu; subst hu; rfl) (by omega) (by omega) (by simp; omega) ?_); intro v1 w1 hown1 hg1)
              rw [byteCells_snoc] at hown1
              have HO1 := Lib.hid hown1
              have HB1 := Lib.hid (below_grown HB.out hsz HO.out (Nat.le_refl _) hg1)
              clear hown1 hg1
              go_wp2_with fail
              go_roundw
              case rel => exact ⟨k + 2, n + 1, true, acc ++ [s[k + 1]], by omega, by omega, by go_num, rfl, HN.out, HO1.out, HB1.out⟩
              case measure => simp [intOf]; omega
            · have HN : Hid (rt false s.data.toList = (acc ++ [s[k]]) ++ rt true (s.data.toList.drop (k + 1))) := Lib.hid (by
                have := HE.out (by omega)
                rw [HR.out, HC2.out, rt_else _ _ h34 (.inr this)]; simp)
              have hdl : decide ((k : Int) + 1 < (s.size : Int)) = false := by simp; omega
              clear h34 h92 HC2 HR
              go_wp2_with (at_builtin; go_must (refine wpList_append_src rfl (.tmp 16) (.tmp 18) 54 rfl w.heap.size 5 (.int .u8 0) 1 Tryz.underlying54 info_u8 rfl _ n (Lib.byteCells acc) rfl (HO.out.alloc _) _ 1 1 [.int .u8 (s[k].toNat : Int)] rfl (src_new _ _ _) (by intro u hu; simp at hu; subst hu; rfl) (by omega) (by omega) (by simp; omega) ?_); intro v1 w1 hown1 hg1)
              rw [byteCells_snoc] at hown1
              have HO1 := Lib.hid hown1
              have HB1 := Lib.hid (below_grown HB.out hsz HO.out (Nat.le_refl _) hg1)
              clear hown1 hg1
              go_wp2_with fail
              go_roundw
              case rel => exact ⟨k + 1, n + 1, true, acc ++ [s[k]], by omega, by omega, by go_num, rfl, HN.out, HO1.out, HB1.out⟩
              case measure => simp [intOf]; omega
          · have hb2 : ((s[k].toNat : Int) == 92) = false := by
              rw [beq_eq_false_iff_ne]
              intro h
              exact h92 (UInt8.toNat_inj.1 (by show s[k].toNat = 92; omega))
            have HN : Hid (rt false s.data.toList = (acc ++ [s[k]]) ++ rt true (s.data.toList.drop (k + 1))) := Lib.hid (by rw [HR.out, HC2.out, rt_else _ _ h34 (.inl h92)]; simp)
            clear h34 h92 HC2 HR
            go_wp2_with (at_builtin; go_must (refine wpList_append_src rfl (.tmp 16) (.tmp 18) 54 rfl w.heap.size 5 (.int .u8 0) 1 Tryz.underlying54 info_u8 rfl _ n (Lib.byteCells acc) rfl (HO.out.alloc _) _ 1 1 [.int .u8 (s[k].toNat : Int)] rfl (src_new _ _ _) (by intro u hu; simp at hu; subst hu; rfl) (by omega) (by omega) (by simp; omega) ?_); intro v1 w1 hown1 hg1)
            rw [byteCells_snoc] at hown1
            have HO1 := Lib.hid hown1
            have HB1 := Lib.hid (below_grown HB.out hsz HO.out (Nat.le_refl _) hg1)
            clear hown1 hg1
            go_wp2_with fail
            go_roundw
            case rel => exact ⟨k + 1, n + 1, true, acc ++ [s[k]], by omega, by omega, by go_num, rfl, HN.out, HO1.out, HB1.out⟩
            case measure => simp [intOf]; omega
    · obtain rfl : k = s.size := by omega
      have HN : Hid (rt false s.data.toList = acc) := Lib.hid (by
        have h := HR.out
        rw [List.drop_eq_nil_of_le (by rw [HZ.out]; omega), rt_nil, List.append_nil] at h
        exact h)
      have hcv := conv_own HO.out
      clear HR
      go_wp2_with fail
      go_ret
      rw [HN.out]
      exact ⟨rfl, HB.out⟩
end Go.Proofs.YtomhfmcmjcghoaaGreatDoor.Cl
