/- The contract of the document's guess, at every text. -/
import Derived.Test.YtomhfmcmjcghoaaGreatDoorCsI
import Derived.IntWalk
namespace Go.Proofs.YtomhfmcmjcghoaaGreatDoor.Cl
open Go.ChangeShapes Go.WideShapes Go.ChangeAt Go.RowKit Own Bld Nums

theorem tail_drop (s : List UInt8) : s.tail = s.drop 1 := by cases s <;> rfl
theorem head_at (s : ByteArray) (h : 0 < s.size) : s.data.toList.head? = some s[0] := by
  have e : s.data.toList.length = s.size := rfl
  rw [List.head?_eq_getElem?, List.getElem?_eq_getElem (by omega)]
  rfl
theorem gq_len : ∀ (n : Nat) (l : List UInt8), l.length ≤ n → (gq l).length ≤ l.length
  | 0, l, h => by
    rw [List.eq_nil_of_length_eq_zero (by omega : l.length = 0), gq_nil]
    simp
  | n + 1, [], _ => by rw [gq_nil]; simp
  | n + 1, c :: l, h => by
    by_cases h34 : c = 34
    · rw [h34, gq_end]
      have := gq_len n (l.drop 3) (by simp at h ⊢; omega)
      simp at this ⊢; omega
    · by_cases h92 : c = 92 ∧ l ≠ []
      · obtain ⟨d, r, rfl⟩ : ∃ d r, l = d :: r := by
          cases l with
          | nil => exact absurd rfl h92.2
          | cons d r => exact ⟨d, r, rfl⟩
        rw [h92.1, gq_esc]
        have := gq_len n r (by simp at h; omega)
        simp; omega
      · rw [gq_else c l h34 (by
          by_cases h : c = 92
          · exact .inr (Classical.byContradiction fun h2 => h92 ⟨h, h2⟩)
          · exact .inl h)]
        have := gq_len n l (by simp at h; omega)
        simp; omega
theorem gb_len : ∀ (l : List UInt8), (gb l).length ≤ l.length
  | [] => by simp [gb]
  | [_] => by simp [gb]
  | [_, _] => by simp [gb]
  | _ :: _ :: _ :: l => by
    have := gb_len l
    simp only [gb, List.length_cons]
    omega
theorem guess_len (s : List UInt8) : (guessV s).length ≤ 4 * s.length := by
  unfold guessV
  split
  · simp
  · split
    · have := gq_len s.tail.length s.tail (Nat.le_refl _)
      simp at this
      omega
    · split
      · have := g32_len s.tail 0
        simp at this
        omega
      · split
        · have := gb_len s.tail
          simp at this
          omega
        · simp

set_option maxRecDepth 100000 in
set_option maxHeartbeats 8000000 in
theorem guessT_any (s : ByteArray) (w : World) (hs : s.size ≤ 67108864) (h0 : 0 < s.size) (hq : s[0] = 34) :
    Calls Tryz.prog 20 #[.string s] w fun e w' => e = .returned (.string (str (gq (s.data.toList.drop 1)))) ∧ Below w.heap.size w w' := by
  have hz : s.data.toList.length = s.size := rfl
  have HZ := Lib.hid hz
  have hne : s.toList = [] → False := fun h => by
    have := congrArg List.length h
    rw [Lib.toList_data] at this
    have h2 : s.data.toList.length = 0 := this
    omega
  have hn1 : (s.toList == []) = false := by rw [beq_eq_false_iff_ne]; exact hne
  have hn3 : s.toList.isEmpty = false := by rw [List.isEmpty_eq_false_iff]; exact hne
  have hn2 : (s.toList == [45]) = false := by
    rw [beq_eq_false_iff_ne]
    intro h
    have h2 := head_at s h0
    rw [← Lib.toList_data, h, hq] at h2
    cases h2
  have hb0 : ((s[0].toNat : Int) == 34) = true := by rw [hq]; rfl
  clear hz hne hq
  go_enter Tryz.func20, Tryz.ntmps20
  go_wp2_with fail
  go_loopw [3, 4] (fun v i wr => ∃ (k n : Nat) (acc : List UInt8), k ≤ s.size + 3 ∧ n ≤ k ∧ i = .int .i64 k ∧ gq (s.data.toList.drop 1) = acc ++ gq (s.data.toList.drop k) ∧ wr.ownsRow w.heap.size 5 1 v n (Lib.byteCells acc) ∧ Below w.heap.size w wr) (fun _ i _ => s.size - (intOf i).toNat)
  case atStart => exact ⟨1, 0, [], by omega, by omega, rfl, by simp, own_nil w _ _, Below.refl _ _⟩
  case round =>
    obtain ⟨k, n, acc, hk, hnk, rfl, hrt, hown, hbw⟩ := hrel
    have HR := Lib.hid hrt
    have HO := Lib.hid hown
    have HB := Lib.hid hbw
    have hsz := hbw.size
    clear hrt hown hbw
    by_cases hlt : k < s.size
    · have HC2 : Hid (s.data.toList.drop k = s[k] :: s.data.toList.drop (k + 1)) := Lib.hid (at_list s k hlt)
      have HK : Hid (∀ h : k + 1 < s.size, s.data.toList.drop (k + 1) = s[k + 1] :: s.data.toList.drop (k + 2)) := Lib.hid fun h => at_list s (k + 1) h
      have HE : Hid (k + 1 = s.size → s.data.toList.drop (k + 1) = []) := Lib.hid fun h => List.drop_eq_nil_of_le (by rw [HZ.out]; omega)
      by_cases h34 : s[k] = 34
      · have hb : ((s[k].toNat : Int) == 34) = true := by rw [h34]; rfl
        have hb2 : ((s[k].toNat : Int) == 92) = false := by rw [h34]; rfl
        have HN : Hid (gq (s.data.toList.drop 1) = (acc ++ [0]) ++ gq (s.data.toList.drop (k + 4))) := Lib.hid (by rw [HR.out, HC2.out, h34, gq_end, List.drop_drop]; simp)
        clear h34 HC2 HR
        go_wp2_with (at_builtin; go_must (refine wpList_append_src rfl (.tmp 56) (.tmp 57) 54 rfl w.heap.size 5 (.int .u8 0) 1 Tryz.underlying54 info_u8 rfl _ n (Lib.byteCells acc) rfl (HO.out.alloc _) _ 1 1 [.int .u8 0] rfl (src_new _ _ _) (by intro u hu; simp at hu; subst hu; rfl) (by omega) (by omega) (by simp; omega) ?_); intro v1 w1 hown1 hg1)
        have HO1 := Lib.hid (show w1.ownsRow w.heap.size 5 1 v1 (n + 1) (Lib.byteCells (acc ++ [0])) from by rw [← byteCells_snoc]; exact hown1)
        have HB1 := Lib.hid (below_grown HB.out hsz HO.out (Nat.le_refl _) hg1)
        clear hown1 hg1
        go_wp2_with fail
        go_roundw
        case rel => exact ⟨k + 4, n + 1, acc ++ [0], by omega, by omega, by go_num, HN.out, HO1.out, HB1.out⟩
        case measure => simp [intOf]; omega
      · have hb : ((s[k].toNat : Int) == 34) = false := by
          rw [beq_eq_false_iff_ne]
          intro h
          exact h34 (UInt8.toNat_inj.1 (by show s[k].toNat = 34; omega))
        by_cases h92 : s[k] = 92
        · have hb2 : ((s[k].toNat : Int) == 92) = true := by rw [h92]; rfl
          by_cases hl2 : k + 1 < s.size
          · have HN : Hid (gq (s.data.toList.drop 1) = (acc ++ [s[k + 1]]) ++ gq (s.data.toList.drop (k + 2))) := Lib.hid (by rw [HR.out, HC2.out, h92, HK.out hl2, gq_esc]; simp)
            have hdl : decide ((k : Int) + 1 < (s.size : Int)) = true := by simp; omega
            clear h34 h92 HC2 HR
            go_wp2_with (at_builtin; go_must (refine wpList_append_src rfl (.tmp 45) (.tmp 49) 54 rfl w.heap.size 5 (.int .u8 0) 1 Tryz.underlying54 info_u8 rfl _ n (Lib.byteCells acc) rfl (HO.out.alloc _) _ 1 1 [.int .u8 (s[k + 1].toNat : Int)] rfl (src_new _ _ _) (by intro u hu; simp at hu; subst hu; rfl) (by omega) (by omega) (by simp; omega) ?_); intro v1 w1 hown1 hg1)
            rw [byteCells_snoc] at hown1
            have HO1 := Lib.hid hown1
            have HB1 := Lib.hid (below_grown HB.out hsz HO.out (Nat.le_refl _) hg1)
            clear hown1 hg1
            go_wp2_with fail
            go_roundw
            case rel => exact ⟨k + 2, n + 1, acc ++ [s[k + 1]], by omega, by omega, by go_num, HN.out, HO1.out, HB1.out⟩
            case measure => simp [intOf]; omega
          · have HN : Hid (gq (s.data.toList.drop 1) = (acc ++ [s[k]]) ++ gq (s.data.toList.drop (k + 1))) := Lib.hid (by
              have := HE.out (by omega)
              rw [HR.out, HC2.out, gq_else _ _ h34 (.inr this)]; simp)
            have hdl : decide ((k : Int) + 1 < (s.size : Int)) = false := by simp; omega
            clear h34 h92 HC2 HR
            go_wp2_with (at_builtin; go_must (refine wpList_append_src rfl (.tmp 25) (.tmp 29) 54 rfl w.heap.size 5 (.int .u8 0) 1 Tryz.underlying54 info_u8 rfl _ n (Lib.byteCells acc) rfl (HO.out.alloc _) _ 1 1 [.int .u8 (s[k].toNat : Int)] rfl (src_new _ _ _) (by intro u hu; simp at hu; subst hu; rfl) (by omega) (by omega) (by simp; omega) ?_); intro v1 w1 hown1 hg1)
            rw [byteCells_snoc] at hown1
            have HO1 := Lib.hid hown1
            have HB1 := Lib.hid (below_grown HB.out hsz HO.out (Nat.le_refl _) hg1)
            clear hown1 hg1
            go_wp2_with fail
            go_roundw
            case rel => exact ⟨k + 1, n + 1, acc ++ [s[k]], by omega, by omega, by go_num, HN.out, HO1.out, HB1.out⟩
            case measure => simp [intOf]; omega
        · have hb2 : ((s[k].toNat : Int) == 92) = false := by
            rw [beq_eq_false_iff_ne]
            intro h
            exact h92 (UInt8.toNat_inj.1 (by show s[k].toNat = 92; omega))
          have HN : Hid (gq (s.data.toList.drop 1) = (acc ++ [s[k]]) ++ gq (s.data.toList.drop (k + 1))) := Lib.hid (by rw [HR.out, HC2.out, gq_else _ _ h34 (.inl h92)]; simp)
          clear h34 h92 HC2 HR
          go_wp2_with (at_builtin; go_must (refine wpList_append_src rfl (.tmp 25) (.tmp 29) 54 rfl w.heap.size 5 (.int .u8 0) 1 Tryz.underlying54 info_u8 rfl _ n (Lib.byteCells acc) rfl (HO.out.alloc _) _ 1 1 [.int .u8 (s[k].toNat : Int)] rfl (src_new _ _ _) (by intro u hu; simp at hu; subst hu; rfl) (by omega) (by omega) (by simp; omega) ?_); intro v1 w1 hown1 hg1)
          rw [byteCells_snoc] at hown1
          have HO1 := Lib.hid hown1
          have HB1 := Lib.hid (below_grown HB.out hsz HO.out (Nat.le_refl _) hg1)
          clear hown1 hg1
          go_wp2_with fail
          go_roundw
          case rel => exact ⟨k + 1, n + 1, acc ++ [s[k]], by omega, by omega, by go_num, HN.out, HO1.out, HB1.out⟩
          case measure => simp [intOf]; omega
    · have HN : Hid (gq (s.data.toList.drop 1) = acc) := Lib.hid (by
        have h := HR.out
        rw [List.drop_eq_nil_of_le (i := k) (by rw [HZ.out]; omega), gq_nil, List.append_nil] at h
        exact h)
      have hcv := conv_own HO.out
      clear HR
      go_wp2_with fail
      go_ret
      rw [HN.out]
      exact ⟨rfl, HB.out⟩
end Go.Proofs.YtomhfmcmjcghoaaGreatDoor.Cl
