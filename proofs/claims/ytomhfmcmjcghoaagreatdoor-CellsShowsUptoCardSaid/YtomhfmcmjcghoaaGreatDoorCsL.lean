/- The contract of the document's guess at a text of bytes; at every text; of the document's Parse; the walk of the law on what is shown and read. -/
import Derived.Test.YtomhfmcmjcghoaaGreatDoorCsK
import Derived.Test.YtomhfmcmjcghoaaGreatDoorCsW
namespace Go.Proofs.YtomhfmcmjcghoaaGreatDoor.Cl
open Go.ChangeShapes Go.WideShapes Go.ChangeAt Go.RowKit Own Bld Nums

theorem src_one_drew (w : World) (a : Value) (t : TypeId) : Src (w.alloc (.cells #[a] t)).drew (some ⟨w.heap.size, 0, none⟩) 1 1 [a] := src_new w a t
theorem one_one {a : Value} (ha : a.oneCell' = true) : ∀ u ∈ [a], u.oneCell' = true := by
  intro u hu
  simp at hu
  subst hu
  exact ha
theorem byte_val (a b : Nat) : IntKind.u8.wrap (IntKind.u64.wrap (IntKind.u64.wrap (16 * (a : Int)) + (b : Int))) = ((UInt8.ofNat (16 * a + b)).toNat : Int) := by
  rw [IntKind.wrap_u64, IntKind.wrap_u64, IntKind.wrap_u8]
  have e : ((UInt8.ofNat (16 * a + b)).toNat : Int) = ((16 * a + b : Nat) : Int) % 256 := by simp
  rw [e]
  omega
set_option maxRecDepth 100000 in
set_option maxHeartbeats 8000000 in
theorem guessB_any (s : ByteArray) (w : World) (hs : s.size ≤ 67108864) (h0 : 0 < s.size) (hq : s[0] = 91) :
    Calls Tryz.prog 20 #[.string s] w fun e w' => e = .returned (.string (str (gb (s.data.toList.drop 1)))) ∧ Below w.heap.size w w' := by
  have hz : s.data.toList.length = s.size := rfl
  have HZ := Lib.hid hz
  have hn1 : (s.toList == []) = false := beq_eq_false_iff_ne.2 (neNil h0)
  have hn3 : s.toList.isEmpty = false := List.isEmpty_eq_false_iff.2 (neNil h0)
  have hn2 : (s.toList == [45]) = false := beq_eq_false_iff_ne.2 (neDash h0 (by rw [hq]; decide))
  have hb0 : ((s[0].toNat : Int) == 34) = false := by rw [hq]; rfl
  have hb1 : ((s[0].toNat : Int) == 60) = false := by rw [hq]; rfl
  have hb2 : ((s[0].toNat : Int) == 91) = true := by rw [hq]; rfl
  clear hz hq
  go_enter Tryz.func20, Tryz.ntmps20
  go_wp2_with fail
  go_loopw [3, 7] (fun v i wr => ∃ (k n : Nat) (acc : List UInt8), k ≤ s.size + 2 ∧ n ≤ k ∧ i = .int .i64 k ∧ gb (s.data.toList.drop 1) = acc ++ gb (s.data.toList.drop k) ∧ wr.ownsRow w.heap.size 5 1 v n (Lib.byteCells acc) ∧ Below w.heap.size w wr) (fun _ i _ => s.size - (intOf i).toNat)
  case atStart => exact ⟨1, 0, [], by omega, by omega, rfl, by simp, own_nil w _ _, Below.refl _ _⟩
  case round =>
    obtain ⟨k, n, acc, hk, hnk, rfl, hrt, hown, hbw⟩ := hrel
    have HR := Lib.hid hrt
    have HO := Lib.hid hown
    have HB := Lib.hid hbw
    have hsz := hbw.size
    clear hrt hown hbw
    by_cases hlt : k + 1 < s.size
    · have hlk : k < s.size := by omega
      have HN : Hid (gb (s.data.toList.drop 1) = (acc ++ [UInt8.ofNat (16 * valV s[k] + valV s[k + 1])]) ++ gb (s.data.toList.drop (k + 3))) := Lib.hid (by
        rw [HR.out, at_list s k hlk, at_list s (k + 1) hlt, gb_step, List.drop_drop]
        simp)
      have HWV := Lib.hid (byte_val (valV s[k]) (valV s[k + 1]))
      clear HR
      go_wp2_with fail
      have hwi : IntKind.i64.wrap ((k : Int) + 1) = (k : Int) + 1 := IntWalk.i64_in ((k : Int) + 1) (by omega)
      have hnn : (0 : Int) ≤ (k : Int) + 1 := by omega
      have htn : ((k : Int) + 1).toNat = k + 1 := by omega
      go_region_held3 (fun _ => True) (first | exact trivial | trivial)
        (first
          | (go_at_call 45; (first | (with_reducible refine (value_any s[k] _).mono ?_) | (with_reducible refine (value_any s[k + 1] _).mono ?_)); rintro e w9 ⟨rfl, rfl⟩)
          | (refine step_app (o := ⟨some 121, _, _, _, _, _⟩) (by first | rfl | simp [Region.wanted, yielded]) (.tmp 107) (.tmp 120) 54 (by rfl) w.heap.size 5 (.int .u8 0) 1 Tryz.underlying54 info_u8 rfl _ n (Lib.byteCells acc) (by rfl) (own_alloc_drew HO.out _) _ 1 1 _ (by rfl) (src_one_drew _ _ _) (one_one rfl) (by clear hwi hnn htn; omega) (by clear hwi hnn htn; omega) (size_alloc_drew hsz _) ?_; intro v3 w3 ho3 hg3; rw [HWV.out, byteCells_snoc] at ho3; have HO3 := Lib.hid ho3; have HB3 := Lib.hid (below_app HB.out hsz HO.out (Nat.le_refl _) hg3); clear ho3 hg3))
      all_goals
        go_wp2_with fail
        go_roundw
        case rel => exact ⟨k + 3, n + 1, _, by omega, by omega, by go_num, HN.out, HO3.out, HB3.out⟩
        case measure => simp [intOf]; omega
    · have HN : Hid (gb (s.data.toList.drop 1) = acc) := Lib.hid (by
        have h := HR.out
        rw [gb_short (s.data.toList.drop k) (by rw [List.length_drop, HZ.out]; omega), List.append_nil] at h
        exact h)
      have hcv := conv_own HO.out
      clear HR
      go_wp2_with fail
      go_ret
      rw [HN.out]
      exact ⟨rfl, HB.out⟩

set_option maxRecDepth 100000 in
theorem guessE_any (w : World) : Calls Tryz.prog 20 #[.string ⟨#[]⟩] w fun e w' => e = .returned (.string ⟨#[]⟩) ∧ Below w.heap.size w w' := by
  have hcv := conv_own (bs := []) (own_nil w w.heap.size 5)
  go_enter Tryz.func20, Tryz.ntmps20
  go_wp2_with fail
  go_ret
  exact ⟨rfl, Below.refl _ _⟩
set_option maxRecDepth 100000 in
theorem guessD_any (w : World) : Calls Tryz.prog 20 #[.string ⟨#[45]⟩] w fun e w' => e = .returned (.string ⟨#[]⟩) ∧ Below w.heap.size w w' := by
  have hcv := conv_own (bs := []) (own_nil w w.heap.size 5)
  go_enter Tryz.func20, Tryz.ntmps20
  go_wp2_with fail
  go_ret
  exact ⟨rfl, Below.refl _ _⟩
set_option maxRecDepth 100000 in
theorem guessO_any (s : ByteArray) (w : World) (_ : s.size ≤ 67108864) (h0 : 0 < s.size) (hd : s ≠ ⟨#[45]⟩) (h34 : s[0] ≠ 34) (h60 : s[0] ≠ 60) (h91 : s[0] ≠ 91) :
    Calls Tryz.prog 20 #[.string s] w fun e w' => e = .returned (.string ⟨#[]⟩) ∧ Below w.heap.size w w' := by
  have hn1 : (s.toList == []) = false := beq_eq_false_iff_ne.2 (neNil h0)
  have hn3 : s.toList.isEmpty = false := List.isEmpty_eq_false_iff.2 (neNil h0)
  have hn2 := bytes_differ hd
  rw [show (⟨#[45]⟩ : ByteArray).toList = [45] from by decide +kernel] at hn2
  have hb0 := eq_false_of (d := 34) rfl h34
  have hb1 := eq_false_of (d := 60) rfl h60
  have hb2 := eq_false_of (d := 91) rfl h91
  rw [show (((34 : UInt8).toNat : Nat) : Int) = 34 from rfl] at hb0
  rw [show (((60 : UInt8).toNat : Nat) : Int) = 60 from rfl] at hb1
  rw [show (((91 : UInt8).toNat : Nat) : Int) = 91 from rfl] at hb2
  have hcv := conv_own (bs := []) (own_nil w w.heap.size 5)
  clear hd h34 h60 h91
  go_enter Tryz.func20, Tryz.ntmps20
  go_wp2_with fail
  go_ret
  exact ⟨rfl, Below.refl _ _⟩
theorem guess_any (s : ByteArray) (w : World) (hs : s.size ≤ 67108864) :
    Calls Tryz.prog 20 #[.string s] w fun e w' => e = .returned (.string (str (guessV s.data.toList))) ∧ Below w.heap.size w w' := by
  have hz : s.data.toList.length = s.size := rfl
  by_cases h0 : s.size = 0
  · have hl : s.data.toList = [] := List.eq_nil_of_length_eq_zero (by omega)
    have hs0 : s = ⟨#[]⟩ := bytes_ext hl
    have e : guessV s.data.toList = [] := by unfold guessV; rw [if_pos (.inl hl)]
    rw [e, hs0]
    exact guessE_any w
  · have hp : 0 < s.size := by omega
    have hl : s.data.toList ≠ [] := fun h => by rw [h] at hz; simp at hz; omega
    by_cases hd : s = ⟨#[45]⟩
    · subst hd
      exact guessD_any w
    · have hd2 : s.data.toList ≠ [45] := fun h => hd (bytes_ext h)
      have hh := head_at s hp
      unfold guessV
      rw [if_neg (fun h => h.elim hl hd2), hh, tail_drop]
      by_cases h34 : s[0] = 34
      · rw [if_pos (by rw [h34])]
        exact guessT_any s w hs hp h34
      · rw [if_neg (fun h => h34 (Option.some.inj h))]
        by_cases h60 : s[0] = 60
        · rw [if_pos (by rw [h60])]
          exact guessC_any s w hs hp h60
        · rw [if_neg (fun h => h60 (Option.some.inj h))]
          by_cases h91 : s[0] = 91
          · rw [if_pos (by rw [h91])]
            exact guessB_any s w hs hp h91
          · rw [if_neg (fun h => h91 (Option.some.inj h))]
            exact guessO_any s w hs hp hd h34 h60 h91

theorem refParse_any (s : ByteArray) (w : World) (hs : s.size ≤ 4194306) :
    Calls Tryz.prog 6 #[.string s] w fun e w' => e = .returned (.tuple #[.string (str (parseR s.data.toList).1), .int .i64 (parseR s.data.toList).2]) ∧ Below w.heap.size w w' := by
  have hgl : (str (guessV s.data.toList)).size ≤ 20000000 := by
    have h1 := guess_len s.data.toList
    have h2 : s.data.toList.length = s.size := rfl
    rw [str_size]
    omega
  have HPG := Lib.hid (parse_guess s.data.toList)
  by_cases heq : showV (guessV s.data.toList) = s.data.toList
  · have HP : Hid (parseR s.data.toList = (guessV s.data.toList, 0)) := Lib.hid (by rw [HPG.out, if_pos heq])
    have HS : Hid (str (showV (str (guessV s.data.toList)).data.toList) = s) := Lib.hid (bytes_ext (by rw [str_list, str_list]; exact heq))
    clear heq HPG
    go_enter Tryz.func6, Tryz.ntmps6
    go_wp2_with fail
    refine (guess_any s _ (by omega)).mono ?_
    rintro e w1 ⟨rfl, b1⟩
    have B1 := Lib.hid b1
    clear b1
    go_wp2_with fail
    refine (refShow_any (str (guessV s.data.toList)) _ hgl).mono ?_
    rw [HS.out]
    rintro e w2 ⟨rfl, b2⟩
    have B2 := Lib.hid (B1.out.trans (b2.mono B1.out.size))
    clear b2
    go_wp2_with fail
    go_ret2
    rw [HP.out]
    exact ⟨rfl, B2.out⟩
  · have HP : Hid (parseR s.data.toList = ([], 4)) := Lib.hid (by rw [HPG.out, if_neg heq])
    have hd : str (showV (str (guessV s.data.toList)).data.toList) ≠ s := fun h => heq (by
      have h2 := congrArg (fun b : ByteArray => b.data.toList) h
      exact h2)
    have hdd := bytes_differ hd
    clear heq HPG hd
    go_enter Tryz.func6, Tryz.ntmps6
    go_wp2_with fail
    refine (guess_any s _ (by omega)).mono ?_
    rintro e w1 ⟨rfl, b1⟩
    have B1 := Lib.hid b1
    clear b1
    go_wp2_with fail
    refine (refShow_any (str (guessV s.data.toList)) _ hgl).mono ?_
    rintro e w2 ⟨rfl, b2⟩
    have B2 := Lib.hid (B1.out.trans (b2.mono B1.out.size))
    clear b2
    generalize str (showV (str (guessV s.data.toList)).data.toList) = z at hdd ⊢
    go_wp2_with fail
    go_ret2
    rw [HP.out]
    exact ⟨rfl, B2.out⟩

set_option maxRecDepth 100000 in
set_option maxHeartbeats 4000000 in
theorem walkShows (v s : ByteArray) (w : World) (hv : v.size ≤ 1048576) (hs : s.size ≤ 1048576) (he : Env2 w) :
    Calls Tryz.prog 3 #[.string v, .string s] w fun e w' => e = .returned (.bool true) ∧ Below w.heap.size w w' := by
  have HE := Lib.hid he
  clear he
  go_enter Tryz.func3, Tryz.ntmps3
  go_wp2_with fail
  refine (refParse_any s _ (by omega)).mono ?_
  rintro e w1 ⟨rfl, b1⟩
  have B1 := Lib.hid b1
  clear b1
  go_wp2_with fail
  refine (parse_any s _ (by omega) (HE.out.below B1.out)).mono ?_
  rintro e w2 ⟨rfl, b2⟩
  have B2 := Lib.hid (bt2 B1.out B1.out.size b2)
  clear b2 B1
  generalize str (parseR s.data.toList).1 = pv
  generalize (parseR s.data.toList).2 = pe
  go_wp2_with fail
  refine (show_any v _ (by omega) (HE.out.below B2.out).deb).mono ?_
  rintro e w3 ⟨rfl, b3⟩
  have B3 := Lib.hid (bt2 B2.out B2.out.size b3)
  clear b3 B2
  go_wp2_with fail
  refine (refShow_any v _ (by omega)).mono ?_
  rintro e w4 ⟨rfl, b4⟩
  have B4 := Lib.hid (bt2 B3.out B3.out.size b4)
  clear b4 B3
  generalize str (showV v.data.toList) = t
  go_wp2_with fail
  go_ret
  exact ⟨rfl, B4.out⟩
end Go.Proofs.YtomhfmcmjcghoaaGreatDoor.Cl
