/- The document's own word, where it stands in quotes; and at every text. -/
import Derived.Test.YtaoekpedjgnnjaaDoorRfW
namespace Go.Proofs.YtaoekpedjgnnjaaDoor.Wd
open Go.ChangeShapes Go.WideShapes Go.ChangeAt Go.RowKit Own Bld Go.Lib Nums

/-- What has been read of a quoted text up to a place. -/
def QS (s : ByteArray) (k : Nat) (acc : List UInt8) : Prop :=
  (qW (s.data.toList.drop 1)).1 = acc ++ (qW (s.data.toList.drop k)).1 ∧ 1 + (qW (s.data.toList.drop 1)).2 = k + (qW (s.data.toList.drop k)).2
theorem QS.start (s : ByteArray) : QS s 1 [] := ⟨rfl, rfl⟩
theorem drop_cons (s : ByteArray) (k : Nat) (h : k < s.size) : s.data.toList.drop k = s[k] :: s.data.toList.drop (k + 1) := List.drop_eq_getElem_cons (show k < s.data.toList.length from h)
theorem QS.next {s : ByteArray} {k : Nat} {acc p : List UInt8} {n : Nat} (h : QS s k acc) (hk : k < s.size) (hc : s[k] ≠ 34) (hs : qstep s[k] (s.data.toList.drop (k + 1)) = (p, n)) : QS s (k + n) (acc ++ p) := by
  obtain ⟨h1, h2⟩ := h
  have hq := qW_step s[k] (s.data.toList.drop (k + 1)) hc
  rw [hs, ← drop_cons s k hk] at hq
  simp only [List.drop_drop] at hq
  rw [hq] at h1 h2
  exact ⟨by rw [h1, List.append_assoc], by omega⟩
theorem drop_getD (l : List UInt8) (k i : Nat) : (l.drop k).getD i 0 = l.getD (k + i) 0 := by
  rw [List.getD_eq_getElem?_getD, List.getD_eq_getElem?_getD, List.getElem?_drop]
theorem QS.one {s : ByteArray} {k : Nat} {acc : List UInt8} (h : QS s k acc) (hk : k < s.size) (hc : s[k] ≠ 34) (h92 : s[k] ≠ 92) : QS s (k + 1) (acc ++ [s[k]]) :=
  h.next hk hc (by unfold qstep; rw [if_pos h92])
theorem QS.skip {s : ByteArray} {k : Nat} {acc : List UInt8} (h : QS s k acc) (hk : k < s.size) (h92 : s[k] = 92) (h1 : ¬ k + 1 < s.size) : QS s (k + 1) acc := by
  have hl : s.data.toList.drop (k + 1) = [] := List.drop_of_length_le (by show s.size ≤ _; omega)
  have h2 := h.next hk (by rw [h92]; decide) (p := []) (n := 1) (by rw [hl, h92]; rfl)
  rw [List.append_nil] at h2
  exact h2
theorem QS.two {s : ByteArray} {k : Nat} {acc : List UInt8} (h : QS s k acc) (hk : k + 1 < s.size) (h92 : s[k] = 92) (hn : ¬ (k + 3 < s.size ∧ s[k + 1] = 120 ∧ 0 ≤ digV (s.data.toList.getD (k + 2) 0) ∧ 0 ≤ digV (s.data.toList.getD (k + 3) 0))) : QS s (k + 2) (acc ++ [s[k + 1]]) := by
  have e1 : (s.data.toList.drop (k + 1)).length = s.size - (k + 1) := List.length_drop
  have g0 : (s.data.toList.drop (k + 1)).getD 0 0 = s[k + 1] := by rw [drop_getD]; exact getD_at s (k + 1) hk
  refine h.next (by omega) (by rw [h92]; decide) ?_
  unfold qstep
  rw [h92, if_neg (by decide), if_neg, if_pos (by omega), g0]
  rintro ⟨a, b, c, d⟩
  rw [g0] at b
  rw [drop_getD] at c d
  exact hn ⟨by omega, b, c, d⟩
theorem QS.esc {s : ByteArray} {k x y : Nat} {acc : List UInt8} (h : QS s k acc) (hk : k + 3 < s.size) (h92 : s[k] = 92) (h120 : s[k + 1] = 120) (hx : digV s[k + 2] = (x : Int)) (hy : digV s[k + 3] = (y : Int)) : QS s (k + 4) (acc ++ [UInt8.ofNat (16 * x + y)]) := by
  have e1 : (s.data.toList.drop (k + 1)).length = s.size - (k + 1) := List.length_drop
  have g0 : (s.data.toList.drop (k + 1)).getD 0 0 = s[k + 1] := by rw [drop_getD]; exact getD_at s (k + 1) (by omega)
  have g1 : (s.data.toList.drop (k + 1)).getD 1 0 = s[k + 2] := by rw [drop_getD]; exact getD_at s (k + 2) (by omega)
  have g2 : (s.data.toList.drop (k + 1)).getD 2 0 = s[k + 3] := by rw [drop_getD]; exact getD_at s (k + 3) hk
  refine h.next (by omega) (by rw [h92]; decide) ?_
  unfold qstep
  rw [h92, if_neg (by decide), g0, g1, g2, hx, hy, if_pos ⟨by omega, h120, by omega, by omega⟩]
  have e3 : (16 * (x : Int) + (y : Int)).toNat = 16 * x + y := by omega
  rw [e3]
theorem QS.done {s : ByteArray} {k : Nat} {acc : List UInt8} (h : QS s k acc) (hk : ∀ hk : k < s.size, s[k] = 34) : (qW (s.data.toList.drop 1)).1 = acc ∧ 1 + (qW (s.data.toList.drop 1)).2 = k := by
  obtain ⟨h1, h2⟩ := h
  have hz : qW (s.data.toList.drop k) = ([], 0) := by
    by_cases hlt : k < s.size
    · rw [drop_cons s k hlt, hk hlt, qW_end]
    · rw [List.drop_of_length_le (by show s.size ≤ _; omega)]
      rfl
  rw [hz] at h1 h2
  exact ⟨by rw [h1, List.append_nil], h2⟩
theorem digV_lt (c : UInt8) : digV c < 16 ∧ -1 ≤ digV c := by
  unfold digV
  split <;> omega
theorem quo_ret {s : ByteArray} {k q : Nat} {acc : List UInt8} (h : QS s k acc) (hk : ∀ hk : k < s.size, s[k] = 34) (hp : Lib.hasPrefix s.data.toList [34] = true) (hq : q = min (k + 1) s.size) :
    Ending.returned (.tuple #[.string (str acc), .int .i64 (q : Int)]) = .returned (.tuple #[.string (str (wordW s.data.toList).1), .int .i64 ((wordW s.data.toList).2 : Int)]) := by
  obtain ⟨h1, h2⟩ := h.done hk
  have e : s.data.toList.length = s.size := rfl
  unfold wordW
  rw [if_pos hp]
  simp only [h1]
  have e2 : min (2 + (qW (s.data.toList.drop 1)).2) s.data.toList.length = q := by rw [e]; omega
  rw [e2]
theorem one_cells (acc : List UInt8) (c : UInt8) : Lib.byteCells acc ++ [.int .u8 (c.toNat : Int)] = Lib.byteCells (acc ++ [c]) := by
  rw [Lib.byteCells_append]
  rfl

theorem one_u8 (z : Int) : ∀ u ∈ (#[Value.int .u8 z] : Array Value).toList, u.oneCell' = true := by
  intro u hu
  simp at hu
  subst hu
  rfl
theorem size_alloc_drw {w : World} {base : Nat} (h : base ≤ w.heap.size) (o : Obj) : base ≤ (w.alloc o).drew.heap.size := by
  show base ≤ (w.alloc o).heap.size
  simp
  omega
theorem own_esc {w : World} {base n x y : Nat} {E : TypeId} {v : Value} {acc : List UInt8} (h : w.ownsRow base E 1 v n (Lib.byteCells acc ++ (#[Value.int .u8 (16 * (x : Int) + (y : Int))] : Array Value).toList)) (hxy : 16 * x + y < 256) : w.ownsRow base E 1 v n (Lib.byteCells (acc ++ [UInt8.ofNat (16 * x + y)])) := by
  have e := one_cells acc (UInt8.ofNat (16 * x + y))
  rw [u8_of _ hxy] at e
  rw [← e]
  exact h

set_option maxRecDepth 100000 in
set_option maxHeartbeats 16000000 in
theorem word_quoted (s : ByteArray) (w : World) (hs : s.size ≤ 268435456) (h0 : 0 < s.size) (h : s[0] = 34) :
    Calls Tryd.prog 27 #[.string s] w fun e w' => e = .returned (.tuple #[.string (str (wordW s.data.toList).1), .int .i64 ((wordW s.data.toList).2 : Int)]) ∧ Below w.heap.size w w' := by
  have hz : s.data.toList.length = s.size := rfl
  have hl : s.data.toList ≠ [] := fun e => by rw [e] at hz; simp at hz; omega
  have hne : (s.toList == []) = false := by rw [Lib.toList_data, beq_eq_false_iff_ne]; exact hl
  have hne2 : s.toList.isEmpty = false := by rw [Lib.toList_data, List.isEmpty_eq_false_iff]; exact hl
  have HP : Hid (Lib.hasPrefix s.data.toList [34] = true) := Lib.hid (by
    have e := drop_cons s 0 h0
    rw [List.drop_zero] at e
    rw [e, pre_cons, h]
    rfl)
  have tq : ((s[0].toNat : Int) != 34) = false := by rw [h]; rfl
  clear hl hz h
  go_enter Tryd.func27, Tryd.ntmps27
  go_wp2_with fail
  go_loopw [5, 6] (fun v5 v6 wr => ∃ (k n : Nat) (acc : List UInt8), 1 ≤ k ∧ k ≤ s.size ∧ v6 = .int .i64 k ∧ n ≤ k ∧ Hid (n = acc.length) ∧ QS s k acc ∧ wr.ownsRow w.heap.size 5 1 v5 n (Lib.byteCells acc) ∧ Below w.heap.size w wr) (fun _ v6 _ => s.size - (RowKit.intOf v6).toNat)
  case atStart => exact ⟨1, 0, [], Nat.le_refl _, h0, rfl, by omega, Lib.hid rfl, QS.start s, ⟨rfl, .inl ⟨rfl, rfl⟩⟩, Below.refl _ _⟩
  case round =>
    obtain ⟨k, n, acc, hk1, hk, rfl, hnk, HN, hqs, hown, hbw⟩ := hrel
    have HO := Lib.hid hown
    have HB := Lib.hid hbw
    have HQ := Lib.hid hqs
    have hsz := hbw.size
    clear hown hbw hqs hne hne2 tq
    by_cases hlt : k < s.size
    · have hc256 : s[k].toNat < 256 := s[k].toNat_lt
      by_cases h34 : s[k] = 34
      · have t1 : ((s[k].toNat : Int) != 34) = false := by rw [h34]; rfl
        obtain ⟨q, hq⟩ : ∃ q, q = min (k + 1) s.size := ⟨_, rfl⟩
        have hmin : min ((k : Int) + 1) (s.size : Int) = (q : Int) := by omega
        have HV := Lib.hid (quo_ret HQ.out (fun _ => h34) HP.out hq)
        have hcv := conv_own HO.out
        clear h34 hq
        go_wp2_with fail
        go_ret2
        rw [← HV.out]
        exact ⟨rfl, HB.out⟩
      · have t1 : ((s[k].toNat : Int) != 34) = true := bne_iff_ne.2 fun e => h34 (UInt8.toNat_inj.1 (by show s[k].toNat = 34; omega))
        by_cases h92 : s[k] = 92
        · have t2 : ((s[k].toNat : Int) != 92) = false := by rw [h92]; rfl
          by_cases h1 : k + 1 < s.size
          · have hc1 : s[k + 1].toNat < 256 := s[k + 1].toNat_lt
            have t4 : decide ((k : Int) + 1 < (s.size : Int)) = true := decide_eq_true (by omega)
            by_cases h3 : k + 3 < s.size
            case' neg =>
              have t3 : decide ((k : Int) + 3 < (s.size : Int)) = false := decide_eq_false (by omega)
              have HQ2 := Lib.hid (HQ.out.two h1 h92 (by rintro ⟨a, _⟩; exact h3 a))
            case' pos =>
              have t3 : decide ((k : Int) + 3 < (s.size : Int)) = true := decide_eq_true (by omega)
              have D2 := Lib.hid fun W => digit_any s[k + 2] W
              have D3 := Lib.hid fun W => digit_any s[k + 3] W
              have g2 : s.data.toList.getD (k + 2) 0 = s[k + 2] := getD_at s (k + 2) (by omega)
              have g3 : s.data.toList.getD (k + 3) 0 = s[k + 3] := getD_at s (k + 3) (by omega)
              by_cases h120 : s[k + 1] = 120
              case' neg =>
                have t5 : ((s[k + 1].toNat : Int) == 120) = false := beq_eq_false_iff_ne.2 fun e => h120 (UInt8.toNat_inj.1 (by show s[k + 1].toNat = 120; omega))
                have HQ2 := Lib.hid (HQ.out.two h1 h92 (by rintro ⟨_, a, _⟩; exact h120 a))
              case' pos =>
                have t5 : ((s[k + 1].toNat : Int) == 120) = true := by rw [h120]; rfl
                by_cases hd2 : 0 ≤ digV s[k + 2]
                case' neg =>
                  have t6 : decide (0 ≤ digV s[k + 2]) = false := decide_eq_false hd2
                  have HQ2 := Lib.hid (HQ.out.two h1 h92 (by rw [g2]; rintro ⟨_, _, a, _⟩; exact hd2 a))
                case' pos =>
                  have t6 : decide (0 ≤ digV s[k + 2]) = true := decide_eq_true hd2
                  by_cases hd3 : 0 ≤ digV s[k + 3]
                  case' neg =>
                    have t7 : decide (0 ≤ digV s[k + 3]) = false := decide_eq_false hd3
                    have HQ2 := Lib.hid (HQ.out.two h1 h92 (by rw [g2, g3]; rintro ⟨_, _, _, a⟩; exact hd3 a))
                  case' pos =>
                    have t7 : decide (0 ≤ digV s[k + 3]) = true := decide_eq_true hd3
            case pos =>
              have HQ4 : Hid (∃ x y : Nat, digV s[k + 2] = (x : Int) ∧ digV s[k + 3] = (y : Int) ∧ x < 16 ∧ y < 16 ∧ QS s (k + 4) (acc ++ [UInt8.ofNat (16 * x + y)])) := Lib.hid (by
                obtain ⟨l2, _⟩ := digV_lt s[k + 2]
                obtain ⟨l3, _⟩ := digV_lt s[k + 3]
                exact ⟨(digV s[k + 2]).toNat, (digV s[k + 3]).toNat, by omega, by omega, by omega, by omega, HQ.out.esc h3 h92 h120 (by omega) (by omega)⟩)
              clear h34 h92 g2 g3 h120 hd2 hd3
              obtain ⟨x, y, hx, hy, hx16, hy16, hq4⟩ := HQ4.out
              have HQX := Lib.hid hq4
              rw [hx] at D2 t6
              rw [hy] at D3 t7
              clear hx hy hq4 HQ4
              have hcb : (UInt8.ofNat (16 * x + y)).toNat = 16 * x + y := u8_of _ (by omega)
              have HCB := Lib.hid hcb
              clear hcb
              go_wp2_with (go_at_call 40; (first | (with_reducible refine (D2.out _).mono ?_) | (with_reducible refine (D3.out _).mono ?_)); rintro e w9 ⟨rfl, rfl⟩)
              have a1 : IntKind.i64.wrap ((k : Int) + 2) = (k : Int) + 2 := IntWalk.i64_in _ (by omega)
              have a2 : IntKind.i64.wrap ((k : Int) + 3) = (k : Int) + 3 := IntWalk.i64_in _ (by omega)
              have a3 : IntKind.i64.wrap (16 * (x : Int)) = 16 * (x : Int) := IntWalk.i64_in _ (by omega)
              have a4 : IntKind.i64.wrap (16 * (x : Int) + (y : Int)) = 16 * (x : Int) + (y : Int) := IntWalk.i64_in _ (by omega)
              have a5 : IntKind.u8.wrap (16 * (x : Int) + (y : Int)) = 16 * (x : Int) + (y : Int) := by simp [IntKind.wrap, IntKind.bits, IntKind.signed]; omega
              have b1 : 0 ≤ (k : Int) + 2 := by omega
              have b2 : 0 ≤ (k : Int) + 3 := by omega
              have b3 : ((k : Int) + 2).toNat = k + 2 := by omega
              have b4 : ((k : Int) + 3).toNat = k + 3 := by omega
              have b5 : (k : Int) + 2 < (s.size : Int) := by omega
              have b6 : (k : Int) + 3 < (s.size : Int) := by omega
              have HX5 : Hid (16 * x + y < 256) := Lib.hid (by omega)
              go_region_held3 (fun _ => True) (first | exact trivial | trivial)
                (first
                  | (go_at_call 40; (first | (with_reducible refine (D2.out _).mono ?_) | (with_reducible refine (D3.out _).mono ?_)); rintro e w9 ⟨rfl, rfl⟩)
                  | (refine step_app (o := ⟨some 95, _, _, _, _, _⟩) (by first | rfl | simp [Region.wanted, yielded]) (.tmp 80) (.tmp 94) 39 (by rfl) w.heap.size 5 (.int .u8 0) 1 Tryd.underlying39 info_byte rfl _ n (Lib.byteCells acc) (by rfl) (own_alloc_drew HO.out _) _ 1 1 _ (by rfl) (src_cells' wr #[.int .u8 (16 * (x : Int) + (y : Int))] 5) (one_u8 _) (by omega) (by omega) (size_alloc_drw hsz _) ?_; intro v3 w3 ho3 hg3; have HO3 := Lib.hid (own_esc ho3 HX5.out); have HB3 := Lib.hid (grown_row (HB.out.trans ((grows2 wr _).mono hsz)) (own_alloc_drew HO.out _) (Nat.le_refl _) (size_alloc_drw hsz _) hg3); clear ho3 hg3))
              all_goals
                clear a1 a2 a3 a4 a5
                go_wp2_with fail
                go_roundw
                case rel => exact ⟨k + 4, n + 1, acc ++ [UInt8.ofNat (16 * x + y)], by omega, by omega, by go_num, by omega, Lib.hid (by rw [HN.out]; simp), HQX.out, HO3.out, HB3.out⟩
                case measure => simp [RowKit.intOf]; omega
            all_goals
              clear h34 h92
              try clear h120
              try clear hd2
              try clear hd3
              try clear g2 g3
              go_wp2_with (first | (go_at_call 40; (first | (with_reducible refine (D2.out _).mono ?_) | (with_reducible refine (D3.out _).mono ?_)); rintro e w9 ⟨rfl, rfl⟩) | (at_builtin; go_must (refine wpList_append_src rfl (.tmp 104) (.tmp 109) 39 rfl w.heap.size 5 (.int .u8 0) 1 Tryd.underlying39 info_byte rfl _ n _ rfl (HO.out.alloc _) _ 1 1 [.int .u8 (s[k + 1].toNat : Int)] rfl (src_new _ _ _) (by intro u hu; simp at hu; subst hu; rfl) (by omega) (by omega) (by simp; omega) ?_); intro v7 w7 ho7 hg7; have eb := one_cells acc s[k + 1]; rw [eb] at ho7; have HO7 := Lib.hid ho7; have HB7 := Lib.hid (grown_row (HB.out.alloc hsz _) (HO.out.alloc _) (Nat.le_refl _) (by simp; omega) hg7); clear ho7 hg7 eb))
              go_wp2_with fail
              go_roundw
              case rel => exact ⟨k + 2, n + 1, acc ++ [s[k + 1]], by omega, by omega, by go_num, by omega, Lib.hid (by rw [HN.out]; simp), HQ2.out, HO7.out, HB7.out⟩
              case measure => simp [RowKit.intOf]; omega
          · have t3 : decide ((k : Int) + 3 < (s.size : Int)) = false := decide_eq_false (by omega)
            have t4 : decide ((k : Int) + 1 < (s.size : Int)) = false := decide_eq_false (by omega)
            have HQ1 := Lib.hid (HQ.out.skip hlt h92 h1)
            clear h34 h92
            go_wp2_with fail
            go_roundw
            case rel => exact ⟨k + 1, n, acc, by omega, by omega, by go_num, by omega, HN, HQ1.out, HO.out, HB.out⟩
            case measure => simp [RowKit.intOf]; omega
        · have t2 : ((s[k].toNat : Int) != 92) = true := bne_iff_ne.2 fun e => h92 (UInt8.toNat_inj.1 (by show s[k].toNat = 92; omega))
          have HQ1 := Lib.hid (HQ.out.one hlt h34 h92)
          clear h34 h92
          go_wp2_with (at_builtin; go_must (refine wpList_append_src rfl (.tmp 45) (.tmp 49) 39 rfl w.heap.size 5 (.int .u8 0) 1 Tryd.underlying39 info_byte rfl _ n _ rfl (HO.out.alloc _) _ 1 1 [.int .u8 (s[k].toNat : Int)] rfl (src_new _ _ _) (by intro u hu; simp at hu; subst hu; rfl) (by omega) (by omega) (by simp; omega) ?_); intro v7 w7 ho7 hg7; have eb := one_cells acc s[k]; rw [eb] at ho7; have HO7 := Lib.hid ho7; have HB7 := Lib.hid (grown_row (HB.out.alloc hsz _) (HO.out.alloc _) (Nat.le_refl _) (by simp; omega) hg7); clear ho7 hg7 eb)
          go_wp2_with fail
          go_roundw
          case rel => exact ⟨k + 1, n + 1, acc ++ [s[k]], by omega, by omega, by go_num, by omega, Lib.hid (by rw [HN.out]; simp), HQ1.out, HO7.out, HB7.out⟩
          case measure => simp [RowKit.intOf]; omega
    · obtain rfl : k = s.size := by omega
      obtain ⟨q, hq⟩ : ∃ q, q = min (s.size + 1) s.size := ⟨_, rfl⟩
      have hmin : min ((s.size : Int) + 1) (s.size : Int) = (q : Int) := by omega
      have HV := Lib.hid (quo_ret HQ.out (fun h => absurd h hlt) HP.out hq)
      have hcv := conv_own HO.out
      clear hq
      go_wp2_with fail
      go_ret2
      rw [← HV.out]
      exact ⟨rfl, HB.out⟩
end Go.Proofs.YtaoekpedjgnnjaaDoor.Wd
