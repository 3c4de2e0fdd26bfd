/- Kids: the document looks to the list's end, the program to the end of what is beneath the node. -/
import Derived.Test.YtfafhkhamaccfaaTaE
namespace Go.Proofs.Ytfafhkhamaccfaa.Tr
open Go.ChangeShapes Go.WideShapes Go.ChangeAt Go.RowKit Own wordsNames

/-- The kids of i among the nodes behind it, ahead of k. -/
def kidsTo (L : List Nd) (i k : Nat) : List Nat := (List.range k).filter fun j => decide (i < j ∧ (L.getD j nd0).parent = (i : Int))
theorem kidsTo_start (L : List Nd) (i : Nat) : kidsTo L i (i + 1) = [] := by
  unfold kidsTo
  rw [List.filter_eq_nil_iff]
  intro j hj
  have := List.mem_range.1 hj
  simp
  omega
theorem kidsTo_yes {L : List Nd} {i k : Nat} (h1 : i < k) (h : (L.getD k nd0).parent = (i : Int)) : kidsTo L i (k + 1) = kidsTo L i k ++ [k] := by
  unfold kidsTo
  rw [List.range_succ, List.filter_append, List.filter_cons_of_pos (by rw [decide_eq_true_eq]; exact ⟨h1, h⟩), List.filter_nil]
theorem kidsTo_no {L : List Nd} {i k : Nat} (h : (L.getD k nd0).parent ≠ (i : Int)) : kidsTo L i (k + 1) = kidsTo L i k := by
  unfold kidsTo
  rw [List.range_succ, List.filter_append, List.filter_cons_of_neg (by rw [decide_eq_true_eq]; exact fun e => h e.2), List.filter_nil, List.append_nil]
theorem kidsTo_len (L : List Nd) (i k : Nat) : (kidsTo L i k).length ≤ k := by
  have h := List.length_filter_le (fun j => decide (i < j ∧ (L.getD j nd0).parent = (i : Int))) (List.range k)
  rw [List.length_range] at h
  exact h
theorem not_above {L : List Nd} {n i e : Nat} (hn : ∀ k, k < n → nextOk L k) (he : EndAt L n i e) : ∀ (d : Nat), e + d < n → i ∉ aboveN L (e + d)
  | 0, hk => by
    have hb := next_behind hn
    obtain ⟨h1, h2, h3, h4⟩ := he
    rw [Nat.add_zero] at hk ⊢
    intro hm
    rw [above_step L n hb e hk] at hm
    rcases List.mem_cons.1 hm with h | hm
    · omega
    · split at hm
      · cases hm
      · have h5 := hb e hk
        have := above_le L n hb _ _ (Nat.le_refl _) (by omega) i hm
        rcases h4 with h4 | h4 <;> omega
  | d + 1, hk => by
    have hb := next_behind hn
    have ih := not_above hn he d (by omega)
    intro hm
    obtain ⟨_, _, h5⟩ := hn (e + (d + 1)) hk
    rw [if_neg (by omega)] at h5
    obtain ⟨_, p0, p1, p2, _⟩ := h5
    rw [above_step L n hb _ hk] at hm
    rcases List.mem_cons.1 hm with h | hm
    · have := he.1; omega
    · rw [if_neg (by omega)] at hm
      obtain ⟨pre, h6, _⟩ := above_part L n hb _ (e + (d + 1) - 1) (Nat.le_refl _) (by omega) _ p2
      rw [show e + (d + 1) - 1 = e + d by omega] at h6
      exact ih (by rw [h6]; exact List.mem_append_right _ hm)
theorem no_kid {L : List Nd} {n i e k : Nat} (hn : ∀ k, k < n → nextOk L k) (he : EndAt L n i e) (h1 : e ≤ k) (h2 : k < n) : (L.getD k nd0).parent ≠ (i : Int) := by
  intro hp
  have h3 := not_above hn he (k - e) (by omega)
  rw [show e + (k - e) = k by omega, above_step L n (next_behind hn) k h2, if_neg (by omega), hp, Int.toNat_natCast] at h3
  exact h3 (List.mem_cons_of_mem _ (above_self L i))
theorem kids_end {L : List Nd} {n i e : Nat} (hn : ∀ k, k < n → nextOk L k) (he : EndAt L n i e) : ∀ (d : Nat), e + d ≤ n → kidsTo L i (e + d) = kidsTo L i e
  | 0, _ => rfl
  | d + 1, h => by rw [← Nat.add_assoc, kidsTo_no (no_kid hn he (by omega) (by omega)), kids_end hn he d (by omega)]
theorem kids_all {L : List Nd} {n i e : Nat} (hn : ∀ k, k < n → nextOk L k) (he : EndAt L n i e) : kidsTo L i n = kidsTo L i e := by
  have := kids_end hn he (n - e) (by have := he.2.1; omega)
  rwa [show e + (n - e) = n by have := he.2.1; omega] at this
theorem pl_next {L : List Nd} {i er : Int} (h : Pl L i er) (he : er = 0) : ∀ k, k < L.length → nextOk L k := by
  obtain ⟨i0, e0, hch, ⟨_, h⟩ | ⟨_, _, h⟩ | ⟨h0, h1, h2, h⟩⟩ := h
  · omega
  · omega
  · rcases hch with ⟨_, _, _, e⟩ | ⟨_, _, e⟩ | ⟨_, hk, _, _⟩
    · omega
    · omega
    · exact hk
/-- What Kids says. -/
def kidsV (L : List Nd) (i er : Int) : List Nat := if er = 0 then kidsTo L i.toNat L.length else []
theorem kidsV_bad (L : List Nd) (i : Int) {er : Int} (h : er ≠ 0) : kidsV L i er = [] := if_neg h
theorem kidsV_len (L : List Nd) (i er : Int) : (kidsV L i er).length ≤ L.length := by
  unfold kidsV
  split
  · exact kidsTo_len _ _ _
  · exact Nat.zero_le _
theorem own_low {w : World} {base b' : Nat} {e : TypeId} {v : Value} {n : Nat} {xs : List Value} (h : w.ownsRow b' e 1 v n xs) (hb : base ≤ b') : w.ownsRow base e 1 v n xs := by
  refine ⟨h.1, ?_⟩
  rcases h.2 with h0 | ⟨g, cap, cur, hv, hg, hr⟩
  · exact .inl h0
  · exact .inr ⟨g, cap, cur, hv, Nat.le_trans hb hg, hr⟩
def MadeE (ks : List Nat) (er : Int) (w : World) (e : Ending) (w' : World) : Prop :=
  ∃ A n c, n = ks.length ∧ e = .returned (.tuple #[.slice A n c, .int .i64 er]) ∧ w'.ownsRow w.heap.size 3 1 (.slice A n c) n (nums ks) ∧ Below w.heap.size w w'
set_option maxHeartbeats 2000000 in
theorem refKidsOf_any (A : Option Addr) (c n i : Nat) (L : List Nd) (R : List Sl) (w : World) (hi : i < n) (hnb : n ≤ 16777216) (hA : NodesIn w A n L R) :
    Calls Try.prog 22 #[.slice A n c, .int .i64 (i : Int)] w (MadeN (kidsTo L i n) w) := by
  have GA := Lib.hid hA
  clear hA
  go_enter Try.func22, Try.ntmps22
  go_wp2_with fail
  go_loopw [5, 6] (fun v5 v6 wr => ∃ (k m : Nat), i < k ∧ k ≤ n ∧ m ≤ k ∧ v6 = .int .i64 (k : Int) ∧ Hid (m = (kidsTo L i k).length) ∧ wr.ownsRow w.heap.size 3 1 v5 m (nums (kidsTo L i k)) ∧ Below w.heap.size w wr) (fun _ v6 _ => n - (RowKit.intOf v6).toNat)
  case atStart => exact ⟨i + 1, 0, by omega, by omega, by omega, by go_num, Lib.hid (by rw [kidsTo_start]; rfl), by rw [kidsTo_start]; exact own_nil w _ _, Below.refl _ _⟩
  case round =>
    obtain ⟨k, m, hik, hk, hmk, rfl, HM, hown, hbw⟩ := hrel
    have HO := Lib.hid hown
    have HB := Lib.hid hbw
    have hsz := hbw.size
    clear hown hbw
    by_cases hkn : k < n
    · obtain ⟨b, o, rfl, hbs, hc⟩ := (GA.out.below HB.out).at (by omega)
      have e0 := (hc k hkn).1.1
      have HY := Lib.hid (kidsTo_yes (L := L) hik)
      have HNO := Lib.hid (kidsTo_no (L := L) (i := i) (k := k))
      clear hc
      generalize (L.getD k nd0).parent = z at e0 HY HNO
      have t0 : decide ((k : Int) < (n : Int)) = true := decide_eq_true (by omega)
      have k1 : (0 : Int) ≤ (k : Int) := by omega
      have k2 : (k : Int) < (n : Int) := by omega
      by_cases hz : z = (i : Int)
      · have t1 : (z == (i : Int)) = true := beq_iff_eq.2 hz
        have HK := Lib.hid (HY.out hz)
        clear hz
        go_wp2_with (at_builtin; go_must (refine wpList_append_src rfl (.tmp 22) (.tmp 24) 29 rfl w.heap.size 3 (.int .i64 0) 8 Try.underlying29 info_int rfl _ m (nums (kidsTo L i k)) rfl (HO.out.alloc _) _ 1 1 [.int .i64 (k : Int)] rfl (src_new _ _ _) (by intro u hu; simp at hu; subst hu; rfl) (by omega) (by omega) (by simp; omega) ?_); intro v3 w3 ho3 hg3; rw [nums_snoc, ← HK.out] at ho3; have O3 := Lib.hid ho3; have B3 := Lib.hid (below_grown' HB.out hsz HO.out (Nat.le_refl _) hg3); clear ho3 hg3)
        go_wp2_with fail
        go_roundw
        case rel => exact ⟨k + 1, m + 1, by omega, by omega, by omega, by go_num, Lib.hid (by rw [HK.out, HM.out]; simp), O3.out, B3.out⟩
        case measure => simp [RowKit.intOf]; omega
      · have t1 : (z == (i : Int)) = false := beq_eq_false_iff_ne.2 hz
        have HK := Lib.hid (HNO.out hz)
        clear hz
        go_wp2_with fail
        go_roundw
        case rel => exact ⟨k + 1, m, by omega, by omega, by omega, by go_num, Lib.hid (by rw [HK.out, HM.out]), by rw [HK.out]; exact HO.out, HB.out⟩
        case measure => simp [RowKit.intOf]; omega
    · obtain rfl : n = k := by omega
      have t0 : decide ((n : Int) < (n : Int)) = false := decide_eq_false (by omega)
      obtain ⟨A1, c1, rfl, _⟩ := own_src HO.out
      go_wp2_with fail
      go_ret
      exact ⟨A1, m, c1, HM.out, rfl, HO.out, HB.out⟩
set_option maxHeartbeats 2000000 in
theorem kidsOf_any (A : Option Addr) (c n i : Nat) (L : List Nd) (R : List Sl) (w : World) (hi : i < n) (hnb : n ≤ 16777216) (hn : ∀ k, k < n → nextOk L k) (hA : NodesIn w A n L R) :
    Calls Try.prog 21 #[.slice A n c, .int .i64 (i : Int)] w (MadeN (kidsTo L i n) w) := by
  have HE := Lib.hid (endOf_any A c n i L R w hi hnb hA)
  have GA := Lib.hid hA
  clear hA
  go_enter Try.func21, Try.ntmps21
  go_wp2_with fail
  refine HE.out.mono ?_
  rintro e w2 ⟨z0, rfl, hz, hb⟩
  have HB0 := Lib.hid hb
  have HKZ := Lib.hid (kids_all hn hz)
  have hz1 := hz.1
  have hz2 := hz.2.1
  clear hz hb hn
  go_wp2_with fail
  go_loopw [5, 7] (fun v5 v6 wr => ∃ (k m : Nat), i < k ∧ k ≤ z0 ∧ m ≤ k ∧ v6 = .int .i64 (k : Int) ∧ Hid (m = (kidsTo L i k).length) ∧ wr.ownsRow w.heap.size 3 1 v5 m (nums (kidsTo L i k)) ∧ Below w.heap.size w wr) (fun _ v6 _ => z0 - (RowKit.intOf v6).toNat)
  case atStart => exact ⟨i + 1, 0, by omega, by omega, by omega, by go_num, Lib.hid (by rw [kidsTo_start]; rfl), by rw [kidsTo_start]; exact own_nil w2 _ _, HB0.out⟩
  case round =>
    obtain ⟨k, m, hik, hk, hmk, rfl, HM, hown, hbw⟩ := hrel
    have HO := Lib.hid hown
    have HB := Lib.hid hbw
    have hsz := hbw.size
    clear hown hbw
    by_cases hkn : k < z0
    · obtain ⟨b, o, rfl, hbs, hc⟩ := (GA.out.below HB.out).at (by omega)
      have e0 := (hc k (by omega)).1.1
      have HY := Lib.hid (kidsTo_yes (L := L) hik)
      have HNO := Lib.hid (kidsTo_no (L := L) (i := i) (k := k))
      clear hc
      generalize (L.getD k nd0).parent = z at e0 HY HNO
      have t0 : decide ((k : Int) < (z0 : Int)) = true := decide_eq_true (by omega)
      have k1 : (0 : Int) ≤ (k : Int) := by omega
      have k2 : (k : Int) < (n : Int) := by omega
      by_cases hz : z = (i : Int)
      · have t1 : (z == (i : Int)) = true := beq_iff_eq.2 hz
        have HK := Lib.hid (HY.out hz)
        clear hz
        go_wp2_with (at_builtin; go_must (refine wpList_append_src rfl (.tmp 25) (.tmp 27) 29 rfl w.heap.size 3 (.int .i64 0) 8 Try.underlying29 info_int rfl _ m (nums (kidsTo L i k)) rfl (HO.out.alloc _) _ 1 1 [.int .i64 (k : Int)] rfl (src_new _ _ _) (by intro u hu; simp at hu; subst hu; rfl) (by omega) (by omega) (by simp; omega) ?_); intro v3 w3 ho3 hg3; rw [nums_snoc, ← HK.out] at ho3; have O3 := Lib.hid ho3; have B3 := Lib.hid (below_grown' HB.out hsz HO.out (Nat.le_refl _) hg3); clear ho3 hg3)
        go_wp2_with fail
        go_roundw
        case rel => exact ⟨k + 1, m + 1, by omega, by omega, by omega, by go_num, Lib.hid (by rw [HK.out, HM.out]; simp), O3.out, B3.out⟩
        case measure => simp [RowKit.intOf]; omega
      · have t1 : (z == (i : Int)) = false := beq_eq_false_iff_ne.2 hz
        have HK := Lib.hid (HNO.out hz)
        clear hz
        go_wp2_with fail
        go_roundw
        case rel => exact ⟨k + 1, m, by omega, by omega, by omega, by go_num, Lib.hid (by rw [HK.out, HM.out]), by rw [HK.out]; exact HO.out, HB.out⟩
        case measure => simp [RowKit.intOf]; omega
    · obtain rfl : z0 = k := by omega
      have t0 : decide ((z0 : Int) < (z0 : Int)) = false := decide_eq_false (by omega)
      obtain ⟨A1, c1, rfl, _⟩ := own_src HO.out
      go_wp2_with fail
      go_ret
      rw [HKZ.out]
      exact ⟨A1, m, c1, HM.out, rfl, HO.out, HB.out⟩
set_option maxHeartbeats 2000000 in
theorem refKids_any (A : Option Addr) (c n : Nat) (L : List Nd) (R : List Sl) (i er : Int) (w : World) (hp : Pl L i er) (hm : Mild L) (hA : NodesIn w A n L R) :
    Calls Try.prog 10 #[.slice A n c, .int .i64 i] w (MadeE (kidsV L i er) er w) := by
  have HW := Lib.hid (wrong_any A c n L R i er w hp hm hA)
  rcases pl_err hp with rfl | rfl | ⟨rfl, h1, h2, _⟩
  case' inr.inr =>
    obtain ⟨j, rfl⟩ : ∃ j : Nat, i = (j : Int) := ⟨i.toNat, by omega⟩
    have hn := hA.1
    subst hn
    have hnb : L.length ≤ 16777216 := hm.1
    have HA := Lib.hid fun (W : World) (hW : Below w.heap.size w W) => refKidsOf_any A c L.length j L R W (by omega) hnb (hA.below hW)
    have HV : Hid (kidsV L (j : Int) 0 = kidsTo L j L.length) := Lib.hid (by unfold kidsV; rw [if_pos rfl, Int.toNat_natCast])
    clear hp hm hA h1 h2
    go_enter Try.func10, Try.ntmps10
    go_wp2_with fail
    refine HW.out.mono ?_
    rintro e w2 ⟨rfl, hb⟩
    have HB := Lib.hid hb
    clear hb
    go_wp2_with fail
    refine (HA.out _ HB.out).mono ?_
    rintro e w3 ⟨A2, m, c2, hm, rfl, ho, hb3⟩
    have HB3 := Lib.hid (bt HB.out hb3)
    have HM := Lib.hid hm
    have HO := Lib.hid (own_low ho HB.out.size)
    clear hm hb3 ho
    go_wp2_with fail
    go_ret2
    rw [HV.out]
    exact ⟨A2, m, c2, HM.out, rfl, HO.out, HB3.out⟩
  all_goals
    rw [kidsV_bad L i (by omega)]
    clear hp hm hA
    go_enter Try.func10, Try.ntmps10
    go_wp2_with fail
    refine HW.out.mono ?_
    rintro e w2 ⟨rfl, hb⟩
    go_wp2_with fail
    go_ret2
    exact ⟨none, 0, 0, rfl, rfl, own_nil _ _ _, hb⟩
set_option maxHeartbeats 2000000 in
theorem tKids_any (A : Option Addr) (c n : Nat) (L : List Nd) (R : List Sl) (i er : Int) (w : World) (hp : Pl L i er) (hm : Mild L) (hw : Wf L) (hcp : Caps R) (hA : NodesIn w A n L R) :
    Calls Try.prog 9 #[.slice A n c, .int .i64 i] w (MadeE (kidsV L i er) er w) := by
  have HW := Lib.hid (place_any A c n L R i er w hp hm hw hcp hA)
  rcases pl_err hp with rfl | rfl | ⟨rfl, h1, h2, _⟩
  case' inr.inr =>
    obtain ⟨j, rfl⟩ : ∃ j : Nat, i = (j : Int) := ⟨i.toNat, by omega⟩
    have hn := hA.1
    subst hn
    have hnb : L.length ≤ 16777216 := hm.1
    have HA := Lib.hid fun (W : World) (hW : Below w.heap.size w W) => kidsOf_any A c L.length j L R W (by omega) hnb (pl_next hp rfl) (hA.below hW)
    have HV : Hid (kidsV L (j : Int) 0 = kidsTo L j L.length) := Lib.hid (by unfold kidsV; rw [if_pos rfl, Int.toNat_natCast])
    clear hp hm hA h1 h2
    go_enter Try.func9, Try.ntmps9
    go_wp2_with fail
    refine HW.out.mono ?_
    rintro e w2 ⟨rfl, hb⟩
    have HB := Lib.hid hb
    clear hb
    go_wp2_with fail
    refine (HA.out _ HB.out).mono ?_
    rintro e w3 ⟨A2, m, c2, hm, rfl, ho, hb3⟩
    have HB3 := Lib.hid (bt HB.out hb3)
    have HM := Lib.hid hm
    have HO := Lib.hid (own_low ho HB.out.size)
    clear hm hb3 ho
    go_wp2_with fail
    go_ret2
    rw [HV.out]
    exact ⟨A2, m, c2, HM.out, rfl, HO.out, HB3.out⟩
  all_goals
    rw [kidsV_bad L i (by omega)]
    clear hp hm hA
    go_enter Try.func9, Try.ntmps9
    go_wp2_with fail
    refine HW.out.mono ?_
    rintro e w2 ⟨rfl, hb⟩
    go_wp2_with fail
    go_ret2
    exact ⟨none, 0, 0, rfl, rfl, own_nil _ _ _, hb⟩
end Go.Proofs.Ytfafhkhamaccfaa.Tr
