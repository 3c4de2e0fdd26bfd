/- The walk of the law on words' numbers there and back. -/
import Derived.Test.YtoepejokkfhiaaaGreatDoorWdV
import Derived.Test.YtoepejokkfhiaaaGreatDoorSm2
import Derived.Deep.QuietTactic
import Derived.BigQuiet
import Derived.Lib.ItoaLen
namespace Go.Proofs.YtoepejokkfhiaaaGreatDoor.Wd
open Go.ChangeShapes Go.WideShapes Go.ChangeAt Go.RowKit Own Bld Go.Lib Nums wordsSmalls

theorem sat16_sat16 (n : Int) : sat16 (sat16 n) = sat16 n := by unfold sat16; omega
theorem wrap16_wrap16 (n : Int) : IntKind.i16.wrap (IntKind.i16.wrap n) = IntKind.i16.wrap n := by rw [wrap_i16, wrap_i16]; omega
theorem wrap8_bd (n : Int) : -128 ≤ IntKind.i8.wrap n ∧ IntKind.i8.wrap n ≤ 127 := by rw [wrap_i8]; omega
theorem wrap16_bd (n : Int) : -32768 ≤ IntKind.i16.wrap n ∧ IntKind.i16.wrap n ≤ 32767 := by rw [wrap_i16]; omega
theorem tmod_of {a m : Int} (hm : 0 < m) (h : a % m = 0) : a.tmod m = 0 := by
  obtain ⟨h1, h2, h3⟩ := tm_bd a m hm
  exact Int.tmod_eq_zero_of_dvd (Int.dvd_of_emod_eq_zero h)
theorem rem8 (n : Int) : (wrap64 (n - IntKind.i8.wrap n)).tmod 256 = 0 := tmod_of (by omega) (by unfold wrap64; rw [wrap_i8]; omega)
theorem rem16 (n : Int) : (wrap64 (n - IntKind.i16.wrap n)).tmod 65536 = 0 := tmod_of (by omega) (by unfold wrap64; rw [wrap_i16]; omega)
theorem dec_len (n : Int) (h0 : -9223372036854775808 ≤ n) (h1 : n ≤ 9223372036854775807) : (decS n).size ≤ 281474976710656 := by
  have h := Lib.itoa_length_le n h0 h1
  have e : (decS n).size = (Lib.itoa n).length := rfl
  omega

theorem info_i8 : (Tryz.prog.info? 25).map (fun i => (i.zero, i.size, i.bytes)) = some (some (.int .i8 0), 1, 1) := by kernel_rfl
def vals (xs : List Int) : List Value := xs.map (Value.int .i8)
theorem vals_one (xs : List Int) : ∀ u ∈ vals xs, u.oneCell' = true := by
  intro u hu
  obtain ⟨x, _, rfl⟩ := List.mem_map.1 hu
  rfl
theorem vals_len (xs : List Int) : (vals xs).length = xs.length := List.length_map ..
theorem vals_at (xs : List Int) (i : Nat) (h : i < xs.length) : (vals xs)[i]? = some (.int .i8 (xs.getD i 0)) := by
  unfold vals
  rw [List.getElem?_map, List.getElem?_eq_getElem h]
  simp [h]
/-- The least and the greatest of the first one and the k first ones. -/
def loL (xs : List Int) : Nat → Int
  | 0 => xs.getD 0 0
  | k + 1 => min (loL xs k) (xs.getD k 0)
def hiL (xs : List Int) : Nat → Int
  | 0 => xs.getD 0 0
  | k + 1 => max (hiL xs k) (xs.getD k 0)
theorem lo_bd {xs : List Int} (h : Small xs) (hx : 0 < xs.length) : ∀ k, k ≤ xs.length → -128 ≤ loL xs k ∧ loL xs k ≤ 127
  | 0, _ => h 0 hx
  | k + 1, hk => by
    have := lo_bd h hx k (by omega)
    have := h k (by omega)
    unfold loL
    omega
theorem hi_bd {xs : List Int} (h : Small xs) (hx : 0 < xs.length) : ∀ k, k ≤ xs.length → -128 ≤ hiL xs k ∧ hiL xs k ≤ 127
  | 0, _ => h 0 hx
  | k + 1, hk => by
    have := hi_bd h hx k (by omega)
    have := h k (by omega)
    unfold hiL
    omega
theorem lo_mono (xs : List Int) (k : Nat) : ∀ j, loL xs (k + j) ≤ loL xs k
  | 0 => Int.le_refl _
  | j + 1 => by
    have := lo_mono xs k j
    show min (loL xs (k + j)) _ ≤ _
    omega
theorem hi_mono (xs : List Int) (k : Nat) : ∀ j, hiL xs k ≤ hiL xs (k + j)
  | 0 => Int.le_refl _
  | j + 1 => by
    have := hi_mono xs k j
    show _ ≤ max (hiL xs (k + j)) _
    omega
theorem lo_at (xs : List Int) (k n : Nat) (h : k < n) : loL xs n ≤ xs.getD k 0 := by
  have := lo_mono xs (k + 1) (n - (k + 1))
  rw [Nat.add_sub_cancel' h] at this
  have h2 : loL xs (k + 1) ≤ xs.getD k 0 := by unfold loL; omega
  omega
theorem hi_at (xs : List Int) (k n : Nat) (h : k < n) : xs.getD k 0 ≤ hiL xs n := by
  have := hi_mono xs (k + 1) (n - (k + 1))
  rw [Nat.add_sub_cancel' h] at this
  have h2 : xs.getD k 0 ≤ hiL xs (k + 1) := by unfold hiL; omega
  omega
theorem sum_lo (xs : List Int) (n : Nat) (b : Int) (h : ∀ k, k < n → b ≤ xs.getD k 0) : ∀ k, k ≤ n → b * (k : Int) ≤ sumTo xs k
  | 0, _ => by simp [sumTo]
  | k + 1, hk => by
    have h1 := sum_lo xs n b h k (by omega)
    have h2 := h k (by omega)
    have e : b * ((k + 1 : Nat) : Int) = b * (k : Int) + b := by rw [Int.natCast_succ, Int.mul_add, Int.mul_one]
    rw [e]
    simp only [sumTo]
    omega
theorem sum_hi (xs : List Int) (n : Nat) (b : Int) (h : ∀ k, k < n → xs.getD k 0 ≤ b) : ∀ k, k ≤ n → sumTo xs k ≤ b * (k : Int)
  | 0, _ => by simp [sumTo]
  | k + 1, hk => by
    have h1 := sum_hi xs n b h k (by omega)
    have h2 := h k (by omega)
    have e : b * ((k + 1 : Nat) : Int) = b * (k : Int) + b := by rw [Int.natCast_succ, Int.mul_add, Int.mul_one]
    rw [e]
    simp only [sumTo]
    omega
theorem mean_in (xs : List Int) (hx : 0 < xs.length) : loL xs xs.length ≤ mean xs ∧ mean xs ≤ hiL xs xs.length := by
  have h1 := sum_lo xs xs.length _ (fun k hk => lo_at xs k xs.length hk) xs.length (Nat.le_refl _)
  have h2 := sum_hi xs xs.length _ (fun k hk => hi_at xs k xs.length hk) xs.length (Nat.le_refl _)
  unfold mean
  exact ⟨(Int.le_ediv_iff_mul_le (by omega)).2 h1, Int.ediv_le_of_le_mul (by omega) h2⟩

set_option maxRecDepth 100000 in
set_option maxHeartbeats 4000000 in
theorem turns_any (n : Int) (u : Nat) (A : Option Addr) (c : Nat) (xs : List Int) (w : World) (h0 : -9223372036854775808 ≤ n) (h1 : n ≤ 9223372036854775807) (hu : u < 18446744073709551616) (hx : xs.length ≤ 140737488355328) (hs : Small xs) (hA : Src w A xs.length c (vals xs)) (he : En w) (hv : Vars w) :
    Calls Tryz.prog 6 #[.int .i64 n, .int .u64 u, .slice A xs.length c] w fun e w' => e = .returned (.bool true) ∧ Below w.heap.size w w' := by
  have HE := Lib.hid he
  have HV := Lib.hid hv
  have HS := Lib.hid hs
  have HSRC := Lib.hid hA
  have HDL := Lib.hid (dec_len n h0 h1)
  clear he hv hs hA
  obtain ⟨a8, a8e⟩ : ∃ x, sat8 n = x := ⟨_, rfl⟩
  obtain ⟨b8, b8e⟩ : ∃ x, IntKind.i8.wrap n = x := ⟨_, rfl⟩
  obtain ⟨a16, a16e⟩ : ∃ x, sat16 n = x := ⟨_, rfl⟩
  obtain ⟨b16, b16e⟩ : ∃ x, IntKind.i16.wrap n = x := ⟨_, rfl⟩
  have b8d := wrap8_bd n
  have b16d := wrap16_bd n
  have r8 := rem8 n
  have r16 := rem16 n
  have s16 := sat16_sat16 n
  have w16 := wrap16_wrap16 n
  rw [b8e] at b8d r8
  rw [b16e] at b16d r16 w16
  rw [a16e] at s16
  have a16d : -32768 ≤ a16 ∧ a16 ≤ 32767 := by unfold sat16 at a16e; omega
  have C8 : Hid (∀ W, Calls Tryz.prog 11 #[.int .i64 n] W fun e w' => e = .returned (.int .i8 a8) ∧ W = w') := Lib.hid fun W => by rw [← a8e]; exact sat8_any n W h0 h1
  have D8 : Hid (∀ W, Calls Tryz.prog 10 #[.int .i64 n] W fun e w' => e = .returned (.int .i8 b8) ∧ W = w') := Lib.hid fun W => by rw [← b8e]; exact wrap8_any n W
  have C16 : Hid (∀ W, Calls Tryz.prog 13 #[.int .i64 n] W fun e w' => e = .returned (.int .i16 a16) ∧ W = w') := Lib.hid fun W => by rw [← a16e]; exact sat16_any n W h0 h1
  have D16 : Hid (∀ W, Calls Tryz.prog 12 #[.int .i64 n] W fun e w' => e = .returned (.int .i16 b16) ∧ W = w') := Lib.hid fun W => by rw [← b16e]; exact wrap16_any n W
  have C16' : Hid (∀ W, Calls Tryz.prog 13 #[.int .i64 a16] W fun e w' => e = .returned (.int .i16 a16) ∧ W = w') := Lib.hid fun W => by
    have h := sat16_any a16 W (by omega) (by omega)
    rw [s16] at h
    exact h
  have D16' : Hid (∀ W, Calls Tryz.prog 12 #[.int .i64 b16] W fun e w' => e = .returned (.int .i16 b16) ∧ W = w') := Lib.hid fun W => by
    have h := wrap16_any b16 W
    rw [w16] at h
    exact h
  have K8 : Hid ((-128 ≤ n ∧ n ≤ 127 ∧ a8 = n ∧ b8 = n) ∨ (n < -128 ∧ a8 = -128) ∨ (127 < n ∧ a8 = 127)) := Lib.hid (by
    rw [wrap_i8] at b8e
    unfold sat8 at a8e
    omega)
  clear a8e b8e a16e b16e s16 w16
  obtain ⟨b8l, b8h⟩ := b8d
  obtain ⟨b16l, b16h⟩ := b16d
  obtain ⟨a16l, a16h⟩ := a16d
  have R8 := Lib.hid r8
  have R16 := Lib.hid r16
  clear r8 r16
  go_enter Tryz.func6, Tryz.ntmps6
  go_wp2_with fail
  refine (works_any _ HE.out HV.out).mono ?_
  rintro e w1 ⟨rfl, b1⟩
  have B1 := Lib.hid b1
  clear b1
  go_wp2_with fail
  refine (formatInt_any n h0 h1 _ (HV.out.below B1.out)).mono ?_
  rintro e w2 ⟨rfl, b2⟩
  have B2 := Lib.hid (B1.out.trans (b2.mono B1.out.size))
  clear b2 B1
  go_wp2_with fail
  refine (number_yes n h0 h1 HDL.out _ (HV.out.below B2.out)).mono ?_
  unfold numYes
  rintro e w3 ⟨rfl, b3⟩
  have B3 := Lib.hid (B2.out.trans (b3.mono B2.out.size))
  clear b3 B2
  go_wp2_with fail
  refine (digits_any u hu _ (HV.out.below B3.out)).mono ?_
  rintro e w4 ⟨rfl, b4⟩
  have B4 := Lib.hid (B3.out.trans (b4.mono B3.out.size))
  clear b4 B3
  go_wp2_with fail
  refine (hex_yes u hu _ (HV.out.below B4.out)).mono ?_
  unfold hexYes
  rintro e w5 ⟨rfl, b5⟩
  have B5 := Lib.hid (B4.out.trans (b5.mono B4.out.size))
  clear b5 B4
  have H5 := B5.out.size
  have q8 : (wrap64 (n - b8)).tmod 256 = 0 := R8.out
  have q16 : (wrap64 (n - b16)).tmod 65536 = 0 := R16.out
  have p8 : ((wrap64 (n - b8)).tmod 256 != 0) = false := by rw [q8]; rfl
  have p16 : ((wrap64 (n - b16)).tmod 65536 != 0) = false := by rw [q16]; rfl
  have t16 : -128 ≤ n ∧ n ≤ 127 → ((n - b16).tmod 65536 != 0) = false := fun h => by
    have h2 := R16.out
    unfold wrap64 at h2
    have e : (n - b16 + 9223372036854775808) % 18446744073709551616 - 9223372036854775808 = n - b16 := by omega
    rw [e] at h2
    rw [h2]; rfl
  rcases K8.out with ⟨k1, k2, k3, k4⟩ | ⟨k1, k3⟩ | ⟨k1, k3⟩
  case' inl => have t17 := t16 ⟨k1, k2⟩; clear t16
  case' inr.inl => have t17 : ((-128 : Int) == n) = false := beq_eq_false_iff_ne.2 (by omega); clear t16
  case' inr.inr => have t17 : ((127 : Int) == n) = false := beq_eq_false_iff_ne.2 (by omega); clear t16
  all_goals
    go_wp2_with (first | ((with_reducible refine (C8.out _).mono ?_); rintro e w6 ⟨rfl, rfl⟩) | ((with_reducible refine (D8.out _).mono ?_); rintro e w6 ⟨rfl, rfl⟩) | ((with_reducible refine (C16.out _).mono ?_); rintro e w6 ⟨rfl, rfl⟩) | ((with_reducible refine (D16.out _).mono ?_); rintro e w6 ⟨rfl, rfl⟩) | ((with_reducible refine (C16'.out _).mono ?_); rintro e w6 ⟨rfl, rfl⟩) | ((with_reducible refine (D16'.out _).mono ?_); rintro e w6 ⟨rfl, rfl⟩) | (at_builtin; go_must (refine wpList_append_src rfl (.tmp 109) (.tmp 110) 29 rfl w5.heap.size 25 (.int .i8 0) 1 Tryz.underlying29 info_i8 rfl _ 0 [] rfl (own_empty w5 25) A xs.length c (vals xs) rfl ((HSRC.out.below B5.out).below (grows w5 _)) (vals_one xs) (by omega) (by omega) (by simp) ?_); intro v1 w6 hown1 hg1))
    have B6 : Hid (Below w.heap.size w w6) := Lib.hid (B5.out.trans (((grows w5 _).grown hg1 (by simp) (by intro k hk; injection hk with hk; exact Nat.le_of_eq hk)).mono H5))
    clear hg1 t17 q8 q16 p8 p16 k1 k3
    try clear k2 k4
    simp only [Nat.zero_add, List.nil_append] at hown1
    obtain ⟨A1, c1, rfl, hs1⟩ := own_src hown1
    have S1 := Lib.hid hs1
    clear hown1 hs1
    by_cases hx0 : xs.length = 0
    · have hne : ((xs.length : Int) == 0) = true := beq_iff_eq.2 (by omega)
      have HX : Hid (xs.length = 0) := Lib.hid hx0
      rw [hx0]
      refine (mean_none A1 c1 _).mono ?_
      rintro e w7 ⟨rfl, rfl⟩
      go_wp2_with fail
      go_ret
      exact ⟨rfl, B6.out⟩
    · have hne : ((xs.length : Int) == 0) = false := beq_eq_false_iff_ne.2 (by omega)
      have hp : 0 < xs.length := by omega
      clear hx0
      obtain ⟨b1, o1, rfl, _, hc1⟩ := src_get' S1.out hp
      refine (mean_row b1 o1 c1 xs _ hp (by omega) HS.out (fun i hi => hc1 i _ (vals_at xs i hi))).mono ?_
      clear hc1
      rintro e w7 ⟨rfl, rfl⟩
      obtain ⟨b2, o2, rfl, _, hc2⟩ := src_get' (HSRC.out.below B6.out) hp
      have HC2 : Hid (∀ i, i < xs.length → w6.cell? ⟨b2, o2 + i, none⟩ = some (.int .i8 (xs.getD i 0))) := Lib.hid fun i hi => hc2 i _ (vals_at xs i hi)
      have e0 := HC2.out 0 hp
      have e0' : w6.cell? ⟨b2, o2, none⟩ = some (.int .i8 (xs.getD 0 0)) := e0
      clear hc2
      obtain ⟨m1, m2⟩ := mean_bd HS.out hp
      have HMI := Lib.hid (mean_in xs hp)
      generalize mean xs = mn at m1 m2 HMI ⊢
      obtain ⟨z1, z2⟩ := HS.out 0 hp
      have HLO : Hid (loL xs 0 = xs.getD 0 0 ∧ hiL xs 0 = xs.getD 0 0) := Lib.hid ⟨rfl, rfl⟩
      generalize xs.getD 0 0 = z at e0 e0' z1 z2 HLO
      go_wp2_with fail
      go_quiet (fail)
      go_wp2_with fail
      go_loopw [13, 14, 15] (fun lo hi i wr => ∃ k : Nat, k ≤ xs.length ∧ lo = .int .i8 (loL xs k) ∧ hi = .int .i8 (hiL xs k) ∧ i = .int .i64 k ∧ (∀ i, i < xs.length → wr.cell? ⟨b2, o2 + i, none⟩ = some (.int .i8 (xs.getD i 0))) ∧ Below w.heap.size w wr) (fun _ _ i _ => xs.length - (RowKit.intOf i).toNat)
      case atStart => exact ⟨0, Nat.zero_le _, by rw [HLO.out.1], by rw [HLO.out.2], rfl, fun i hi => HC2.out i hi, below_drewN' B6.out _⟩
      case round =>
        obtain ⟨k, hk, rfl, rfl, rfl, hcell, hbw⟩ := hrel
        have HCE := Lib.hid hcell
        have HBW := Lib.hid hbw
        clear hcell hbw
        obtain ⟨l1, l2⟩ := lo_bd HS.out hp k hk
        obtain ⟨g1, g2⟩ := hi_bd HS.out hp k hk
        by_cases hlt : k < xs.length
        · have e1 := HCE.out k hlt
          obtain ⟨x1, x2⟩ := HS.out k hlt
          have HLS : Hid (loL xs (k + 1) = min (loL xs k) (xs.getD k 0)) := Lib.hid rfl
          have HHS : Hid (hiL xs (k + 1) = max (hiL xs k) (xs.getD k 0)) := Lib.hid rfl
          generalize xs.getD k 0 = x at e1 x1 x2 HLS HHS
          generalize loL xs k = lo at l1 l2 HLS
          generalize hiL xs k = hi at g1 g2 HHS
          clear e0 e0' z1 z2 HLO
          go_wp2_with fail
          go_roundw
          case rel => exact ⟨k + 1, by omega, by rw [HLS.out], by rw [HHS.out], by go_num, HCE.out, HBW.out⟩
          case measure => simp [RowKit.intOf]; omega
        · obtain rfl : k = xs.length := by omega
          obtain ⟨y1, y2⟩ := HMI.out
          generalize loL xs xs.length = lo at l1 l2 y1
          generalize hiL xs xs.length = hi at g1 g2 y2
          clear e0 e0' z1 z2 HLO
          go_wp2_with fail
          go_ret
          exact ⟨rfl, HBW.out⟩
end Go.Proofs.YtoepejokkfhiaaaGreatDoor.Wd
