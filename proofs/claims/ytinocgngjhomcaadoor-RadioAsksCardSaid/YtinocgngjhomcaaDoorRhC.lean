/- The law RadioHops (P12.6). -/
import Derived.Test.YtinocgngjhomcaaDoorRhB
namespace Go.Proofs.YtinocgngjhomcaaDoor.Rh
open Go.ChangeShapes Go.WideShapes Go.ChangeAt Go.RowKit Own Ro Go.Sort

set_option maxRecDepth 100000 in
set_option maxHeartbeats 8000000 in
theorem ints_any (l : List Nat) (A B : Option Addr) (n c d : Nat) (w : World) (hn : n ≤ 1000000)
    (ha : ∀ i, i < n → ∃ g, A = some ⟨g, 0, none⟩ ∧ w.cell? ⟨g, i, none⟩ = some (.int .i64 (l.getD i 0 : Nat)))
    (hb : ∀ i, i < n → ∃ g, B = some ⟨g, 0, none⟩ ∧ w.cell? ⟨g, i, none⟩ = some (.int .i64 (l.getD i 0 : Nat))) :
    Calls Tryd.prog 18 #[.slice A n c, .slice B n d] w (fun e w' => e = .returned (.bool true) ∧ ∃ q, w' = w.drewN q) := by
  have HA := Lib.hid ha
  have HB := Lib.hid hb
  clear ha hb
  go_enter Tryd.func18, Tryd.ntmps18
  go_wp2_with fail
  go_loopw [5] (fun v5 wr => ∃ (k : Nat), k ≤ n ∧ v5 = .int .i64 (k : Int) ∧ ∃ q, wr = w.drewN q) (fun v5 _ => n - (RowKit.intOf v5).toNat)
  case atStart => exact ⟨0, by omega, rfl, 0, rfl⟩
  case round =>
    obtain ⟨k, hk, rfl, q, rfl⟩ := hrel
    by_cases hlt : k < n
    · have l1 : (0 : Int) ≤ (k : Int) := by omega
      have l2 : (k : Int) < (n : Int) := by omega
      obtain ⟨g, rfl, c0⟩ := HA.out k hlt
      obtain ⟨g2, rfl, c1⟩ := HB.out k hlt
      generalize l.getD k 0 = v at c0 c1
      go_wp2_with fail
      go_quiet (fail)
      go_wp2_with fail
      go_roundw
      case rel => exact ⟨k + 1, by omega, by first | rfl | go_num, _, rfl⟩
      case measure => simp [RowKit.intOf]; omega
    · have hge : decide ((k : Int) < (n : Int)) = false := decide_eq_false (by omega)
      have hge2 : ¬ (k : Int) < (n : Int) := by omega
      clear hlt hk
      go_wp2_with fail
      go_ret
      exact ⟨rfl, q, rfl⟩
theorem own_at {w : World} {b n c : Nat} {A : Option Addr} {l : List Nat} (h : w.ownsRow b 3 1 (.slice A n c) n (rowV l)) (hl : l.length = n) (i : Nat) (hi : i < n) :
    ∃ g, A = some ⟨g, 0, none⟩ ∧ w.cell? ⟨g, i, none⟩ = some (.int .i64 (l.getD i 0 : Nat)) := by
  obtain ⟨g, rfl, _⟩ := own_shapeK h (by omega)
  exact ⟨g, rfl, by rw [h.cellAt i (by omega), rowV_at l i (by omega)]⟩
theorem take_at (l : List Nat) (k i : Nat) (h : i < k) : (l.take k).getD i 0 = l.getD i 0 := by
  rw [List.getD_eq_getElem?_getD, List.getElem?_take, if_pos h, ← List.getD_eq_getElem?_getD]
set_option maxRecDepth 100000 in
set_option maxHeartbeats 16000000 in
theorem lawHops_any (s : Nat) (n f : Int) (hs : s < 18446744073709551616) (w : World) (hE : Ra.Tb w) :
    Calls Tryd.prog 6 #[.int .u64 s, .int .i64 n, .int .i64 f] w (fun e w' => e = .returned (.bool true) ∧ Below w.heap.size w w') := by
  go_enter Tryd.func6, Tryd.ntmps6
  go_upto_region 2 with fail
  obtain ⟨N, hN, eN⟩ : ∃ N : Nat, N ≤ 400 ∧ (wrap64 (n.tmod 401 + 401)).tmod 401 = (N : Int) := by
    have h1 := Int.lt_tmod_of_pos n (show (0 : Int) < 401 by omega)
    have h2 := Int.tmod_lt_of_pos n (show (0 : Int) < 401 by omega)
    rw [IntWalk.wrap64_in _ (by omega)]
    rw [Int.tmod_eq_emod_of_nonneg (by omega)]
    exact ⟨((n.tmod 401 + 401) % 401).toNat, by omega, by omega⟩
  have eN1 : wrap64 ((N : Int) + 1) = (N : Int) + 1 := IntWalk.wrap64_in _ (by omega)
  obtain ⟨K, hK, eK⟩ : ∃ K : Nat, K ≤ N ∧ (wrap64 (wrap64 (f.tmod ((N : Int) + 1) + (N : Int)) + 1)).tmod ((N : Int) + 1) = (K : Int) := by
    have h1 := Int.lt_tmod_of_pos f (show (0 : Int) < (N : Int) + 1 by omega)
    have h2 := Int.tmod_lt_of_pos f (show (0 : Int) < (N : Int) + 1 by omega)
    generalize f.tmod ((N : Int) + 1) = t at h1 h2 ⊢
    rw [IntWalk.wrap64_in (t + (N : Int)) (by omega), IntWalk.wrap64_in _ (by omega), Int.tmod_eq_emod_of_nonneg (by omega)]
    have h3 := Int.emod_nonneg (t + (N : Int) + 1) (show (N : Int) + 1 ≠ 0 by omega)
    have h4 := Int.emod_lt_of_pos (t + (N : Int) + 1) (show (0 : Int) < (N : Int) + 1 by omega)
    exact ⟨((t + (N : Int) + 1) % ((N : Int) + 1)).toNat, by omega, by omega⟩
  simp only [eN]
  have hz : ¬ (N : Int) + 1 = 0 := by omega
  clear eN
  have HE := Lib.hid hE
  have H1 := Lib.hid (hops_ok s N hs (by omega) w)
  clear hE
  have b1 : (0 : Int) ≤ (K : Int) := by omega
  have b2 : (K : Int) ≤ (N : Int) := by omega
  go_wp2_with fail
  clear eN1 eK hz
  refine H1.out.mono ?_
  generalize wrap64 (wrap64 (f.tmod ((N : Int) + 1) + (N : Int)) + 1) = z1
  generalize wrap64 (f.tmod ((N : Int) + 1) + (N : Int)) = z2
  generalize f.tmod ((N : Int) + 1) = z3
  generalize (N : Int) + 1 = z4
  generalize wrap64 (n.tmod 401 + 401) = z5
  generalize n.tmod 401 = z6
  rintro e w1 ⟨⟨A, c, rfl, ho⟩, hb⟩
  have O1 := Lib.hid ho
  have B1 := Lib.hid hb
  have hcn : (N : Int) ≤ (c : Int) := by
    obtain ⟨_, _, hv, _, hle⟩ := own_srcK ho
    injection hv with _ _ hc
    omega
  clear ho hb H1
  have H2 := Lib.hid (hops_ok s K hs (by omega) w1)
  go_wp2_with fail
  refine H2.out.mono ?_
  rintro e w2 ⟨⟨A2, c2, rfl, ho⟩, hb⟩
  have O2 := Lib.hid ho
  have O1' := Lib.hid (own_belowK O1.out hb)
  have B2 := Lib.hid (bt B1.out hb)
  clear ho hb H2 O1 B1
  go_wp2_with fail
  have HX := Lib.hid (fun (i : Nat) (hi : i < N) => own_at O1'.out (hopN_len (seedN s) N (by omega)) i hi)
  have HI := Lib.hid (ints_any (hopN (seedN s) K) A2 A K c2 c w2 (by omega) (fun i hi => own_at O2.out (hopN_len (seedN s) K (by omega)) i hi) (fun i hi => by
    have := HX.out i (by omega)
    rwa [show (hopN (seedN s) N).getD i 0 = (hopN (seedN s) K).getD i 0 by rw [← hopN_take (seedN s) N K hK, take_at _ K i hi]] at this))
  have F1 := Lib.hid (fun i hi => hopN_lt (seedN s) N i (by omega) hi)
  have F2 := Lib.hid (fun i j hi h1 h2 => hopN_round (seedN s) N i j (by omega) hi h1 h2)
  have F3 := Lib.hid (fun i hi h0 => hopN_next (seedN s) N i (by omega) hi h0)
  generalize hopN (seedN s) N = L at HX F1 F2 F3
  clear O1' O2
  refine HI.out.mono ?_
  rintro e w3 ⟨rfl, q, rfl⟩
  clear HI
  have HNN := Lib.hid hN
  have hNz : (N : Int) ≤ 400 := by omega
  clear hcn b1 b2 hK hN hs
  go_wp2_with fail
  go_loopw [12, 13] (fun v12 _ wr => ∃ (i : Nat), i ≤ N ∧ v12 = .int .i64 (i : Int) ∧ ∃ q, wr = w2.drewN q) (fun v12 _ _ => N - (RowKit.intOf v12).toNat)
  case atStart => exact ⟨0, by omega, rfl, _, rfl⟩
  case round =>
    obtain ⟨i, hi, rfl, q', rfl⟩ := hrel
    by_cases hlt : i < N
    · have l1 : (0 : Int) ≤ (i : Int) := by omega
      have l2 : (i : Int) < (N : Int) := by omega
      obtain ⟨g, rfl, ci⟩ := HX.out i hlt
      have HJ := Lib.hid (fun (j : Nat) (hj : j < N) => show w2.cell? ⟨g, j, none⟩ = some (.int .i64 (L.getD j 0 : Nat)) from by
        obtain ⟨g', hg, h⟩ := HX.out j hj
        injection hg with hg
        injection hg with hg
        rw [hg]
        exact h)
      have v1 := F1.out i hlt
      have f2 := fun j h1 h2 => F2.out i j hlt h1 h2
      have f3 := fun h0 => F3.out i hlt h0
      replace f2 := Lib.hid f2
      replace f3 := Lib.hid f3
      generalize L.getD i 0 = vi at ci v1 f2 f3
      have v2 : ¬ (vi : Int) < 0 := by omega
      have v3 : ¬ (19 : Int) < (vi : Int) := by omega
      have d1 : decide ((vi : Int) < 0) = false := decide_eq_false v2
      have d2 : decide ((19 : Int) < (vi : Int)) = false := decide_eq_false v3
      have d3 : decide ((vi : Int) > 19) = false := decide_eq_false v3
      by_cases h0 : 0 < i
      · obtain ⟨p, hp⟩ : ∃ p : Nat, p + 1 = i := ⟨i - 1, by omega⟩
        have cp := HJ.out p (by omega)
        have hne := f3.out h0
        rw [show i - 1 = p by omega] at hne
        generalize L.getD p 0 = vp at cp hne
        have hq : ((vi : Int) == (vp : Int)) = false := by simp; omega
        have i1 : (0 : Int) < (i : Int) := by omega
        have i2 : decide (0 < i) = true := decide_eq_true h0
        have w1' : IntKind.i64.wrap ((i : Int) - 1) = (p : Int) := by have := HNN.out; rw [IntWalk.i64_in _ (by omega)]; omega
        have p1 : (0 : Int) ≤ (p : Int) := by omega
        have p2 : (p : Int) < (N : Int) := by omega
        replace hp := Lib.hid hp
        replace hne := Lib.hid hne
        obtain ⟨im, him⟩ : ∃ im : Nat, i % 20 = im := ⟨_, rfl⟩
        have t1 : (i : Int).tmod 20 = (im : Int) := by rw [Int.tmod_eq_emod_of_nonneg l1]; omega
        obtain ⟨j0, hj0⟩ : ∃ j0 : Nat, i - i % 20 = j0 := ⟨_, rfl⟩
        have t2 : IntKind.i64.wrap ((i : Int) - (im : Int)) = (j0 : Int) := by have := HNN.out; rw [IntWalk.i64_in _ (by omega)]; omega
        have HJ0 := Lib.hid (show i - i % 20 = j0 from hj0)
        have HC := Lib.hid ci
        clear him hj0
        go_wp2_with fail
        go_quiet (fail)
        clear cp
        go_wp2_with fail
        clear ci
        go_loopw [13] (fun v13 wr => ∃ (j : Nat), i - i % 20 ≤ j ∧ j ≤ i ∧ v13 = .int .i64 (j : Int) ∧ ∃ q, wr = w2.drewN q) (fun v13 _ => i - (RowKit.intOf v13).toNat)
        case atStart => exact ⟨i - i % 20, Nat.le_refl _, by omega, by rw [HJ0.out], _, rfl⟩
        case round =>
          obtain ⟨j, hj0, hj, rfl, q2, rfl⟩ := hrel
          by_cases hlj : j < i
          · have j1 : (0 : Int) ≤ (j : Int) := by omega
            have j2 : (j : Int) < (N : Int) := by omega
            have j3 : (j : Int) < (i : Int) := by omega
            have cj := HJ.out j (by omega)
            have ci := HC.out
            have hne2 := f2.out j hj0 hlj
            generalize L.getD j 0 = vj at cj hne2
            have hq2 : ((vj : Int) == (vi : Int)) = false := by simp; omega
            have HAR := Lib.hid (show i - i % 20 ≤ j ∧ j < i from ⟨hj0, hlj⟩)
            clear hne2 hj0 hj hlj t1 t2 i1 i2
            go_wp2_with fail
            go_quiet (fail)
            clear ci cj hq2
            go_wp2_with fail
            go_roundw
            case rel => exact ⟨j + 1, by have := HAR.out; omega, by have := HAR.out; omega, by first | rfl | go_num, _, rfl⟩
            case measure => simp [RowKit.intOf]; have := HAR.out; omega
          · have hgj : decide ((j : Int) < (i : Int)) = false := decide_eq_false (by omega)
            have hgj2 : ¬ (j : Int) < (i : Int) := by omega
            clear hlj hj0
            go_wp2_with fail
            go_roundw
            case rel => exact ⟨i + 1, by omega, by first | rfl | go_num, _, rfl⟩
            case measure => simp [RowKit.intOf]; omega
      · have hi0 : i = 0 := by omega
        subst hi0
        have l3 : (0 : Int) < (N : Int) := by omega
        have l4 : decide (0 < N) = true := decide_eq_true (by omega)
        clear f2 f3 h0 l1 l2 hi HJ
        rw [show ((0 : Nat) : Int) = 0 from rfl]
        go_wp2_with fail
        go_quiet (fail)
        clear ci
        go_wp2_with fail
        go_loopw [13] (fun v13 wr => v13 = .int .i64 0 ∧ ∃ q, wr = w2.drewN q) (fun _ _ => 0)
        case atStart => exact ⟨rfl, _, rfl⟩
        case round =>
          obtain ⟨rfl, q2, rfl⟩ := hrel
          go_wp2_with fail
          go_roundw
          case rel => exact ⟨1, by omega, by first | rfl | go_num, _, rfl⟩
          case measure => simp [RowKit.intOf]; omega
    · have hge : decide ((i : Int) < (N : Int)) = false := decide_eq_false (by omega)
      have hge2 : ¬ (i : Int) < (N : Int) := by omega
      clear hlt hi
      go_wp2_with fail
      refine (Ra.awake_any _ ((HE.out.below B2.out).below (below_dr (Below.refl _ _) q'))).mono ?_
      rintro e w9 ⟨rfl, hw⟩
      rw [hw]
      clear hw w9
      go_wp2_with fail
      go_ret
      exact ⟨rfl, below_dr B2.out _⟩
end Go.Proofs.YtinocgngjhomcaaDoor.Rh
