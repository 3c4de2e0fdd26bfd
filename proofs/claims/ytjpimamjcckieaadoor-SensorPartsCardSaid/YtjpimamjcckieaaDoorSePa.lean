/- The law SensorParts. -/
import Derived.Test.YtjpimamjcckieaaDoorSeW
import Derived.Test.YtjpimamjcckieaaDoorSeMw
import Derived.Deep.CutBlock
import Derived.Deep.DeepCutAuto
namespace Go.Proofs.YtjpimamjcckieaaDoor.Se
open Go.ChangeShapes Go.WideShapes Go.ChangeAt Go.RowKit Own Ro

theorem info_i8 : (Tryd.prog.info? 23).map (fun i => (i.zero, i.size, i.bytes)) = some (some (.int .i8 0), 1, 1) := by kernel_rfl
theorem pre8 {w : World} {A : Option Addr} {n m : Nat} {xs ys : List Value} (h : CellsIn w 1 A m (xs ++ ys)) (hx : xs.length = n) (hm : n ≤ m) : CellsIn w 1 A n xs := by
  refine ⟨by omega, ?_⟩
  rcases h.2 with h0 | ⟨b, o, rfl, hb, hc⟩
  · exact .inl (by omega)
  · exact .inr ⟨b, o, rfl, hb, fun j u hu => hc j u (by rw [List.getElem?_append_left (List.getElem?_eq_some_iff.1 hu).1]; exact hu)⟩
theorem take8 {w : World} {A : Option Addr} {n k : Nat} {xs : List Int} (h : CellsIn w 1 A n (i8s xs)) (hn : n = xs.length) (hk : k ≤ n) : CellsIn w 1 A k (i8s (xs.take k)) := by
  refine pre8 (ys := i8s (xs.drop k)) ?_ (by unfold i8s; simp; omega) hk
  have : i8s (xs.take k) ++ i8s (xs.drop k) = i8s xs := by unfold i8s; rw [← List.map_append, List.take_append_drop]
  rw [this]
  exact h
theorem cell8 {w : World} {A : Option Addr} {n : Nat} {xs : List Int} (h : CellsIn w 1 A n (i8s xs)) (hn : n = xs.length) (h0 : 0 < n) : ∃ b o, A = some ⟨b, o, none⟩ ∧ ∀ j, j < n → w.cell? ⟨b, o + j, none⟩ = some (.int .i8 xs[j]!) := by
  rcases h.2 with h1 | ⟨b, o, rfl, hb, hc⟩
  · omega
  · exact ⟨b, o, rfl, fun j hj => i8_at hn hc hj⟩
theorem zoneV_two (o : Option Nat) : ∃ p q : Int, zoneV o = .tuple #[.int .i64 p, .int .i64 q] := by
  cases o with
  | none => exact ⟨_, _, rfl⟩
  | some r => exact ⟨_, _, rfl⟩
/-- How many of the first k are at or below; at or above. -/
def lowN (L : List Int) (v : Int) (k : Nat) : Nat := (L.take k).countP fun x => decide (x ≤ v)
def highN (L : List Int) (v : Int) (k : Nat) : Nat := (L.take k).countP fun x => decide (v ≤ x)
theorem take_snoc (L : List Int) (k : Nat) (h : k < L.length) : L.take (k + 1) = L.take k ++ [L[k]!] := by
  rw [List.take_add_one, getElem!_pos L k h, List.getElem?_eq_getElem h]
  rfl
theorem low_succ (L : List Int) (v : Int) (k : Nat) (h : k < L.length) : lowN L v (k + 1) = lowN L v k + (if L[k]! ≤ v then 1 else 0) := by
  unfold lowN
  rw [take_snoc L k h, List.countP_append, List.countP_singleton]
  by_cases hv : L[k]! ≤ v
  · rw [if_pos hv, if_pos (by simpa using hv)]
  · rw [if_neg hv, if_neg (by simpa using hv)]
theorem high_succ (L : List Int) (v : Int) (k : Nat) (h : k < L.length) : highN L v (k + 1) = highN L v k + (if v ≤ L[k]! then 1 else 0) := by
  unfold highN
  rw [take_snoc L k h, List.countP_append, List.countP_singleton]
  by_cases hv : v ≤ L[k]!
  · rw [if_pos hv, if_pos (by simpa using hv)]
  · rw [if_neg hv, if_neg (by simpa using hv)]
theorem low_le (L : List Int) (v : Int) (k : Nat) : lowN L v k ≤ k := by
  unfold lowN
  exact Nat.le_trans List.countP_le_length (by simp; omega)
theorem high_le (L : List Int) (v : Int) (k : Nat) : highN L v k ≤ k := by
  unfold highN
  exact Nat.le_trans List.countP_le_length (by simp; omega)
theorem rev_snoc (L : List Int) (k : Nat) (h : k < L.length) : i8s (L.reverse.take k) ++ [.int .i8 (L[L.length - 1 - k]!)] = i8s (L.reverse.take (k + 1)) := by
  rw [take_snoc L.reverse k (by simpa using h)]
  have e : L.reverse[k]! = L[L.length - 1 - k]! := by
    rw [getElem!_pos L.reverse k (by simpa using h), List.getElem_reverse, getElem!_pos L (L.length - 1 - k) (by omega)]
  rw [e]
  unfold i8s
  rw [List.map_append]
  rfl
theorem zone_part {xs : List Int} {deg : Int} {n z k : Nat} (hn : n = xs.length) (h : zoneOf xs deg = some z) (hk : k ≤ n) : zoneOf (xs.take k) deg = some (min z k) := by
  unfold zoneOf at h ⊢
  by_cases h64 : 64 < xs.length
  · rw [if_pos h64] at h
    cases h
  · rw [if_neg h64] at h
    have hl : (xs.take k).length = k := by simp; omega
    rw [if_neg (by omega), hl, zr_take k (Nat.le_refl _)]
    exact zr_min h (by omega)
set_option maxRecDepth 100000 in
set_option maxHeartbeats 16000000 in
theorem parts_any (deg : Int) (A : Option Addr) (c n : Nat) (xs : List Int) (B : Option Addr) (d m : Nat) (L : List Int) (w : World) (hn : n = xs.length) (hm : m = L.length)
    (hs : CellsIn w 1 A n (i8s xs)) (ht : CellsIn w 1 B m (i8s L)) (hnc : n ≤ c) (hE : Tb w) :
    Calls Tryd.prog 3 #[.slice A n c, .int .i8 deg, .slice B m d] w (fun e w' => e = .returned (.bool true) ∧ Below w.heap.size w w') := by
  have HN := Lib.hid hn
  have HM := Lib.hid hm
  have GA := Lib.hid hs
  have GB := Lib.hid ht
  have HE := Lib.hid hE
  have hcz : (n : Int) ≤ (c : Int) := by omega
  replace hcz := Lib.hid hcz
  clear hs hn ht hm hE hnc
  go_enter Tryd.func3, Tryd.ntmps3
  go_wp2_with fail
  refine (awake_any w HE.out).mono ?_
  rintro e w1 ⟨rfl, hb⟩
  have B1 := Lib.hid hb
  have GA1 := Lib.hid (GA.out.below hb)
  have GB1 := Lib.hid (GB.out.below hb)
  clear hb GA GB HE
  go_wp2_with fail
  refine (zone_all A c n xs deg w1 HN.out GA1.out).mono ?_
  rintro e w9 ⟨rfl, hw⟩
  rw [hw]
  clear hw w9
  obtain ⟨zp, zq, hzq⟩ := zoneV_two (zoneOf xs deg)
  rw [hzq]
  go_upto_if 29 with fail
  go_cut [29] (fun _ wx => wx = w1)
  case first =>
    cases hz : zoneOf xs deg with
    | none =>
      rw [hz] at hzq
      simp [zoneV] at hzq
      obtain ⟨rfl, rfl⟩ := hzq
      go_wp2_with fail
      go_meet
      rfl
    | some z =>
      rw [hz] at hzq
      simp [zoneV] at hzq
      obtain ⟨rfl, rfl⟩ := hzq
      rw [show ((0 : Int) == 0) = true from rfl]
      have HZ := Lib.hid hz
      have hf : n ≤ 64 ∧ z ≤ n ∧ (∀ i, i < z → xs[i]! ≤ deg) ∧ (∀ i, z ≤ i → i < n → deg < xs[i]!) := by
        unfold zoneOf at hz
        by_cases h64 : 64 < xs.length
        · rw [if_pos h64] at hz
          cases hz
        · rw [if_neg h64, ← HN.out] at hz
          exact ⟨by have := HN.out; omega, zr_facts hz⟩
      have HF := Lib.hid hf
      clear hz hf
      have u1 : ¬ (z : Int) < 0 := by omega
      have u2 : decide ((z : Int) < 0) = false := decide_eq_false u1
      have u3 : ¬ (n : Int) < (z : Int) := by have := HF.out.2.1; omega
      have u4 : decide ((z : Int) > (n : Int)) = false := decide_eq_false u3
      go_upto_region 5 with fail
      go_cut [64] (fun s64 wx => s64 = .bool false ∧ wx = w1)
      case first =>
        by_cases hz0 : 0 < z
        · skip
          have z1 : (0 : Int) < (z : Int) := by omega
          have z2 : decide ((z : Int) > 0) = true := decide_eq_true z1
          have z3 : decide (0 < z) = true := decide_eq_true (by omega)
          obtain ⟨p, hp⟩ : ∃ p : Nat, p + 1 = z := ⟨z - 1, by omega⟩
          obtain ⟨bA, oA, rfl, hcell⟩ := cell8 GA1.out HN.out (by have := HF.out.2.1; omega)
          have cp := hcell p (by have := HF.out.2.1; omega)
          have vp := HF.out.2.2.1 p (by omega)
          have wz : IntKind.i64.wrap ((z : Int) - 1) = (p : Int) := by have := HF.out; rw [IntWalk.i64_in _ (by omega)]; omega
          have p1 : (0 : Int) ≤ (p : Int) := by omega
          have p2 : (p : Int) < (n : Int) := by have := HF.out.2.1; omega
          have HPZ := Lib.hid hp
          generalize xs[p]! = xp at cp vp
          have vp1 : decide (xp > deg) = false := decide_eq_false (by omega)
          have vp2 : ¬ deg < xp := by omega
          by_cases hzn : z < n
          · skip
            have y1 : (z : Int) < (n : Int) := by omega
            have y2 : decide ((z : Int) < (n : Int)) = true := decide_eq_true y1
            have y3 : (0 : Int) ≤ (z : Int) := by omega
            have cz := hcell z hzn
            have vz := HF.out.2.2.2 z (Nat.le_refl _) hzn
            generalize xs[z]! = xz at cz vz
            have vz1 : decide (xz ≤ deg) = false := decide_eq_false (by omega)
            have vz2 : ¬ xz ≤ deg := by omega
            clear hcell hp hz0 hzn vp vz
            go_wp2_with fail
            go_meet
            exact ⟨rfl, rfl⟩
          · skip
            have y1 : ¬ (z : Int) < (n : Int) := by omega
            have y2 : decide ((z : Int) < (n : Int)) = false := decide_eq_false y1
            clear hcell hp hz0 hzn vp
            go_wp2_with fail
            go_meet
            exact ⟨rfl, rfl⟩
        · skip
          have z1 : ¬ (0 : Int) < (z : Int) := by omega
          have z2 : decide ((z : Int) > 0) = false := decide_eq_false z1
          have z3 : decide (0 < z) = false := decide_eq_false (by omega)
          by_cases hzn : z < n
          · skip
            have y1 : (z : Int) < (n : Int) := by omega
            have y2 : decide ((z : Int) < (n : Int)) = true := decide_eq_true y1
            have y3 : (0 : Int) ≤ (z : Int) := by omega
            obtain ⟨bA, oA, rfl, hcell⟩ := cell8 GA1.out HN.out (by omega)
            have cz := hcell z hzn
            have vz := HF.out.2.2.2 z (Nat.le_refl _) hzn
            generalize xs[z]! = xz at cz vz
            have vz1 : decide (xz ≤ deg) = false := decide_eq_false (by omega)
            have vz2 : ¬ xz ≤ deg := by omega
            clear hcell hz0 hzn vz
            go_wp2_with fail
            go_meet
            exact ⟨rfl, rfl⟩
          · skip
            have y1 : ¬ (z : Int) < (n : Int) := by omega
            have y2 : decide ((z : Int) < (n : Int)) = false := decide_eq_false y1
            clear hz0 hzn
            go_wp2_with fail
            go_meet
            exact ⟨rfl, rfl⟩
      case rest =>
        obtain ⟨rfl, hw0⟩ := hcut
        rw [hw0]
        clear hw0 wc u1 u2 u3 u4
        go_wp2_with fail
        go_loopw [9] (fun v9 wr => ∃ k : Nat, k ≤ n ∧ v9 = .int .i64 (k : Int) ∧ wr = w1) (fun v9 _ => n - (RowKit.intOf v9).toNat)
        case atStart => exact ⟨0, by omega, rfl, rfl⟩
        case round =>
          obtain ⟨k, hk, rfl, hw⟩ := hrel
          rw [hw]
          clear hw wr
          by_cases hlt : k < n
          · have k1 : (0 : Int) ≤ (k : Int) := by omega
            have k2 : (k : Int) < (n : Int) := by omega
            have k3 : (k : Int) ≤ (c : Int) := by have := hcz.out; omega
            have k4 : (n : Int) ≤ 64 := by have := HF.out.1; omega
            have HP := Lib.hid (zone_part HN.out HZ.out (show k ≤ n by omega))
            have HC := Lib.hid (zone_all A c k (xs.take k) deg w1 (by have := HN.out; simp; omega) (take8 GA1.out HN.out (by omega)))
            rw [HP.out] at HC
            unfold zoneV at HC
            have HAR := Lib.hid (And.intro hk hlt)
            clear hk hlt
            go_wp2_with fail
            refine HC.out.mono ?_
            rintro e w9 ⟨rfl, hw⟩
            rw [hw]
            clear hw w9
            clear HC
            by_cases hkz : k < z
            · have l1 : (k : Int) < (z : Int) := by omega
              rw [show min z k = k by omega]
              go_wp2_with fail
              go_roundw
              case rel => exact ⟨k + 1, by have := HAR.out; omega, by first | rfl | go_num, by first | rfl | trivial⟩
              case measure => simp [RowKit.intOf]; have := HAR.out; omega
            · have l1 : ¬ (k : Int) < (z : Int) := by omega
              rw [show min z k = z by omega]
              go_wp2_with fail
              go_roundw
              case rel => exact ⟨k + 1, by have := HAR.out; omega, by first | rfl | go_num, by first | rfl | trivial⟩
              case measure => simp [RowKit.intOf]; have := HAR.out; omega
          · have hge : decide ((k : Int) < (n : Int)) = false := decide_eq_false (by omega)
            have hge2 : ¬ (k : Int) < (n : Int) := by omega
            clear hlt hk
            go_wp2_with fail
            go_meet
            rfl
  case rest =>
    rw [hcut]
    clear hcut wc GA1 hcz hzq
    by_cases hbad : L.length < 1 ∨ 4096 < L.length
    · have HMD := Lib.hid (median_all B d m L w1 HM.out GB1.out)
      unfold medOf at HMD
      rw [if_pos hbad] at HMD
      have HBD := Lib.hid (show m = 0 ∨ 4096 < m from by have := HM.out; omega)
      clear hbad
      go_wp2_with fail
      refine HMD.out.mono ?_
      rintro e w2 ⟨rfl, hb⟩
      have B2 := Lib.hid (bt B1.out hb)
      clear hb HMD
      rcases HBD.out with h0 | h0
      · have q0 : ((m : Int) == 0) = true := by rw [h0]; rfl
        go_wp2_with fail
        go_ret
        exact ⟨rfl, B2.out⟩
      · have q0 : ((m : Int) == 0) = false := by simp; omega
        have q1 : (4096 : Int) < (m : Int) := by omega
        have q2 : decide ((m : Int) > 4096) = true := decide_eq_true q1
        go_wp2_with fail
        go_ret
        exact ⟨rfl, B2.out⟩
    · have HMD := Lib.hid (median_all B d m L w1 HM.out GB1.out)
      unfold medOf at HMD
      rw [if_neg hbad] at HMD
      have HLN := Lib.hid (show L.length = m ∧ 1 ≤ m ∧ m ≤ 4096 from by have := HM.out; omega)
      have HLO := Lib.hid (mid_low L (by omega))
      have HHI := Lib.hid (mid_high L (by omega))
      have HPM := Lib.hid (show Pq.midV L.reverse = Pq.midV L from mid_perm (List.reverse_perm L))
      clear hbad
      generalize Pq.midV L = mv at HMD HLO HHI HPM
      go_wp2_with fail
      refine HMD.out.mono ?_
      rintro e w2 ⟨rfl, hb⟩
      have B2 := Lib.hid (bt B1.out hb)
      have GB2 := Lib.hid (GB1.out.below hb)
      have hsz2 : w.heap.size ≤ w2.heap.size := B2.out.size
      clear hb HMD GB1 B1
      go_wp2_with fail
      go_loopw [14, 15, 16, 17] (fun v14 v15 v16 v17 wr => ∃ (k : Nat) (A' : Option Addr) (c' : Nat), k ≤ m ∧ v17 = .int .i64 (k : Int) ∧ v14 = .int .i64 (lowN L mv k : Nat) ∧ v15 = .int .i64 (highN L mv k : Nat) ∧ v16 = .slice A' k c' ∧ wr.ownsRow w2.heap.size 23 1 (.slice A' k c') k (i8s (L.reverse.take k)) ∧ Below w2.heap.size w2 wr) (fun _ _ _ v17 _ => m - (RowKit.intOf v17).toNat)
      case atStart => exact ⟨0, none, 0, by omega, rfl, rfl, rfl, rfl, own_nil _ _ _, Below.refl _ _⟩
      case round =>
        obtain ⟨k, A', c', hk, rfl, rfl, rfl, rfl, ho, hb⟩ := hrel
        have HO := Lib.hid ho
        have HB := Lib.hid hb
        have hsz : w2.heap.size ≤ wr.heap.size := hb.size
        clear ho hb
        have hm4 : (m : Int) ≤ 4096 := by have := HLN.out; omega
        by_cases hlt : k < m
        · have k1 : (0 : Int) ≤ (k : Int) := by omega
          have k2 : (k : Int) < (m : Int) := by omega
          obtain ⟨bB, oB, rfl, hcell⟩ := cell8 (GB2.out.below HB.out) HM.out (by omega)
          obtain ⟨r, hr⟩ : ∃ r : Nat, m - 1 - k = r := ⟨_, rfl⟩
          have ck := hcell k hlt
          have cr := hcell r (by omega)
          have w1' : IntKind.i64.wrap ((m : Int) - 1) = (m : Int) - 1 := by rw [IntWalk.i64_in _ (by omega)]
          have w2' : IntKind.i64.wrap ((m : Int) - 1 - (k : Int)) = (r : Int) := by rw [IntWalk.i64_in _ (by omega)]; omega
          have r1 : (0 : Int) ≤ (r : Int) := by omega
          have r2 : (r : Int) < (m : Int) := by omega
          have HSN := Lib.hid (rev_snoc L k (by have := HM.out; omega))
          rw [show L.length - 1 - k = r by have := HM.out; omega] at HSN
          have HLS := Lib.hid (low_succ L mv k (by have := HM.out; omega))
          have HHS := Lib.hid (high_succ L mv k (by have := HM.out; omega))
          have lb := low_le L mv k
          have hb2 := high_le L mv k
          generalize lowN L mv k = lo at HLS lb ⊢
          generalize highN L mv k = hi at HHS hb2 ⊢
          generalize L[r]! = vr at cr HSN
          generalize L[k]! = vk at ck HLS HHS
          have lo1 : (lo : Int) ≤ 4096 := by omega
          have hi1 : (hi : Int) ≤ 4096 := by omega
          have HAR := Lib.hid (And.intro hk hlt)
          have hbo : k ≤ 4096 := by omega
          clear hcell hr lb hb2 hk hlt
          rcases Int.lt_trichotomy vk mv with hc | hc | hc
          · have g1 : vk ≤ mv := by omega
            have g2 : ¬ mv ≤ vk := by omega
            have g3 : ¬ mv < vk := by omega
            have g4 : decide (vk ≥ mv) = false := decide_eq_false (by omega)
            have g5 : decide (vk ≤ mv) = true := decide_eq_true g1
            have HL1 := Lib.hid (show lowN L mv (k + 1) = lo + 1 from by rw [HLS.out]; rw [if_pos (by omega)])
            have HH1 := Lib.hid (show highN L mv (k + 1) = hi from by rw [HHS.out]; rw [if_neg (by omega)]; rfl)
            have HCC := Lib.hid hc
            clear hc HLS HHS
            go_wp2_with (at_builtin; go_must (refine wpList_append_src rfl (.tmp 125) (.tmp 134) 22 rfl w2.heap.size 23 (.int .i8 0) 1 Tryd.underlying22 info_i8 rfl _ k (i8s (L.reverse.take k)) rfl (own_belowK HO.out (grows' wr _)) _ 1 1 [.int .i8 vr] rfl (src_new _ _ _) (by intro u hu; simp at hu; subst hu; rfl) (by omega) (by omega) (by simp; omega) ?_); intro v1 w3 hown1 hg1)
            rw [HSN.out] at hown1
            obtain ⟨A2, c2, rfl, _⟩ := own_src hown1
            have HB3 := Lib.hid (below_grown' HB.out hsz HO.out (Nat.le_refl _) hg1)
            go_roundw
            case rel => exact ⟨k + 1, A2, c2, by have := HAR.out; omega, by first | rfl | go_num, by first | (rw [HL1.out]; done) | (rw [HL1.out]; go_num) | (rw [HL1.out]; rfl), by first | (rw [HH1.out]; done) | (rw [HH1.out]; go_num) | (rw [HH1.out]; rfl), by first | rfl | go_num, hown1, HB3.out⟩
            case measure => simp [RowKit.intOf]; have := HAR.out; omega
          · have g1 : vk ≤ mv := by omega
            have g2 : mv ≤ vk := by omega
            have g4 : decide (vk ≥ mv) = true := decide_eq_true g2
            have g5 : decide (vk ≤ mv) = true := decide_eq_true g1
            have HL1 := Lib.hid (show lowN L mv (k + 1) = lo + 1 from by rw [HLS.out]; rw [if_pos (by omega)])
            have HH1 := Lib.hid (show highN L mv (k + 1) = hi + 1 from by rw [HHS.out]; rw [if_pos (by omega)])
            have HCC := Lib.hid hc
            clear hc HLS HHS
            go_wp2_with (at_builtin; go_must (refine wpList_append_src rfl (.tmp 125) (.tmp 134) 22 rfl w2.heap.size 23 (.int .i8 0) 1 Tryd.underlying22 info_i8 rfl _ k (i8s (L.reverse.take k)) rfl (own_belowK HO.out (grows' wr _)) _ 1 1 [.int .i8 vr] rfl (src_new _ _ _) (by intro u hu; simp at hu; subst hu; rfl) (by omega) (by omega) (by simp; omega) ?_); intro v1 w3 hown1 hg1)
            rw [HSN.out] at hown1
            obtain ⟨A2, c2, rfl, _⟩ := own_src hown1
            have HB3 := Lib.hid (below_grown' HB.out hsz HO.out (Nat.le_refl _) hg1)
            go_roundw
            case rel => exact ⟨k + 1, A2, c2, by have := HAR.out; omega, by first | rfl | go_num, by first | (rw [HL1.out]; done) | (rw [HL1.out]; go_num) | (rw [HL1.out]; rfl), by first | (rw [HH1.out]; done) | (rw [HH1.out]; go_num) | (rw [HH1.out]; rfl), by first | rfl | go_num, hown1, HB3.out⟩
            case measure => simp [RowKit.intOf]; have := HAR.out; omega
          · have g1 : ¬ vk ≤ mv := by omega
            have g2 : mv ≤ vk := by omega
            have g4 : decide (vk ≥ mv) = true := decide_eq_true g2
            have g5 : decide (vk ≤ mv) = false := decide_eq_false g1
            have HL1 := Lib.hid (show lowN L mv (k + 1) = lo from by rw [HLS.out]; rw [if_neg (by omega)]; rfl)
            have HH1 := Lib.hid (show highN L mv (k + 1) = hi + 1 from by rw [HHS.out]; rw [if_pos (by omega)])
            have HCC := Lib.hid hc
            clear hc HLS HHS
            go_wp2_with (at_builtin; go_must (refine wpList_append_src rfl (.tmp 125) (.tmp 134) 22 rfl w2.heap.size 23 (.int .i8 0) 1 Tryd.underlying22 info_i8 rfl _ k (i8s (L.reverse.take k)) rfl (own_belowK HO.out (grows' wr _)) _ 1 1 [.int .i8 vr] rfl (src_new _ _ _) (by intro u hu; simp at hu; subst hu; rfl) (by omega) (by omega) (by simp; omega) ?_); intro v1 w3 hown1 hg1)
            rw [HSN.out] at hown1
            obtain ⟨A2, c2, rfl, _⟩ := own_src hown1
            have HB3 := Lib.hid (below_grown' HB.out hsz HO.out (Nat.le_refl _) hg1)
            go_roundw
            case rel => exact ⟨k + 1, A2, c2, by have := HAR.out; omega, by first | rfl | go_num, by first | (rw [HL1.out]; done) | (rw [HL1.out]; go_num) | (rw [HL1.out]; rfl), by first | (rw [HH1.out]; done) | (rw [HH1.out]; go_num) | (rw [HH1.out]; rfl), by first | rfl | go_num, hown1, HB3.out⟩
            case measure => simp [RowKit.intOf]; have := HAR.out; omega
        · have hge : decide ((k : Int) < (m : Int)) = false := decide_eq_false (by omega)
          have hge2 : ¬ (k : Int) < (m : Int) := by omega
          have HKM := Lib.hid (show k = m from by omega)
          clear hlt hk
          have HM3 := Lib.hid (median_all A' c' k (L.reverse.take k) wr (by have := HKM.out; have := HLN.out; simp; omega) (own_cells HO.out))
          have HRV : L.reverse.take k = L.reverse := List.take_of_length_le (by have := HKM.out; have := HLN.out; simp; omega)
          rw [HRV] at HM3
          unfold medOf at HM3
          rw [if_neg (by have := HLN.out; rw [List.length_reverse]; omega), HPM.out] at HM3
          have HLV : (m : Int) ≤ 2 * (lowN L mv k : Nat) := by
            have h := HLO.out
            have e : lowN L mv k = L.countP (fun x => decide (x ≤ mv)) := by unfold lowN; rw [List.take_of_length_le (by have := HKM.out; have := HLN.out; omega)]
            have := HLN.out
            rw [e]
            omega
          have HHV : (m : Int) ≤ 2 * (highN L mv k : Nat) := by
            have h := HHI.out
            have e : highN L mv k = L.countP (fun x => decide (mv ≤ x)) := by unfold highN; rw [List.take_of_length_le (by have := HKM.out; have := HLN.out; omega)]
            have := HLN.out
            rw [e]
            omega
          have lb := low_le L mv k
          have hb2 := high_le L mv k
          generalize lowN L mv k = lo at HLV lb ⊢
          generalize highN L mv k = hi at HHV hb2 ⊢
          have lo1 : (lo : Int) ≤ 4096 := by have := HKM.out; omega
          have hi1 : (hi : Int) ≤ 4096 := by have := HKM.out; omega
          have x1 : IntKind.i64.wrap (2 * (lo : Int)) = 2 * (lo : Int) := IntWalk.i64_in _ (by omega)
          have x2 : IntKind.i64.wrap (2 * (hi : Int)) = 2 * (hi : Int) := IntWalk.i64_in _ (by omega)
          have x3 : decide ((m : Int) ≤ 2 * (lo : Int)) = true := decide_eq_true HLV
          have x4 : decide ((m : Int) ≤ 2 * (hi : Int)) = true := decide_eq_true HHV
          have x5 : decide (2 * (lo : Int) ≥ (m : Int)) = true := decide_eq_true HLV
          have x6 : decide (2 * (hi : Int) ≥ (m : Int)) = true := decide_eq_true HHV
          have BB := Lib.hid (bt B2.out HB.out)
          clear lb hb2 HO HRV
          go_wp2_with fail
          refine HM3.out.mono ?_
          rintro e w9 ⟨rfl, hb⟩
          have BZ := Lib.hid (bt BB.out hb)
          clear hb HM3
          go_wp2_with fail
          go_ret
          exact ⟨rfl, BZ.out⟩
end Go.Proofs.YtjpimamjcckieaaDoor.Se
