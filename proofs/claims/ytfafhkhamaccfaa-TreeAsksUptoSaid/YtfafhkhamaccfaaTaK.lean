/- Is a node enabled? The document's On, Enabled, the program's isEnabled, Enabled. -/
import Derived.Test.YtfafhkhamaccfaaTaJ
namespace Go.Proofs.Ytfafhkhamaccfaa.Tr
open Go.ChangeShapes Go.WideShapes Go.ChangeAt Go.RowKit Own wordsNames

theorem statusN_str : str statusN = ⟨#[115, 116, 97, 116, 117, 115]⟩ := rfl
theorem okayN_str : str okayN = ⟨#[111, 107, 97, 121]⟩ := rfl
/-- Are all of these on? -/
def onAll (L : List Nd) (l : List Nat) : Bool := l.all fun p => onP (L.getD p nd0).props
theorem onAll_cons (L : List Nd) (p : Nat) (l : List Nat) : onAll L (p :: l) = (onP (L.getD p nd0).props && onAll L l) := rfl
theorem onP_none {ps : List Pr} (h : look ps statusN = none) : onP ps = true := by unfold onP; rw [h]
theorem onP_some {ps : List Pr} {v : List UInt8} (h : look ps statusN = some v) : onP ps = decide ((Cl.tOne v).2 = 0 ∧ (Cl.tOne v).1 = okayN) := by unfold onP; rw [h]
theorem onAll_at {L : List Nd} {l : List Nat} {k : Nat} (hk : k < l.length) (h : ∀ j, j < k → onP (L.getD (l.getD j 0) nd0).props = true) :
    (onP (L.getD (l.getD k 0) nd0).props = false → onAll L l = false) ∧ (onP (L.getD (l.getD k 0) nd0).props = true → ∀ j, j < k + 1 → onP (L.getD (l.getD j 0) nd0).props = true) := by
  refine ⟨fun he => ?_, fun he j hj => ?_⟩
  · unfold onAll
    rw [List.all_eq_false]
    refine ⟨l.getD k 0, ?_, by rw [he]; simp⟩
    rw [List.getD_eq_getElem?_getD, List.getElem?_eq_getElem hk]
    exact List.getElem_mem hk
  · by_cases hjk : j = k
    · rw [hjk]; exact he
    · exact h j (by omega)
theorem onAll_end {L : List Nd} {l : List Nat} {n : Nat} (hn : n = l.length) (h : ∀ j, j < n → onP (L.getD (l.getD j 0) nd0).props = true) : onAll L l = true := by
  unfold onAll
  rw [List.all_eq_true]
  intro x hx
  obtain ⟨j, hj, rfl⟩ := List.getElem_of_mem hx
  have h1 := h j (by omega)
  rw [List.getD_eq_getElem?_getD (l := l), List.getElem?_eq_getElem hj] at h1
  exact h1
theorem okay_eq (l : List UInt8) : ((str l).toList == [111, 107, 97, 121]) = decide (l = okayN) := by
  rw [← eq_lists, okayN_str, show (⟨#[111, 107, 97, 121]⟩ : ByteArray).toList = [111, 107, 97, 121] from by decide +kernel]
theorem up_step {L : List Nd} {n p : Nat} (hb : Behind L n) (hp : p < n) : upFrom L (p : Int) = p :: upFrom L (L.getD p nd0).parent := by
  show (if ((p : Nat) : Int) < 0 then [] else aboveN L ((p : Nat) : Int).toNat) = _
  rw [if_neg (by omega), Int.toNat_natCast]
  exact above_step L n hb p hp
theorem up_self (L : List Nd) (j : Nat) : upFrom L (j : Int) = aboveN L j := by
  unfold upFrom
  rw [if_neg (by omega), Int.toNat_natCast]
set_option maxHeartbeats 4000000 in
theorem refOn_any (A : Option Addr) (c n j : Nat) (L : List Nd) (R : List Sl) (w : World) (hj : j < n) (hnb : n ≤ 16777216) (hn : ∀ k, k < n → nextOk L k) (hA : NodesIn w A n L R) :
    Calls Try.prog 45 #[.slice A n c, .int .i64 (j : Int)] w fun e w' => e = .returned (.bool (onAll L (aboveN L j))) ∧ Below w.heap.size w w' := by
  have HAB := Lib.hid (above_any A c n L R j w hj hnb (behind_less (next_behind hn) (by omega)) hA)
  have GA := Lib.hid hA
  have HNX := Lib.hid hn
  have hlen := above_len L n (next_behind hn) j hj
  have HLE := Lib.hid (above_le L n (next_behind hn) j j (Nat.le_refl _) hj)
  clear hA hn
  go_enter Try.func45, Try.ntmps45
  go_wp2_with fail
  refine HAB.out.mono ?_
  rintro e w2 ⟨A2, m, c2, hm, rfl, ho, hb2⟩
  have HM := Lib.hid hm
  have HB := Lib.hid hb2
  have hmb : m ≤ 16777217 := by rw [hm]; omega
  obtain ⟨A3, c3, hv, hs⟩ := own_src ho
  injection hv with q1 _ q3
  rw [← q1, ← q3] at hs
  have HS := Lib.hid hs
  clear hm hb2 ho hs q1 q3 hlen
  go_wp2_with fail
  go_loopw [6] (fun v6 wr => ∃ k : Nat, k ≤ m ∧ v6 = .int .i64 (k : Int) ∧ Hid (∀ j', j' < k → onP (L.getD ((aboveN L j).getD j' 0) nd0).props = true) ∧ Below w2.heap.size w2 wr) (fun v6 _ => m - (RowKit.intOf v6).toNat)
  case atStart => exact ⟨0, by omega, rfl, Lib.hid fun j' h => by omega, Below.refl _ _⟩
  case round =>
    obtain ⟨k, hk, rfl, HI, hbw⟩ := hrel
    have HBW2 := Lib.hid hbw
    have HBW := Lib.hid (bt HB.out hbw)
    clear hbw
    by_cases hlt : k < m
    · have hkl : k < (aboveN L j).length := by rw [← HM.out]; exact hlt
      obtain ⟨⟨b2, o2, sp⟩, rfl, hc2⟩ := src_get' (HS.out.below HBW2.out) (by omega)
      have d1 := hc2 k _ (nums_at _ k hkl)
      have hx : (aboveN L j).getD k 0 < n := by
        have h1 : (aboveN L j).getD k 0 ∈ aboveN L j := by
          rw [List.getD_eq_getElem?_getD, List.getElem?_eq_getElem hkl]
          exact List.getElem_mem hkl
        have := HLE.out _ h1
        omega
      have HAT := Lib.hid (onAll_at hkl HI.out)
      obtain ⟨b, o, rfl, hbs, hc⟩ := (GA.out.below HBW.out).at (by omega)
      obtain ⟨⟨e1, e2, e3⟩, e4⟩ := hc _ hx
      have hok := node_ok HNX.out hx
      clear hc hc2 hkl
      generalize (aboveN L j).getD k 0 = x at d1 e1 e2 e3 e4 HAT hx hok
      have HC := Lib.hid (refValueOf_any (L.getD x nd0) (R.getD x sl0) statusN wr (by have := hok.1; omega) e4)
      unfold ndV at HC
      rw [statusN_str] at HC
      have hlk := look_len hok statusN
      clear e4 hok
      generalize L.getD x nd0 = d at e1 e2 HC HAT hlk
      generalize R.getD x sl0 = r at e3 HC
      generalize str d.name = NM at e2 HC
      have p1 : (0 : Int) ≤ (k : Int) := by omega
      have p2 : (k : Int) < (m : Int) := by omega
      have p3 : (0 : Int) ≤ (x : Int) := by omega
      have p4 : (x : Int) < (n : Int) := by omega
      have HT := Lib.hid fun (W : World) => Cl.refText_any (str (lookT (look d.props statusN))) W (by rw [str_size]; omega)
      rw [str_list] at HT
      go_wp2_with fail
      refine HC.out.mono ?_
      rintro e w3 ⟨rfl, b3⟩
      have HB3 := Lib.hid (bt HBW2.out b3)
      clear b3
      go_wp2_with fail
      refine (HT.out _).mono ?_
      rintro e w4 ⟨rfl, b4⟩
      have HB4 := Lib.hid (bt HB3.out b4)
      clear b4 HT HC
      cases hl : look d.props statusN with
      | none =>
        have HP := Lib.hid (HAT.out.2 (onP_none hl))
        clear hl HAT
        go_wp2_with fail
        go_roundw
        case rel => exact ⟨k + 1, by omega, by go_num, HP.out, HB4.out⟩
        case measure => simp [RowKit.intOf]; omega
      | some v =>
        have HPS := Lib.hid (onP_some hl)
        have HEQ := Lib.hid (okay_eq (Cl.tOne v).1)
        clear hl
        simp only [lookT, Option.getD_some, Option.isSome_some]
        by_cases hz : (Cl.tOne v).2 = 0
        · have t1 : ((Cl.tOne v).2 != 0) = false := by rw [hz]; rfl
          by_cases hs : (Cl.tOne v).1 = okayN
          · have t2 : ((Cl.str (Cl.tOne v).1).toList == [111, 107, 97, 121]) = true := by rw [show Cl.str (Cl.tOne v).1 = str (Cl.tOne v).1 from rfl, HEQ.out, decide_eq_true hs]
            have HP := Lib.hid (HAT.out.2 (by rw [HPS.out]; exact decide_eq_true ⟨hz, hs⟩))
            clear hz hs HEQ HPS HAT
            generalize Cl.str (Cl.tOne v).1 = X at t2 ⊢
            go_wp2_with fail
            go_roundw
            case rel => exact ⟨k + 1, by omega, by go_num, HP.out, HB4.out⟩
            case measure => simp [RowKit.intOf]; omega
          · have t2 : ((Cl.str (Cl.tOne v).1).toList == [111, 107, 97, 121]) = false := by rw [show Cl.str (Cl.tOne v).1 = str (Cl.tOne v).1 from rfl, HEQ.out, decide_eq_false hs]
            have HP := Lib.hid (HAT.out.1 (by rw [HPS.out]; exact decide_eq_false fun h => hs h.2))
            clear hz hs HEQ HPS HAT
            generalize Cl.str (Cl.tOne v).1 = X at t2 ⊢
            go_wp2_with fail
            go_ret
            rw [HP.out]
            exact ⟨rfl, bt HB.out HB4.out⟩
        · have t1 : ((Cl.tOne v).2 != 0) = true := bne_iff_ne.2 hz
          have HP := Lib.hid (HAT.out.1 (by rw [HPS.out]; exact decide_eq_false fun h => hz h.1))
          clear hz HEQ HPS HAT
          generalize Cl.str (Cl.tOne v).1 = X
          go_wp2_with fail
          go_ret
          rw [HP.out]
          exact ⟨rfl, bt HB.out HB4.out⟩
    · obtain rfl : m = k := by omega
      have HP := Lib.hid (onAll_end HM.out HI.out)
      go_wp2_with fail
      go_ret
      rw [HP.out]
      exact ⟨rfl, bt HB.out HBW2.out⟩
set_option maxHeartbeats 4000000 in
theorem isEnabled_any (A : Option Addr) (c n j : Nat) (L : List Nd) (R : List Sl) (w : World) (hj : j < n) (hnb : n ≤ 16777216) (hn : ∀ k, k < n → nextOk L k) (hA : NodesIn w A n L R) :
    Calls Try.prog 44 #[.slice A n c, .int .i64 (j : Int)] w fun e w' => e = .returned (.bool (onAll L (aboveN L j))) ∧ Below w.heap.size w w' := by
  have GA := Lib.hid hA
  have HNX := Lib.hid hn
  have HBH := Lib.hid (next_behind hn)
  clear hA hn
  go_enter Try.func44, Try.ntmps44
  go_wp2_with fail
  go_loopw [1] (fun v1 wr => ∃ q : Int, q ≤ (j : Int) ∧ v1 = .int .i64 q ∧ Hid (onAll L (aboveN L j) = onAll L (upFrom L q)) ∧ Below w.heap.size w wr) (fun v1 _ => (RowKit.intOf v1 + 1).toNat)
  case atStart => exact ⟨j, by omega, rfl, Lib.hid (by rw [up_self]), Below.refl _ _⟩
  case round =>
    obtain ⟨q, hq, rfl, HQ, hbw⟩ := hrel
    have HBW := Lib.hid hbw
    clear hbw
    by_cases hq0 : 0 ≤ q
    · obtain ⟨p, rfl⟩ : ∃ p : Nat, q = (p : Int) := ⟨q.toNat, by omega⟩
      obtain ⟨b, o, rfl, hbs, hc⟩ := GA.out.at (by omega)
      have hpn : p < n := by omega
      have hok := node_ok HNX.out hpn
      have hlow := HBH.out p hpn
      have HCS : Hid (∀ W, Below w.heap.size w W → (W.cell? ⟨b, o + p * 3, none⟩ = some (.int .i64 (L.getD p nd0).parent) ∧ W.cell? ⟨b, o + p * 3 + 1, none⟩ = some (.string (str (L.getD p nd0).name)) ∧ W.cell? ⟨b, o + p * 3 + 2, none⟩ = some (.slice (R.getD p sl0).1 (R.getD p sl0).2.1 (R.getD p sl0).2.2))) := Lib.hid fun W hW =>
        ⟨by rw [hW.cell (p := ⟨b, o + p * 3, none⟩) hbs]; exact (hc p hpn).1.1, by rw [hW.cell (p := ⟨b, o + p * 3 + 1, none⟩) hbs]; exact (hc p hpn).1.2.1, by rw [hW.cell (p := ⟨b, o + p * 3 + 2, none⟩) hbs]; exact (hc p hpn).1.2.2⟩
      have HC := Lib.hid (valueOf_any (L.getD p nd0) (R.getD p sl0) statusN wr (by have := hok.1; omega) ((hc p hpn).2.below HBW.out))
      unfold ndV at HC
      rw [statusN_str] at HC
      have hlk := look_len hok statusN
      have HST : Hid (onAll L (aboveN L j) = (onP (L.getD p nd0).props && onAll L (upFrom L (L.getD p nd0).parent))) := Lib.hid (by rw [HQ.out, up_step HBH.out hpn, onAll_cons])
      clear hc hok HQ
      generalize L.getD p nd0 = d at HCS HC HST hlk hlow
      generalize R.getD p sl0 = r at HCS HC
      generalize str d.name = NM at HCS HC
      obtain ⟨e1, e2, e3⟩ := HCS.out _ HBW.out
      have p1 : (0 : Int) ≤ (p : Int) := by omega
      have p2 : (p : Int) < (n : Int) := by omega
      have p3 : decide ((0 : Int) ≤ (p : Int)) = true := decide_eq_true p1
      have HT := Lib.hid fun (W : World) => Cl.progText_any (str (lookT (look d.props statusN))) W (by rw [str_size]; omega)
      rw [str_list] at HT
      go_wp2_with fail
      refine HC.out.mono ?_
      rintro e w3 ⟨rfl, b3⟩
      have HB3 := Lib.hid (bt HBW.out b3)
      clear b3 e1 e2 e3
      cases hl : look d.props statusN with
      | none =>
        have HP : Hid (onAll L (aboveN L j) = onAll L (upFrom L d.parent)) := Lib.hid (by rw [HST.out, onP_none hl, Bool.true_and])
        have e1 := (HCS.out _ HB3.out).1
        clear hl HT HC HST
        go_wp2_with fail
        go_roundw
        case rel => exact ⟨d.parent, by omega, rfl, HP, HB3.out⟩
        case measure => simp [RowKit.intOf]; omega
      | some v =>
        have HPS := Lib.hid (onP_some hl)
        have HEQ := Lib.hid (okay_eq (Cl.tOne v).1)
        rw [hl] at HT
        clear hl HC
        simp only [lookT, lookE, Option.getD_some, Option.isSome_some] at HT ⊢
        go_wp2_with fail
        refine (HT.out _).mono ?_
        rintro e w4 ⟨rfl, b4⟩
        have HB4 := Lib.hid (bt HB3.out b4)
        clear b4 HT
        have e1 := (HCS.out _ HB4.out).1
        by_cases hz : (Cl.tOne v).2 = 0
        · have t1 : ((Cl.tOne v).2 != 0) = false := by rw [hz]; rfl
          by_cases hs : (Cl.tOne v).1 = okayN
          · have t2 : ((Cl.str (Cl.tOne v).1).toList == [111, 107, 97, 121]) = true := by rw [show Cl.str (Cl.tOne v).1 = str (Cl.tOne v).1 from rfl, HEQ.out, decide_eq_true hs]
            have HP : Hid (onAll L (aboveN L j) = onAll L (upFrom L d.parent)) := Lib.hid (by rw [HST.out, HPS.out, decide_eq_true (⟨hz, hs⟩ : _ ∧ _), Bool.true_and])
            clear hz hs HEQ HPS HST
            generalize Cl.str (Cl.tOne v).1 = X at t2 ⊢
            go_wp2_with fail
            go_roundw
            case rel => exact ⟨d.parent, by omega, rfl, HP, HB4.out⟩
            case measure => simp [RowKit.intOf]; omega
          · have t2 : ((Cl.str (Cl.tOne v).1).toList == [111, 107, 97, 121]) = false := by rw [show Cl.str (Cl.tOne v).1 = str (Cl.tOne v).1 from rfl, HEQ.out, decide_eq_false hs]
            have HP : Hid (onAll L (aboveN L j) = false) := Lib.hid (by rw [HST.out, HPS.out, decide_eq_false (fun h : _ ∧ _ => hs h.2), Bool.false_and])
            clear hz hs HEQ HPS HST
            generalize Cl.str (Cl.tOne v).1 = X at t2 ⊢
            go_wp2_with fail
            go_ret
            rw [HP.out]
            exact ⟨rfl, HB4.out⟩
        · have t1 : ((Cl.tOne v).2 != 0) = true := bne_iff_ne.2 hz
          have HP : Hid (onAll L (aboveN L j) = false) := Lib.hid (by rw [HST.out, HPS.out, decide_eq_false (fun h : _ ∧ _ => hz h.1), Bool.false_and])
          clear hz HEQ HPS HST
          generalize Cl.str (Cl.tOne v).1 = X
          go_wp2_with fail
          go_ret
          rw [HP.out]
          exact ⟨rfl, HB4.out⟩
    · have p3 : decide ((0 : Int) ≤ q) = false := decide_eq_false hq0
      have HP : Hid (onAll L (aboveN L j) = true) := Lib.hid (by
        rw [HQ.out]
        unfold upFrom
        rw [if_pos (by omega)]
        rfl)
      go_wp2_with fail
      go_ret
      rw [HP.out]
      exact ⟨rfl, HBW.out⟩
end Go.Proofs.Ytfafhkhamaccfaa.Tr
