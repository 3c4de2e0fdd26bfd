/- Depth: the program's, the document's. -/
import Derived.Test.YtfafhkhamaccfaaTaA
namespace Go.Proofs.Ytfafhkhamaccfaa.Tr
open Go.ChangeShapes Go.WideShapes Go.ChangeAt Go.RowKit Own wordsNames

theorem pl_err {L : List Nd} {i er : Int} (h : Pl L i er) : er = 40 ∨ er = 1 ∨ (er = 0 ∧ 0 ≤ i ∧ i < (L.length : Int) ∧ Behind L L.length) := by
  obtain ⟨i0, e0, hch, ⟨_, h⟩ | ⟨_, _, h⟩ | ⟨h0, h1, h2, h⟩⟩ := h
  · exact .inl h
  · exact .inr (.inl h)
  · refine .inr (.inr ⟨h, h1, h2, ?_⟩)
    rcases hch with ⟨_, _, _, e⟩ | ⟨_, _, e⟩ | ⟨_, hk, _, _⟩
    · omega
    · omega
    · exact next_behind hk
def depthV (L : List Nd) (i er : Int) : Int := if er = 0 then ((aboveN L i.toNat).length : Int) else 0
theorem depth_bad (L : List Nd) (i : Int) {er : Int} (h : er ≠ 0) : depthV L i er = 0 := if_neg h
theorem behind_less {L : List Nd} {n m : Nat} (h : Behind L n) (hm : m ≤ n) : Behind L m := fun k hk => h k (by omega)
set_option maxHeartbeats 2000000 in
theorem refDepth_any (A : Option Addr) (c n : Nat) (L : List Nd) (R : List Sl) (i er : Int) (w : World) (hp : Pl L i er) (hm : Mild L) (hA : NodesIn w A n L R) :
    Calls Try.prog 8 #[.slice A n c, .int .i64 i] w fun e w' => e = .returned (.tuple #[.int .i64 (depthV L i er), .int .i64 er]) ∧ Below w.heap.size w w' := by
  have HW := Lib.hid (wrong_any A c n L R i er w hp hm hA)
  rcases pl_err hp with rfl | rfl | ⟨rfl, h1, h2, hb⟩
  · rw [depth_bad L i (by omega)]
    clear hp hm hA
    go_enter Try.func8, Try.ntmps8
    go_wp2_with fail
    refine HW.out.mono ?_
    rintro e w2 ⟨rfl, hb⟩
    go_wp2_with fail
    go_ret2
    exact ⟨rfl, hb⟩
  · rw [depth_bad L i (by omega)]
    clear hp hm hA
    go_enter Try.func8, Try.ntmps8
    go_wp2_with fail
    refine HW.out.mono ?_
    rintro e w2 ⟨rfl, hb⟩
    go_wp2_with fail
    go_ret2
    exact ⟨rfl, hb⟩
  · obtain ⟨j, rfl⟩ : ∃ j : Nat, i = (j : Int) := ⟨i.toNat, by omega⟩
    have hj : j < n := by rw [hA.1]; omega
    have hnb : n ≤ 16777216 := by have := hm.1; have := hA.1; omega
    have HD : Hid (depthV L (j : Int) 0 = ((aboveN L j).length : Int)) := Lib.hid (by unfold depthV; rw [if_pos rfl, Int.toNat_natCast])
    have HA := Lib.hid fun (W : World) (hW : Below w.heap.size w W) => above_any A c n L R j W hj hnb (behind_less hb (by omega)) (hA.below hW)
    clear hp hm hA hb h1 h2
    go_enter Try.func8, Try.ntmps8
    go_wp2_with fail
    refine HW.out.mono ?_
    rintro e w2 ⟨rfl, hb⟩
    have HB := Lib.hid hb
    clear hb
    go_wp2_with fail
    refine (HA.out _ HB.out).mono ?_
    rintro e w3 ⟨A2, m, c2, hm, rfl, _, hb3⟩
    have HB3 := Lib.hid (bt HB.out hb3)
    have HM := Lib.hid hm
    clear hm hb3
    go_wp2_with fail
    go_ret2
    rw [HD.out, ← HM.out]
    exact ⟨rfl, HB3.out⟩
set_option maxHeartbeats 2000000 in
theorem tDepth_any (A : Option Addr) (c n : Nat) (L : List Nd) (R : List Sl) (i er : Int) (w : World) (hp : Pl L i er) (hm : Mild L) (hw : Wf L) (hcp : Caps R) (hA : NodesIn w A n L R) :
    Calls Try.prog 7 #[.slice A n c, .int .i64 i] w fun e w' => e = .returned (.tuple #[.int .i64 (depthV L i er), .int .i64 er]) ∧ Below w.heap.size w w' := by
  have HP := Lib.hid (place_any A c n L R i er w hp hm hw hcp hA)
  rcases pl_err hp with rfl | rfl | ⟨rfl, h1, h2, hb⟩
  · rw [depth_bad L i (by omega)]
    clear hp hm hA hw hcp
    go_enter Try.func7, Try.ntmps7
    go_wp2_with fail
    refine HP.out.mono ?_
    rintro e w2 ⟨rfl, hb⟩
    go_wp2_with fail
    go_ret2
    exact ⟨rfl, hb⟩
  · rw [depth_bad L i (by omega)]
    clear hp hm hA hw hcp
    go_enter Try.func7, Try.ntmps7
    go_wp2_with fail
    refine HP.out.mono ?_
    rintro e w2 ⟨rfl, hb⟩
    go_wp2_with fail
    go_ret2
    exact ⟨rfl, hb⟩
  · obtain ⟨j, rfl⟩ : ∃ j : Nat, i = (j : Int) := ⟨i.toNat, by omega⟩
    have hj : j < n := by rw [hA.1]; omega
    have hnb : n ≤ 16777216 := by have := hm.1; have := hA.1; omega
    have HD : Hid (depthV L (j : Int) 0 = ((aboveN L j).length : Int)) := Lib.hid (by unfold depthV; rw [if_pos rfl, Int.toNat_natCast])
    have HBH : Hid (Behind L n) := Lib.hid (by rw [hA.1]; exact hb)
    have GA := Lib.hid hA
    clear hp hm hA hw hcp hb h1 h2
    go_enter Try.func7, Try.ntmps7
    go_wp2_with fail
    refine HP.out.mono ?_
    rintro e w2 ⟨rfl, hb⟩
    have HB := Lib.hid hb
    clear hb
    go_wp2_with fail
    go_loopw [1, 7] (fun v1 v7 wr => ∃ (q : Int) (m : Nat), q ≤ (j : Int) ∧ v1 = .int .i64 q ∧ v7 = .int .i64 (m : Int) ∧ (m : Int) + q ≤ (j : Int) ∧ m ≤ j + 1 ∧ Hid ((aboveN L j).length = m + (upFrom L q).length) ∧ Below w.heap.size w wr) (fun v1 _ _ => (RowKit.intOf v1 + 1).toNat)
    case atStart => exact ⟨j, 0, by omega, rfl, rfl, by omega, by omega, Lib.hid (by unfold upFrom; rw [if_neg (by omega), Int.toNat_natCast]; omega), HB.out⟩
    case round =>
      clear HB
      obtain ⟨q, m, hq, rfl, rfl, hmq, hmj, HT, hbw⟩ := hrel
      have HB := Lib.hid hbw
      clear hbw
      by_cases hq0 : 0 ≤ q
      · obtain ⟨p, rfl⟩ : ∃ p : Nat, q = (p : Int) := ⟨q.toNat, by omega⟩
        obtain ⟨b, o, rfl, hbs, hc⟩ := (GA.out.below HB.out).at (by omega)
        have e0 := (hc p (by omega)).1.1
        have hlow := HBH.out p (by omega)
        have HT2 : Hid ((aboveN L j).length = m + 1 + (upFrom L (L.getD p nd0).parent).length) := Lib.hid (by
          rw [HT.out]
          have h := above_step L n HBH.out p (by omega)
          show m + (if ((p : Nat) : Int) < 0 then [] else aboveN L ((p : Nat) : Int).toNat).length = _
          rw [if_neg (by omega), Int.toNat_natCast, h, List.length_cons]
          unfold upFrom
          omega)
        clear hc
        generalize (L.getD p nd0).parent = z at e0 hlow HT2
        have t1 : decide ((0 : Int) ≤ (p : Int)) = true := decide_eq_true (by omega)
        go_wp2_with fail
        go_roundw
        case rel => exact ⟨z, m + 1, by omega, rfl, by go_num, by omega, by omega, HT2, HB.out⟩
        case measure => simp [RowKit.intOf]; omega
      · have t1 : decide ((0 : Int) ≤ q) = false := decide_eq_false hq0
        have HT2 : Hid ((aboveN L j).length = m) := Lib.hid (by
          rw [HT.out]
          unfold upFrom
          rw [if_pos (by omega)]
          rfl)
        go_wp2_with fail
        go_ret2
        rw [HD.out, HT2.out]
        exact ⟨rfl, HB.out⟩
end Go.Proofs.Ytfafhkhamaccfaa.Tr
