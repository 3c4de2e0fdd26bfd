/- The law SensorRises. -/
import Derived.Test.YtkloihfnngbceaaDoorSeM
import Derived.Test.YtkloihfnngbceaaDoorSeL
import Derived.Deep.Cut
import Derived.Deep.DeepCutAuto
namespace Go.Proofs.YtkloihfnngbceaaDoor.Se
open Go.ChangeShapes Go.WideShapes Go.ChangeAt Go.RowKit Own Ro

theorem mil_mono {a b i j : Int} (ha : At a i) (hb : At b j) (h : a ≤ b) : mil a i ≤ mil b j := by
  have ba := mil_bd ha
  have bb := mil_bd hb
  rcases Int.lt_trichotomy i j with hij | rfl | hij
  · unfold mil; omega
  · have hs := step_bd i ha.lo ha.hi
    have := Int.ediv_le_ediv (c := ent (i + 1) - ent i) (by omega) (show 10000 * (a - ent i) ≤ 10000 * (b - ent i) by omega)
    unfold mil; omega
  · exfalso
    have h1 := ent_le (i := j + 1) (k := i) (by have := hb.lo; omega) (by omega) (by have := ha.hi; omega)
    have h2 := ha.ge
    have h3 := hb.lt
    omega
theorem milV_mono {a b : Int} (h : a ≤ b) : (milV a).1 ≤ (milV b).1 := by
  have ba := milV_bd a
  have bb := milV_bd b
  by_cases h1 : a < 625000
  · rw [show milV a = (-40000, false) by unfold milV; rw [if_pos h1]]
    exact bb.1
  by_cases h2 : 16937500 ≤ b
  · rw [show milV b = (110000, decide (b = 16937500)) by unfold milV; rw [if_neg (by omega), if_pos h2]]
    exact ba.2
  rw [show milV a = (mil a (pos a), true) by unfold milV; rw [if_neg h1, if_neg (by omega)], show milV b = (mil b (pos b), true) by unfold milV; rw [if_neg (by omega), if_neg h2]]
  exact mil_mono (pos_at (by omega) (by omega)) (pos_at (by omega) (by omega)) h
theorem milV_on (a : Int) : (milV a).2 = (decide (625000 ≤ a) && decide (a ≤ 16937500)) := by
  unfold milV
  by_cases h1 : a < 625000
  · rw [if_pos h1, show decide (625000 ≤ a) = false from decide_eq_false (by omega)]; rfl
  · rw [if_neg h1, show decide (625000 ≤ a) = true from decide_eq_true (by omega)]
    by_cases h2 : 16937500 ≤ a
    · rw [if_pos h2]
      by_cases h3 : a = 16937500
      · subst h3; rfl
      · show decide (a = 16937500) = _
        rw [decide_eq_false h3, decide_eq_false (by omega)]; rfl
    · rw [if_neg h2, decide_eq_true (show a ≤ 16937500 by omega)]; rfl
theorem tab_new2 (w : World) : (w.alloc (.cells tabV.toArray 22)).cell? ⟨w.heap.size, 0, none⟩ = some (.int .i64 625000) ∧ (w.alloc (.cells tabV.toArray 22)).cell? ⟨w.heap.size, 15, none⟩ = some (.int .i64 16937500) := by
  rw [World.cell?_alloc_at _ _ _ _ rfl, World.cell?_alloc_at _ _ _ _ rfl]
  exact ⟨by simp [tabV, tab], by simp [tabV, tab]⟩
theorem kel_le (a b : Int) (h0 : -40000 ≤ a) (h : a ≤ b) (h1 : b ≤ 110000) : ∃ o, FloatKind.f64.format.order (kelN a) (kelN b) = some o ∧ o ≠ .gt := by
  obtain ⟨R, q, s, hr, _, _⟩ := Fl.kv_all a h0 (by omega)
  obtain ⟨R', q', s', hr', _, _⟩ := Fl.kv_all b (by omega) h1
  obtain ⟨x, y, p, ho, _, _⟩ := Fl.order_is hr hr'
  have := Fl.kel_mono h0 h h1
  rw [ho] at this
  refine ⟨_, ho, fun e => ?_⟩
  rw [e] at this
  exact absurd this (by decide)
set_option maxRecDepth 100000 in
set_option maxHeartbeats 8000000 in
theorem rises_any (a b : Int) (w : World) (hT : Tb w) : Calls Tryd.prog 7 #[.int .i64 a, .int .i64 b] w (fun e w' => e = .returned (.bool true) ∧ Below w.heap.size w w') := by
  have HT := Lib.hid hT
  clear hT
  go_enter Tryd.func7, Tryd.ntmps7
  go_wp2_with fail
  refine (awake_any w HT.out).mono ?_
  rintro e w1 ⟨rfl, hb⟩
  have HB1 := Lib.hid hb
  have HT1 := Lib.hid (HT.out.below hb)
  clear hb
  go_upto_if 17 with fail
  go_cut [0, 1] (fun s0 s1 wx => ∃ lo hi : Int, s0 = .int .i64 lo ∧ s1 = .int .i64 hi ∧ lo ≤ hi ∧ wx = w1)
  case first =>
    by_cases h : b < a
    · go_wp2_with fail
      all_goals
        go_meet
        first | exact ⟨b, a, rfl, rfl, by omega, rfl⟩ | (exfalso; omega)
    · go_wp2_with fail
      all_goals
        go_meet
        first | exact ⟨a, b, rfl, rfl, by omega, rfl⟩ | (exfalso; omega)
  case rest =>
  obtain ⟨lo, hi, rfl, rfl, hle, hw⟩ := hcut
  rw [hw]
  clear hw
  have HX := Lib.hid (milV_bd lo)
  have HY := Lib.hid (milV_bd hi)
  have HM := Lib.hid (milV_mono hle)
  have H1 := Lib.hid (fun V (hV : Tb V) => milli_any lo V hV)
  have H2 := Lib.hid (fun V (hV : Tb V) => milli_any hi V hV)
  have H3 := Lib.hid (fun V (hV : Tb V) => degrees_any lo V hV)
  have K1 := Lib.hid (fun V (hV : Tb V) => kelvin_any lo V hV)
  have K2 := Lib.hid (fun V (hV : Tb V) => kelvin_any hi V hV)
  have HK := Lib.hid (kel_le _ _ (milV_bd lo).1 (milV_mono hle) (milV_bd hi).2)
  rw [milV_on] at H1 H2 H3
  generalize hp : (decide (625000 ≤ lo) && decide (lo ≤ 16937500)) = p at H1 H3
  generalize hq : (decide (625000 ≤ hi) && decide (hi ≤ 16937500)) = q at H2
  replace hp := Lib.hid hp
  replace hq := Lib.hid hq
  generalize (milV lo).1 = x at HX HM H1 H3 K1 HK
  generalize (milV hi).1 = y at HY HM H2 K2 HK
  generalize kelN x = kx at K1 HK
  generalize kelN y = ky at K2 HK
  obtain ⟨d, hd⟩ : ∃ d, d = (x + 500) / 1000 := ⟨_, rfl⟩
  rw [← hd] at H3
  have HD := Lib.hid (show -40 ≤ d ∧ d ≤ 110 ∧ 1000 * d - x ≤ 500 ∧ -500 < 1000 * d - x by have := HX.out; omega)
  clear hd
  go_step
  go_wp2_with fail
  refine (H1.out _ HT1.out).mono ?_
  rintro e w2 ⟨rfl, hb⟩
  have HB2 := Lib.hid (bt HB1.out hb)
  have HT2 := Lib.hid (HT1.out.below hb)
  clear hb
  go_wp2_with fail
  refine (H2.out _ HT2.out).mono ?_
  rintro e w3 ⟨rfl, hb⟩
  have HB3 := Lib.hid (bt HB2.out hb)
  have HT3 := Lib.hid (HT2.out.below hb)
  clear hb
  go_wp2_with fail
  refine (H3.out _ HT3.out).mono ?_
  rintro e w4 ⟨rfl, hb⟩
  have HB4 := Lib.hid (bt HB3.out hb)
  have HT4 := Lib.hid (HT3.out.below hb)
  clear hb
  go_wp2_with fail
  refine (table_any w4 HT4.out).mono ?_
  rintro e w5 ⟨rfl, hb⟩
  have HB5 := Lib.hid (bt HB4.out hb)
  have HT5 := Lib.hid (HT4.out.below hb)
  clear hb
  go_upto_region 9 with (first | refine wpList_store_new rfl _ _ _ rfl _ tabV.toArray rfl rfl (by kernel_rfl) (by kernel_rfl) (by kernel_rfl) ?_)
  have HB6 := Lib.hid (bt HB5.out (grows' w5 (.cells tabV.toArray 22)))
  have HT6 := Lib.hid (HT5.out.alloc (.cells tabV.toArray 22))
  obtain ⟨c0, c1⟩ := tab_new2 w5
  generalize w5.alloc (.cells tabV.toArray 22) = W at HB6 HT6 c0 c1 ⊢
  generalize w5.heap.size = g at c0 c1 ⊢
  dsimp only [Act.put]
  go_cut [79] (fun s79 wx => s79 = .bool false ∧ wx = W)
  case first =>
    have f1 : ¬ y < x := by have := HM.out; omega
    have f2 : ¬ d < -40 := by have := HD.out; omega
    have f3 : ¬ 110 < d := by have := HD.out; omega
    clear hle
    rcases hA : decide (625000 ≤ lo) with _ | _ <;> rcases hB : decide (lo ≤ 16937500) with _ | _ <;> rcases hC : decide (625000 ≤ hi) with _ | _ <;> rcases hE : decide (hi ≤ 16937500) with _ | _
    all_goals
      have hp := hp.out
      have hq := hq.out
      rw [hA, hB] at hp
      rw [hC, hE] at hq
      simp only [Bool.and_true, Bool.and_false] at hp hq
      subst hp hq
      go_wp2_with fail
      go_meet
      exact ⟨rfl, rfl⟩
  case rest =>
  obtain ⟨rfl, hw⟩ := hcut
  rw [hw]
  clear hw
  have e1 : wrap64 d = d := by have := HD.out; unfold wrap64; omega
  have e2 : wrap64 (1000 * d) = 1000 * d := by have := HD.out; unfold wrap64; omega
  have e3 : wrap64 x = x := by have := HX.out; unfold wrap64; omega
  have e4 : wrap64 (1000 * d - x) = 1000 * d - x := by have := HX.out; have := HD.out; unfold wrap64; omega
  have g1 : 1000 * d - x ≤ 500 := by have := HD.out; omega
  have g2 : -500 < 1000 * d - x := by have := HD.out; omega
  obtain ⟨o, ho, hne⟩ := HK.out
  clear hle c0 c1 HM
  go_step
  go_wp2_with fail
  refine (K1.out _ HT6.out).mono ?_
  rintro e w7 ⟨rfl, hb⟩
  have HB7 := Lib.hid (bt HB6.out hb)
  have HT7 := Lib.hid (HT6.out.below hb)
  clear hb
  go_wp2_with fail
  refine (K2.out _ HT7.out).mono ?_
  rintro e w8 ⟨rfl, hb⟩
  have HB8 := Lib.hid (bt HB7.out hb)
  clear hb
  cases o with
  | lt =>
    go_wp2_with fail
    go_ret
    exact ⟨rfl, HB8.out⟩
  | eq =>
    go_wp2_with fail
    go_ret
    exact ⟨rfl, HB8.out⟩
  | gt => exact absurd rfl hne
end Go.Proofs.YtkloihfnngbceaaDoor.Se
