/- The law SensorMade. -/
import Derived.Test.YtkloihfnngbceaaDoorSeM
namespace Go.Proofs.YtkloihfnngbceaaDoor.Se
open Go.ChangeShapes Go.WideShapes Go.ChangeAt Go.RowKit Own Ro

theorem tab_new (w : World) : ∀ i : Nat, i < 16 → (w.alloc (.cells tabV.toArray 22)).cell? ⟨w.heap.size, i, none⟩ = some (.int .i64 (ent i)) := fun i h => by
  rw [World.cell?_alloc_at _ _ _ _ rfl]
  simpa using tab_at i h
theorem v_ent (k : Int) (h0 : 0 ≤ k) (h1 : k < 24) : V.ent k = 300000 + 12500 * k + C.ent k + (if k = 0 then 467232 else 0) + (if k = 23 then 412500 else 0) := by
  unfold V.ent C.ent
  (repeat' split) <;> omega
theorem s_ent (k : Int) (h0 : 0 ≤ k) (h1 : k < 16) : ent k = -200000 + 10000 * k + V.ent k + (if k = 0 then 25000 else 0) + (if k = 15 then 500000 else 0) := by
  unfold V.ent ent
  (repeat' split) <;> omega
set_option maxRecDepth 100000 in
set_option maxHeartbeats 8000000 in
theorem made_any (w : World) (h : Tb3 w) : Calls Tryd.prog 6 #[] w (fun e w' => e = .returned (.bool true) ∧ Below w.heap.size w w') := by
  have HT := Lib.hid h
  clear h
  go_enter Tryd.func6, Tryd.ntmps6
  go_wp2_with fail
  refine (awake_any w HT.out.s).mono ?_
  rintro e w1 ⟨rfl, hb⟩
  have HB1 := Lib.hid hb
  have HT1 := Lib.hid (HT.out.below hb)
  clear hb
  go_wp2_with fail
  refine (C.table_any w1 HT1.out.c).mono ?_
  rintro e w2 ⟨rfl, hb⟩
  have HB2 := Lib.hid (bt HB1.out hb)
  have HT2 := Lib.hid (HT1.out.below hb)
  clear hb
  go_wp2_with (first | refine wpList_store_new rfl _ _ _ rfl _ C.tabV.toArray rfl rfl (by kernel_rfl) (by kernel_rfl) (by kernel_rfl) ?_)
  have HC1 := Lib.hid (C.tab_new w2)
  have HB3 := Lib.hid (bt HB2.out (grows' w2 (.cells C.tabV.toArray 47)))
  have HT3 := Lib.hid (HT2.out.alloc (.cells C.tabV.toArray 47))
  generalize w2.alloc (.cells C.tabV.toArray 47) = w3 at HC1 HB3 HT3 ⊢
  generalize w2.heap.size = gc at HC1 ⊢
  refine (V.table_any w3 HT3.out.v).mono ?_
  rintro e w4 ⟨rfl, hb⟩
  have HB4 := Lib.hid (bt HB3.out hb)
  have HT4 := Lib.hid (HT3.out.below hb)
  have HC2 := Lib.hid (fun (i : Nat) (h : i < 32) => show w4.cell? ⟨gc, i, none⟩ = some (.int .i64 (C.ent i)) by rw [hb.cell (cell_lt (HC1.out i h))]; exact HC1.out i h)
  clear hb HC1
  go_wp2_with (first | refine wpList_store_new rfl _ _ _ rfl _ V.tabV.toArray rfl rfl (by kernel_rfl) (by kernel_rfl) (by kernel_rfl) ?_)
  have HV1 := Lib.hid (V.tab_new w4)
  have hb := grows' w4 (.cells V.tabV.toArray 49)
  have HB5 := Lib.hid (bt HB4.out hb)
  have HT5 := Lib.hid (HT4.out.alloc (.cells V.tabV.toArray 49))
  generalize w4.alloc (.cells V.tabV.toArray 49) = w5 at HV1 HB5 HT5 hb ⊢
  have HC3 := Lib.hid (fun (i : Nat) (h : i < 32) => show w5.cell? ⟨gc, i, none⟩ = some (.int .i64 (C.ent i)) by rw [hb.cell (cell_lt (HC2.out i h))]; exact HC2.out i h)
  clear hb HC2
  generalize w4.heap.size = gv at HV1 ⊢
  refine (table_any w5 HT5.out.s).mono ?_
  rintro e w6 ⟨rfl, hb⟩
  have HB6 := Lib.hid (bt HB5.out hb)
  have HC4 := Lib.hid (fun (i : Nat) (h : i < 32) => show w6.cell? ⟨gc, i, none⟩ = some (.int .i64 (C.ent i)) by rw [hb.cell (cell_lt (HC3.out i h))]; exact HC3.out i h)
  have HV2 := Lib.hid (fun (i : Nat) (h : i < 24) => show w6.cell? ⟨gv, i, none⟩ = some (.int .i64 (V.ent i)) by rw [hb.cell (cell_lt (HV1.out i h))]; exact HV1.out i h)
  clear hb HC3 HV1
  go_wp2_with (first | refine wpList_store_new rfl _ _ _ rfl _ tabV.toArray rfl rfl (by kernel_rfl) (by kernel_rfl) (by kernel_rfl) ?_)
  have HS := Lib.hid (tab_new w6)
  have hb := grows' w6 (.cells tabV.toArray 22)
  have HB := Lib.hid (bt HB6.out hb)
  generalize w6.alloc (.cells tabV.toArray 22) = W at HS HB hb ⊢
  have HC := Lib.hid (fun (i : Nat) (h : i < 32) => show W.cell? ⟨gc, i, none⟩ = some (.int .i64 (C.ent i)) by rw [hb.cell (cell_lt (HC4.out i h))]; exact HC4.out i h)
  have HV := Lib.hid (fun (i : Nat) (h : i < 24) => show W.cell? ⟨gv, i, none⟩ = some (.int .i64 (V.ent i)) by rw [hb.cell (cell_lt (HV2.out i h))]; exact HV2.out i h)
  clear hb HC4 HV2 HT HT1 HT2 HT3 HT4 HT5 HB1 HB2 HB3 HB4 HB5 HB6
  generalize w6.heap.size = gs at HS ⊢
  go_loopw [4, 5] (fun v4 _ wr => ∃ (k : Nat), k ≤ 24 ∧ v4 = .int .i64 (k : Int) ∧ wr = W) (fun v4 _ _ => 24 - (RowKit.intOf v4).toNat)
  case atStart => exact ⟨0, by omega, rfl, rfl⟩
  case round =>
    obtain ⟨k, hk, rfl, rfl⟩ := hrel
    by_cases hlt : k < 24
    · have l1 : (0 : Int) ≤ (k : Int) := by omega
      have l2 : (k : Int) < 24 := by omega
      have cC := HC.out k (by omega)
      have cV := HV.out k hlt
      have e1 := v_ent k l1 l2
      have hmod : (k : Int).tmod 32 = k := Int.tmod_eq_of_lt l1 (by omega)
      have hb1 : 0 ≤ C.ent k ∧ C.ent k ≤ 100000000 := by unfold C.ent; (repeat' split) <;> omega
      rw [e1] at cV
      clear e1
      generalize C.ent (k : Int) = en at cC cV hb1
      by_cases z0 : k = 0
      · subst z0
        go_wp2_with fail
        go_roundw
        case rel => exact ⟨1, by omega, by go_num, by first | rfl | trivial⟩
        case measure => simp [RowKit.intOf]
      · by_cases z1 : k = 23
        · have n0 : ¬ (k : Int) = 0 := by omega
          have n1 : (k : Int) = 23 := by omega
          have q1 : ((k : Int) == 23) = true := by rw [n1]; rfl
          rw [if_neg n0, if_pos n1, Int.add_zero] at cV
          clear n1 z1
          go_wp2_with fail
          go_roundw
          case rel => exact ⟨k + 1, by omega, by go_num, by first | rfl | trivial⟩
          case measure => simp [RowKit.intOf]; omega
        · have n0 : ¬ (k : Int) = 0 := by omega
          have n1 : ¬ (k : Int) = 23 := by omega
          rw [if_neg n0, if_neg n1] at cV
          go_wp2_with fail
          go_roundw
          case rel => exact ⟨k + 1, by omega, by go_num, by first | rfl | trivial⟩
          case measure => simp [RowKit.intOf]; omega
    · have hge : decide ((k : Int) < 24) = false := decide_eq_false (by omega)
      clear hlt hk
      go_wp2_with fail
      clear hge
      generalize (k : Int) = iv
      generalize wr = W0 at HB HC HV HS ⊢
      clear HC
      have HW := Lib.hid (Below.refl W0.heap.size W0)
      go_loopw [6, 7] (fun v6 _ wx => ∃ (k : Int), 0 ≤ k ∧ k ≤ 16 ∧ v6 = .int .i64 k ∧ Below W0.heap.size W0 wx) (fun v6 _ _ => 16 - (RowKit.intOf v6).toNat)
      case atStart => exact ⟨0, by omega, by omega, rfl, HW.out⟩
      case round =>
        obtain ⟨k, hk0, hk, rfl, hbx⟩ := hrel
        have HX := Lib.hid hbx
        by_cases hlt : k < 16
        · by_cases z0 : k = 0
          · subst z0
            have cV : wr.cell? ⟨gv, 0, none⟩ = some (.int .i64 800000) := by rw [hbx.cell (cell_lt (HV.out 0 (by omega)))]; exact HV.out 0 (by omega)
            have cS : wr.cell? ⟨gs, 0, none⟩ = some (.int .i64 625000) := by rw [hbx.cell (cell_lt (HS.out 0 (by omega)))]; exact HS.out 0 (by omega)
            clear hbx
            go_wp2_with fail
            go_quiet (fail)
            go_wp2_with fail
            go_roundw
            case rel => exact ⟨1, by omega, by omega, by go_num, below_dr HX.out _⟩
            case measure => simp [RowKit.intOf]
          · obtain ⟨n, rfl⟩ : ∃ n : Nat, k = n := ⟨k.toNat, by omega⟩
            obtain ⟨p, hp⟩ : ∃ p : Nat, (n : Int) - 1 = (p : Int) := ⟨n - 1, by omega⟩
            have l0 : (0 : Int) ≤ (n : Int) := by omega
            have l1 : (n : Int) < 16 := by omega
            have l2 : (0 : Int) < (n : Int) := by omega
            have l3 : 0 < n := by omega
            have p0 : (0 : Int) ≤ (p : Int) := by omega
            have p1 : (p : Int) < 16 := by omega
            have l5 : IntKind.i64.wrap (p : Int) = (p : Int) := by rw [IntKind.wrap_i64]; omega
            have n0 : ¬ (n : Int) = 0 := by omega
            have cV : wr.cell? ⟨gv, n, none⟩ = some (.int .i64 (V.ent n)) := by have := HV.out n (by omega); rw [hbx.cell (cell_lt this)]; exact this
            have cS : wr.cell? ⟨gs, n, none⟩ = some (.int .i64 (ent n)) := by have := HS.out n (by omega); rw [hbx.cell (cell_lt this)]; exact this
            have c1 : wr.cell? ⟨gs, p, none⟩ = some (.int .i64 (ent p)) := by have := HS.out p (by omega); rw [hbx.cell (cell_lt this)]; exact this
            have e1 := s_ent n l0 l1
            have hmod : (n : Int).tmod 24 = (n : Int) := Int.tmod_eq_of_lt l0 (by omega)
            have hb1 : 0 ≤ V.ent n ∧ V.ent n ≤ 25000000 := by unfold V.ent; (repeat' split) <;> omega
            have h2 := ent_lt p n (by omega) (by omega) l1
            rw [e1, if_neg n0, Int.add_zero] at cS h2
            clear e1 hbx hk hk0 hlt z0
            generalize V.ent (n : Int) = en at cV cS hb1 h2
            generalize ent (p : Int) = ep at c1 h2
            by_cases z1 : (n : Int) = 15
            · have q1 : ((n : Int) == 15) = true := by rw [z1]; rfl
              rw [if_pos z1] at cS h2
              have h3 : ¬ -200000 + 10000 * (n : Int) + en + 500000 ≤ ep := by omega
              replace hp := Lib.hid hp
              clear h2 z1
              go_wp2_with fail
              replace hp := hp.out
              go_quiet (fail)
              go_wp2_with fail
              go_roundw
              case rel => exact ⟨(n : Int) + 1, by omega, by omega, by go_num, below_dr HX.out _⟩
              case measure => simp [RowKit.intOf]; omega
            · rw [if_neg z1, Int.add_zero] at cS h2
              have h3 : ¬ -200000 + 10000 * (n : Int) + en ≤ ep := by omega
              replace hp := Lib.hid hp
              clear h2
              go_wp2_with fail
              replace hp := hp.out
              go_quiet (fail)
              go_wp2_with fail
              go_roundw
              case rel => exact ⟨(n : Int) + 1, by omega, by omega, by go_num, below_dr HX.out _⟩
              case measure => simp [RowKit.intOf]; omega
        · obtain rfl : k = 16 := by omega
          go_wp2_with fail
          go_ret
          exact ⟨rfl, bt HB.out HX.out⟩
end Go.Proofs.YtkloihfnngbceaaDoor.Se
