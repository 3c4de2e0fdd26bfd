/- The document's array of the fifth family, its Hertz, Near and Shift (P12.1). -/
import Derived.Test.YtinocgngjhomcaaDoorRaC
import Derived.Test.YtinocgngjhomcaaDoorBuC
import Derived.Test.YtinocgngjhomcaaDoorSeA
namespace Go.Proofs.YtinocgngjhomcaaDoor.Ra
open Go.ChangeShapes Go.WideShapes Go.ChangeAt Go.RowKit Own Ro

theorem r_entD : ∀ i < 20, ent (i : Nat) = 160000000 + 25000 * ((i : Nat) : Int) + Bu.ent (i : Nat) + 2 * Se.ent ((i % 16 : Nat) : Int) - (if i = 0 then 2320 else 0) - (if i = 19 then 30640 else 0) := by decide
theorem firsts_tab : Bu.firsts ent 20 = tabV := by rfl
set_option maxRecDepth 100000 in
set_option maxHeartbeats 8000000 in
theorem nums12_any (w : World) : Calls Tryd.prog 35 #[] w (fun e w' => ∃ g c, e = .returned (.slice (some ⟨g, 0, none⟩) 20 c) ∧ w.heap.size ≤ g ∧ w'.ownsRow w.heap.size 2 1 (.slice (some ⟨g, 0, none⟩) 20 c) 20 tabV ∧ Below w.heap.size w w') := by
  have HN9 := Lib.hid (Bu.nums_any w)
  go_enter Tryd.func35, Tryd.ntmps35
  go_wp2_with fail
  refine HN9.out.mono ?_
  rintro e w2 ⟨g9, c9, rfl, hg9, h1, h2⟩
  have O9 := Lib.hid h1
  have B9 := Lib.hid h2
  clear h1 h2 HN9 hg9
  go_wp2_with fail
  go_loopw [2, 3] (fun v1 v2 wr => ∃ (k : Nat), k ≤ 20 ∧ v2 = .int .i64 (k : Int) ∧ Below w2.heap.size w2 wr ∧ ∃ A c, v1 = .slice A k c ∧ wr.ownsRow w2.heap.size 2 1 (.slice A k c) k (Bu.firsts ent k)) (fun _ v2 _ => 20 - (RowKit.intOf v2).toNat)
  case atStart => exact ⟨0, by omega, rfl, Below.refl _ _, none, 0, rfl, own_nil _ _ _⟩
  case round =>
    obtain ⟨k, hk, rfl, hb, A, c, rfl, ho⟩ := hrel
    have HB := Lib.hid hb
    have HO := Lib.hid ho
    have hsz : w2.heap.size ≤ wr.heap.size := hb.size
    clear hb ho
    by_cases hlt : k < 20
    · have l1 : (0 : Int) ≤ (k : Int) := by omega
      have l2 : (k : Int) < 20 := by omega
      obtain ⟨im, him⟩ : ∃ im : Nat, k % 16 = im := ⟨_, rfl⟩
      have m1 : (0 : Int) ≤ (im : Int) := by omega
      have m2 : (im : Int) < 16 := by omega
      have HE := Lib.hid (fun V => Se.refEntry_any (im : Int) V m1 m2)
      have HF := Lib.hid (show Bu.firsts ent k ++ [.int .i64 (ent k)] = Bu.firsts ent (k + 1) from Bu.firsts_snoc ent k)
      have hv := r_entD k hlt
      rw [him] at hv
      have b1 := Bu.ent_bd k l1 l2
      have b2 := Se.ent_bd im m1 m2
      have e0 : w2.cell? ⟨g9, k, none⟩ = some (.int .i64 (Bu.ent k)) := by
        rw [O9.out.cellAt k (by omega)]
        exact Bu.tab_at k hlt
      generalize Bu.ent (k : Nat) = eb at hv b1 e0
      generalize Se.ent (im : Nat) = es at hv b2 HE
      have HKP := Lib.hid (fun V (hV : Below w2.heap.size w2 V) => show V.cell? ⟨g9, k, none⟩ = some (.int .i64 eb) ∧ Below w2.heap.size w2 V from ⟨by rw [hV.cell (cell_lt e0)]; exact e0, hV⟩)
      have s0 : Int.tmod (k : Int) 20 = (k : Int) := Int.tmod_eq_of_lt l1 l2
      have s9 : Int.tmod (k : Int) 16 = (im : Int) := by rw [Int.tmod_eq_emod_of_nonneg l1]; omega
      have s1 : IntKind.i64.wrap (25000 * (k : Int)) = 25000 * (k : Int) := IntWalk.i64_in _ (by omega)
      have s2 : IntKind.i64.wrap (160000000 + 25000 * (k : Int)) = 160000000 + 25000 * (k : Int) := IntWalk.i64_in _ (by omega)
      have s3 : IntKind.i64.wrap (160000000 + 25000 * (k : Int) + eb) = 160000000 + 25000 * (k : Int) + eb := IntWalk.i64_in _ (by omega)
      have s4 : IntKind.i64.wrap (2 * es) = 2 * es := IntWalk.i64_in _ (by omega)
      have s5 : IntKind.i64.wrap (160000000 + 25000 * (k : Int) + eb + 2 * es) = 160000000 + 25000 * (k : Int) + eb + 2 * es := IntWalk.i64_in _ (by omega)
      have s6 : IntKind.i64.wrap (160000000 + 25000 * (k : Int) + eb + 2 * es - 2320) = 160000000 + 25000 * (k : Int) + eb + 2 * es - 2320 := IntWalk.i64_in _ (by omega)
      have s7 : IntKind.i64.wrap (160000000 + 25000 * (k : Int) + eb + 2 * es - 30640) = 160000000 + 25000 * (k : Int) + eb + 2 * es - 30640 := IntWalk.i64_in _ (by omega)
      have S6 := Lib.hid s6
      have S7 := Lib.hid s7
      have HV := Lib.hid hv
      obtain ⟨f0, _⟩ := HKP.out _ HB.out
      clear e0 b1 b2 s6 s7 hv him
      go_wp2_with fail
      go_region_held3 (fun w' => w'.cell? ⟨g9, k, none⟩ = some (.int .i64 eb) ∧ Below w2.heap.size w2 w')
        (first | exact HKP.out _ (by assumption) | exact HKP.out _ HB.out | exact HKP.out _ (below_dr HB.out 1) | exact HKP.out _ (below_dr (bal HB.out rfl _) 1) | exact HKP.out _ (bal HB.out rfl _))
        (first
          | (go_at_call 46; refine (HE.out _).mono ?_; rintro e w9 ⟨rfl, rfl⟩))
      have HB1 := Lib.hid (below_dr HB.out 1)
      have HO1 := Lib.hid (own_belowK HO.out (below_dr (Below.refl _ _) 1))
      rw [show wr.drewN 1 = wr.drew from rfl] at HB1 HO1
      clear HB HO HKP f0 s0 s9 s1 s2 s3 s4 s5 HE m1 m2
      generalize wr.drew = w4 at HB1 HO1 ⊢
      have hsz1 : w2.heap.size ≤ w4.heap.size := HB1.out.size
      have hq : k < 20 := hlt
      by_cases k0 : k = 0
      · have q0 : ((k : Int) == 0) = true := by rw [k0]; rfl
        have q1 : ((k : Int) == 19) = false := by rw [k0]; rfl
        have s6 := S6.out
        have HK0 := Lib.hid k0
        clear k0
        have HSN := Lib.hid (show Bu.firsts ent k ++ [.int .i64 (160000000 + 25000 * (k : Int) + eb + 2 * es - 2320)] = Bu.firsts ent (k + 1) from by
          rw [← HF.out, HV.out, if_pos HK0.out, if_neg (by have := HK0.out; omega), Int.sub_zero])
        have HQ := Lib.hid hq
        go_wp2_with (at_builtin; go_must (refine wpList_append_src rfl (.tmp 34) (.tmp 36) 67 rfl w2.heap.size 2 (.int .i64 0) 8 Tryd.underlying67 info_i64 rfl _ k (Bu.firsts ent k) rfl (own_belowK HO1.out (grows' w4 _)) _ 1 1 [.int .i64 (160000000 + 25000 * (k : Int) + eb + 2 * es - 2320)] rfl (src_new _ _ _) (by intro u hu; simp at hu; subst hu; rfl) (by omega) (by omega) (by simp; omega) ?_); intro v1 w3 hown1 hg1)
        rw [HSN.out] at hown1
        obtain ⟨A', c', rfl, _⟩ := own_src hown1
        have HB3 := Lib.hid (below_grown' HB1.out hsz1 HO1.out (Nat.le_refl _) hg1)
        go_roundw
        case rel => exact ⟨k + 1, by omega, by go_num, HB3.out, A', c', rfl, hown1⟩
        case measure => simp [RowKit.intOf]; have := HQ.out; omega
      · by_cases k9 : k = 19
        · have q0 : ((k : Int) == 0) = false := by simp; omega
          have q1 : ((k : Int) == 19) = true := by rw [k9]; rfl
          have s7 := S7.out
          have HK9 := Lib.hid k9
          clear k0 k9
          have HSN := Lib.hid (show Bu.firsts ent k ++ [.int .i64 (160000000 + 25000 * (k : Int) + eb + 2 * es - 30640)] = Bu.firsts ent (k + 1) from by
            rw [← HF.out, HV.out, if_neg (by have := HK9.out; omega), Int.sub_zero, if_pos HK9.out])
          have HQ := Lib.hid hq
          go_wp2_with (at_builtin; go_must (refine wpList_append_src rfl (.tmp 34) (.tmp 36) 67 rfl w2.heap.size 2 (.int .i64 0) 8 Tryd.underlying67 info_i64 rfl _ k (Bu.firsts ent k) rfl (own_belowK HO1.out (grows' w4 _)) _ 1 1 [.int .i64 (160000000 + 25000 * (k : Int) + eb + 2 * es - 30640)] rfl (src_new _ _ _) (by intro u hu; simp at hu; subst hu; rfl) (by omega) (by omega) (by simp; omega) ?_); intro v1 w3 hown1 hg1)
          rw [HSN.out] at hown1
          obtain ⟨A', c', rfl, _⟩ := own_src hown1
          have HB3 := Lib.hid (below_grown' HB1.out hsz1 HO1.out (Nat.le_refl _) hg1)
          go_roundw
          case rel => exact ⟨k + 1, by omega, by go_num, HB3.out, A', c', rfl, hown1⟩
          case measure => simp [RowKit.intOf]; have := HQ.out; omega
        · have q0 : ((k : Int) == 0) = false := by simp; omega
          have q1 : ((k : Int) == 19) = false := by simp; omega
          have HK0 := Lib.hid (And.intro k0 k9)
          clear k0 k9
          have HSN := Lib.hid (show Bu.firsts ent k ++ [.int .i64 (160000000 + 25000 * (k : Int) + eb + 2 * es)] = Bu.firsts ent (k + 1) from by
            rw [← HF.out, HV.out, if_neg HK0.out.1, if_neg HK0.out.2, Int.sub_zero, Int.sub_zero])
          have HQ := Lib.hid hq
          go_wp2_with (at_builtin; go_must (refine wpList_append_src rfl (.tmp 34) (.tmp 36) 67 rfl w2.heap.size 2 (.int .i64 0) 8 Tryd.underlying67 info_i64 rfl _ k (Bu.firsts ent k) rfl (own_belowK HO1.out (grows' w4 _)) _ 1 1 [.int .i64 (160000000 + 25000 * (k : Int) + eb + 2 * es)] rfl (src_new _ _ _) (by intro u hu; simp at hu; subst hu; rfl) (by omega) (by omega) (by simp; omega) ?_); intro v1 w3 hown1 hg1)
          rw [HSN.out] at hown1
          obtain ⟨A', c', rfl, _⟩ := own_src hown1
          have HB3 := Lib.hid (below_grown' HB1.out hsz1 HO1.out (Nat.le_refl _) hg1)
          go_roundw
          case rel => exact ⟨k + 1, by omega, by go_num, HB3.out, A', c', rfl, hown1⟩
          case measure => simp [RowKit.intOf]; have := HQ.out; omega
    · obtain rfl : k = 20 := by omega
      go_wp2_with fail
      go_ret
      obtain ⟨g, rfl, hg1, _⟩ := own_shapeK HO.out (by omega)
      exact ⟨g, c, rfl, Nat.le_trans B9.out.size hg1, by rw [← firsts_tab]; exact own_monoK HO.out B9.out.size, bt B9.out HB.out⟩
end Go.Proofs.YtinocgngjhomcaaDoor.Ra
