/- The law SupplyFits. -/
import Derived.Test.YtjffemeeomogaaaDoorSuO
import Derived.Test.YtjffemeeomogaaaDoorSuS
import Derived.Laws.StructEq
import Derived.Deep.DeepCutAuto
import Derived.Deep.CutBlock
namespace Go.Proofs.YtjffemeeomogaaaDoor.Su
open Go.ChangeShapes Go.WideShapes Go.ChangeAt Go.RowKit Own Ro

set_option maxRecDepth 100000 in
set_option maxHeartbeats 8000000 in
theorem fit_any (A : Option Addr) (c n : Nat) (l : List Pr) (w : World) (hn : n = l.length) (hb : n ≤ 2000000) (hs : CellsIn w 2 A n (prsV l)) :
    Calls Tryd.prog 24 #[.slice A n c] w (fun e w' => ∃ A' c', e = .returned (.slice A' n c') ∧ w'.ownsRow w.heap.size 55 2 (.slice A' n c') n (prsV (l.map ft)) ∧ Below w.heap.size w w') := by
  have HN := Lib.hid hn
  have GA := Lib.hid hs
  clear hn hs
  go_enter Tryd.func24, Tryd.ntmps24
  go_wp2_with fail
  go_loopw [3, 4] (fun v3 v4 wr => ∃ k, k ≤ n ∧ v4 = .int .i64 (k : Nat) ∧ Below w.heap.size w wr ∧ (∃ ma mc, v3 = .slice ma k mc ∧ wr.ownsRow w.heap.size 55 2 (.slice ma k mc) k (prsV ((l.map ft).take k)))) (fun _ v4 _ => n - (RowKit.intOf v4).toNat)
  case atStart => exact ⟨0, by omega, rfl, Below.refl _ _, ⟨none, 0, rfl, own_nilK _ _ _ _⟩⟩
  case round =>
    obtain ⟨k, hk, rfl, hr, ⟨ma, mc, rfl, om⟩⟩ := hrel
    have HR := Lib.hid hr
    have OM := Lib.hid om
    have hsz : w.heap.size ≤ wr.heap.size := hr.size
    clear hr om
    by_cases hlt : k < n
    · have l1 : (0 : Int) ≤ (k : Int) := by omega
      have l2 : (k : Int) < (n : Int) := by omega
      have hkl : k < l.length := by rw [← HN.out]; exact hlt
      obtain ⟨b, o, rfl, hbs, hc1⟩ := GA.out.at (by omega)
      have e0 : w.cell? ⟨b, o + k * 2, none⟩ = _ := hc1 (k * 2 + 0) _ (prs_at l k 0 hkl (by decide))
      have e1 : w.cell? ⟨b, o + k * 2 + 1, none⟩ = _ := hc1 (k * 2 + 1) _ (prs_at l k 1 hkl (by decide))
      have HSM := Lib.hid (show prsV ((l.map ft).take k) ++ prV (ft (l.getD k (0, 0))) = prsV ((l.map ft).take (k + 1)) by
        rw [prs_snoc, takeS (l.map ft) (0, 0) k (by rw [List.length_map]; exact hkl), ft_at l k hkl])
      clear hc1
      generalize l.getD k (0, 0) = s at e0 e1 HSM
      obtain ⟨sa, sb⟩ := s
      have f0 : wr.cell? ⟨b, o + k * 2, none⟩ = some (.int .i64 sa) := by rw [HR.out.cell (cell_lt e0)]; exact e0
      have f1 : wr.cell? ⟨b, o + k * 2 + 1, none⟩ = some (.int .i64 sb) := by rw [HR.out.cell (cell_lt e1)]; exact e1
      clear e0 e1
      obtain ⟨⟨p1, p2⟩, p3, p4⟩ := m26_rng sa
      obtain ⟨⟨q1, q2⟩, q3, q4⟩ := m26_rng sb
      have HFT := Lib.hid (show ft (sa, sb) = (minI (m26 sa) (m26 sb), maxI (m26 sa) (m26 sb)) from rfl)
      have ea : sa.tmod 67108864 % 67108864 = m26 sa := by
        have := Int.tmod_eq_emod_of_nonneg (a := sa.tmod 67108864 + 67108864) (b := 67108864) (by omega)
        unfold m26
        omega
      have eb : sb.tmod 67108864 % 67108864 = m26 sb := by
        have := Int.tmod_eq_emod_of_nonneg (a := sb.tmod 67108864 + 67108864) (b := 67108864) (by omega)
        unfold m26
        omega
      generalize m26 sa = xa at *
      generalize m26 sb = xb at *
      by_cases hx : xa ≤ xb
      · replace HFT := Lib.hid (show ft (sa, sb) = (xa, xb) by rw [HFT.out]; unfold minI maxI; congr 1 <;> (split <;> omega))
        have hx1 : ¬ xb < xa := by omega
        have hx2 : (if xa < xb then xb else xa) = xb := by split <;> omega
        go_wp2_with (at_builtin; go_must (refine wpList_append_srcK rfl (.tmp 29) (.tmp 37) 52 rfl w.heap.size 55 (.agg #[.int .i64 0, .int .i64 0]) 2 16 (by omega) Tryd.underlying52 info_win rfl _ k (prsV ((l.map ft).take k)) rfl (own_belowK OM.out (grows' wr _)) _ 1 1 [.int .i64 xa, .int .i64 xb] rfl (src_new2 _ _ _ _ rfl) (by intro u hu; simp at hu; rcases hu with rfl | rfl <;> rfl) (by omega) (by omega) (by simp; omega) ?_); intro v1 w1 ho1 hg1)
        have ho2 : w1.ownsRow w.heap.size 55 2 v1 (k + 1) (prsV ((l.map ft).take (k + 1))) := by
          rw [← HSM.out, HFT.out]
          exact ho1
        obtain ⟨ma', mc', rfl, _⟩ := own_srcK ho2
        have hb1 := below_grown' HR.out hsz OM.out (Nat.le_refl _) hg1
        go_roundw
        case rel => exact ⟨k + 1, by omega, by go_num, hb1, ⟨ma', mc', rfl, ho2⟩⟩
        case measure => simp [RowKit.intOf]; omega
      · replace HFT := Lib.hid (show ft (sa, sb) = (xb, xa) by rw [HFT.out]; unfold minI maxI; congr 1 <;> (split <;> omega))
        have hx1 : xb < xa := by omega
        have hx2 : ¬ xa < xb := by omega
        go_wp2_with (at_builtin; go_must (refine wpList_append_srcK rfl (.tmp 29) (.tmp 37) 52 rfl w.heap.size 55 (.agg #[.int .i64 0, .int .i64 0]) 2 16 (by omega) Tryd.underlying52 info_win rfl _ k (prsV ((l.map ft).take k)) rfl (own_belowK OM.out (grows' wr _)) _ 1 1 [.int .i64 xb, .int .i64 xa] rfl (src_new2 _ _ _ _ rfl) (by intro u hu; simp at hu; rcases hu with rfl | rfl <;> rfl) (by omega) (by omega) (by simp; omega) ?_); intro v1 w1 ho1 hg1)
        have ho2 : w1.ownsRow w.heap.size 55 2 v1 (k + 1) (prsV ((l.map ft).take (k + 1))) := by
          rw [← HSM.out, HFT.out]
          exact ho1
        obtain ⟨ma', mc', rfl, _⟩ := own_srcK ho2
        have hb1 := below_grown' HR.out hsz OM.out (Nat.le_refl _) hg1
        go_roundw
        case rel => exact ⟨k + 1, by omega, by go_num, hb1, ⟨ma', mc', rfl, ho2⟩⟩
        case measure => simp [RowKit.intOf]; omega
    · obtain rfl : n = k := by omega
      rw [List.take_of_length_le (by rw [List.length_map, ← HN.out]; exact Nat.le_refl _)] at OM
      go_wp2_with fail
      go_ret
      exact ⟨ma, mc, rfl, OM.out, HR.out⟩
/-- Is it within all of them? -/
def inB (F : List Pr) (v : Int) : Bool := decide (0 ≤ v) && decide (v ≤ 1099511627776) && F.all (fun p => decide (p.1 ≤ v) && decide (v ≤ p.2))
theorem inB_take (F : List Pr) (v : Int) (k : Nat) (h : k < F.length) : inB (F.take (k + 1)) v = (inB (F.take k) v && (decide ((F.getD k (0, 0)).1 ≤ v) && decide (v ≤ (F.getD k (0, 0)).2))) := by
  unfold inB
  rw [takeS F (0, 0) k h, List.all_append]
  simp [Bool.and_assoc]
theorem inB_full (F : List Pr) (v : Int) : inB F v = (decide (loF F ≤ v) && decide (v ≤ hiF F)) := by
  have := in_all F v
  rw [Bool.eq_iff_iff]
  unfold inB
  simp only [Bool.and_eq_true, decide_eq_true_eq, List.all_eq_true]
  exact this.symm
theorem prs_drop (l : List Pr) (n : Nat) : (prsV l).drop (n * 2) = prsV (l.drop n) := by
  unfold prsV
  induction l generalizing n with
  | nil => simp
  | cons p l ih =>
    cases n with
    | zero => simp
    | succ n =>
      rw [List.flatMap_cons, List.drop_succ_cons, ← ih n, show (n + 1) * 2 = n * 2 + 2 by omega]
      rfl
theorem cells_drop {w : World} {g n z : Nat} {l : List Pr} (h : CellsIn w 2 (some ⟨g, 0, none⟩) n (prsV l)) (hz : z < n) : CellsIn w 2 (some ⟨g, z * 2, none⟩) (n - z) (prsV (l.drop z)) := by
  have hl := h.1
  rw [prs_len] at hl
  obtain ⟨b, o, e, hb, hc⟩ := h.at (by omega)
  injection e with e
  injection e with e1 e2 _
  subst e1 e2
  refine ⟨by rw [prs_len, List.length_drop]; omega, .inr ⟨g, z * 2, rfl, hb, fun j u hu => ?_⟩⟩
  rw [← prs_drop, List.getElem?_drop] at hu
  have := hc _ u hu
  rw [Nat.zero_add] at this
  exact this
theorem cells4_new (w : World) (a b : Pr) (t : TypeId) : CellsIn (w.alloc (.cells #[.int .i64 a.1, .int .i64 a.2, .int .i64 b.1, .int .i64 b.2] t)) 2 (some ⟨w.heap.size, 0, none⟩) 2 (prsV [a, b]) := by
  refine ⟨rfl, .inr ⟨w.heap.size, 0, rfl, by simp, fun j u hu => ?_⟩⟩
  rw [World.cell?_alloc_at _ _ _ _ rfl, Nat.zero_add]
  have e : prsV [a, b] = [.int .i64 a.1, .int .i64 a.2, .int .i64 b.1, .int .i64 b.2] := rfl
  rw [e] at hu
  simpa using hu
theorem fine_drop {F : List Pr} (h : Fine F) (z : Nat) : Fine (F.drop z) := fun p hp => h p (List.mem_of_mem_drop hp)
theorem fine_take {F : List Pr} (h : Fine F) (z : Nat) : Fine (F.take z) := fun p hp => h p (List.mem_of_mem_take hp)
theorem ne_win (a b : Int) (w : World) : (binOp .neq 55 (.agg #[.int .i64 a, .int .i64 b]) (.agg #[.int .i64 a, .int .i64 b])).run Tryd.prog w = .ok (.bool false) w := by
  have hu := Tryd.underlying55
  have hs := Tryd.underlying2
  have hf : Tryd.prog.underlying 55 = some (.struct (Tryd.prog.fieldsOf 55)) := by simp only [Program.fieldsOf, hu]
  have h1 := run_equalIn_int (P := Tryd.prog) w 9998 2 .i64 .i64 a a hs
  have h2 := run_equalIn_int (P := Tryd.prog) w 9998 2 .i64 .i64 b b hs
  simp only [show 9998 + 1 = 9999 from rfl] at h1 h2
  rw [run_neq_struct, run_equalIn_struct w 9999 55 _ _ hf (by kernel_rfl)]
  simp only [Program.fieldsOf, hu]
  simp [Op.eqFields, part, h1, h2]
theorem no_lt {a b : Int} (h : b ≤ a) (h2 : a < b) : False := by omega
theorem cut_z (cut : Int) (n : Nat) (h0 : n ≠ 0) : (∃ z : Nat, cut.tmod (n : Int) = (z : Int) ∧ z < n) ∨ (cut.tmod (n : Int) < 0 ∧ ∃ z : Nat, cut.tmod (n : Int) + (n : Int) = (z : Int) ∧ z < n) := by
  have h1 := Int.tmod_lt_of_pos cut (b := (n : Int)) (by omega)
  by_cases h2 : 0 ≤ cut.tmod (n : Int)
  · exact .inl ⟨(cut.tmod (n : Int)).toNat, by omega, by omega⟩
  · have h4 := Int.tmod_lt_of_pos (-cut) (b := (n : Int)) (by omega)
    rw [Int.neg_tmod] at h4
    exact .inr ⟨by omega, (cut.tmod (n : Int) + (n : Int)).toNat, by omega, by omega⟩
theorem em1 {z n : Nat} (h : z < n) : ((z : Int) + (n : Int)) % (n : Int) = (z : Int) := by
  rw [Int.add_emod_right]
  exact Int.emod_eq_of_lt (by omega) (by omega)
theorem em2 {z n : Nat} (h : z < n) : (z : Int) % (n : Int) = (z : Int) := Int.emod_eq_of_lt (by omega) (by omega)
theorem fst_cases (lo hi : Int) (h : mayW lo hi = true) : (∃ i : Nat, i < 24 ∧ fst lo hi = ((i : Int), 0) ∧ fits lo hi i = true ∧ ∀ k, k < i → fits lo hi k = false) ∨ (fst lo hi = (0, 6) ∧ ∀ k, k < 24 → fits lo hi k = false) := by
  cases hf : (List.range 24).find? (fits lo hi) with
  | none =>
    have := List.find?_range_eq_none.1 hf
    exact .inr ⟨fst_none h fun i hi => by simpa using this i hi, fun k hk => by simpa using this k hk⟩
  | some i =>
    obtain ⟨h1, h2, h3⟩ := List.find?_range_eq_some.1 hf
    have h2' : i < 24 := by simpa using h2
    have h4 : ∀ k, k < i → fits lo hi k = false := fun k hk => by simpa using h3 k hk
    exact .inl ⟨i, h2', fst_at h i h2' h1 h4, h1, h4⟩
end Go.Proofs.YtjffemeeomogaaaDoor.Su
