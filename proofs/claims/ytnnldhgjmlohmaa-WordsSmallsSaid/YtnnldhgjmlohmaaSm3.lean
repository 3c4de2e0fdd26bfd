/- The walk of the law on small numbers. -/
import Derived.Test.YtnnldhgjmlohmaaSm2
import Derived.Test.YtnnldhgjmlohmaaOwn
import Derived.Deep.QuietTactic
import Derived.BigQuiet
import Derived.WalkSmall
namespace Go.Proofs.Ytnnldhgjmlohmaa.wordsSmalls
open Go.ChangeShapes Go.WideShapes Go.ChangeAt Go.RowKit Own

theorem info29 : (Try.prog.info? 29).map (fun i => (i.zero, i.size, i.bytes)) = some (some (.int .i8 0), 1, 1) := by kernel_rfl
def vals (xs : List Int) : List Value := xs.map (Value.int .i8)
theorem vals_one (xs : List Int) : ∀ u ∈ vals xs, u.oneCell' = true := by
  intro u hu
  obtain ⟨x, _, rfl⟩ := List.mem_map.1 hu
  rfl
theorem vals_len (xs : List Int) : (vals xs).length = xs.length := List.length_map ..
theorem vals_at (xs : List Int) (i : Nat) (h : i < xs.length) : (vals xs)[i]? = some (.int .i8 (xs.getD i 0)) := by
  unfold vals
  rw [List.getElem?_map, List.getElem?_eq_getElem h]
  simp [h]

def half (x : Int) : Int := x.tdiv 2 - 1
def halfTo (xs : List Int) : Nat → List Int
  | 0 => xs
  | k + 1 => (halfTo xs k).set k (half (xs.getD k 0))
theorem halfTo_len (xs : List Int) : ∀ k, (halfTo xs k).length = xs.length
  | 0 => rfl
  | k + 1 => by rw [halfTo, List.length_set]; exact halfTo_len xs k
theorem halfTo_at (xs : List Int) : ∀ k i, k ≤ i → (halfTo xs k).getD i 0 = xs.getD i 0
  | 0, _, _ => rfl
  | k + 1, i, h => by
    rw [halfTo, List.getD_eq_getElem?_getD, List.getElem?_set_ne (by omega), ← List.getD_eq_getElem?_getD]
    exact halfTo_at xs k i (by omega)
theorem half_bd (x : Int) (h0 : -128 ≤ x) (h1 : x ≤ 127) : -128 ≤ half x ∧ half x ≤ 127 := by
  obtain ⟨a, b, c⟩ := tm_bd x 2 (by omega)
  unfold half
  omega
theorem half_wrap (x : Int) (h0 : -128 ≤ x) (h1 : x ≤ 127) : IntKind.i8.wrap (IntKind.i8.wrap (x.tdiv 2) - 1) = half x := by
  obtain ⟨a, b, c⟩ := tm_bd x 2 (by omega)
  rw [wrap_i8, wrap_i8]
  unfold half
  omega
theorem halfTo_small {xs : List Int} (h : Small xs) : ∀ k, Small (halfTo xs k)
  | 0 => h
  | k + 1 => by
    intro i hi
    have hl := halfTo_len xs (k + 1)
    have hl' := halfTo_len xs k
    rw [hl] at hi
    rw [halfTo, List.getD_eq_getElem?_getD]
    by_cases e : k = i
    · subst e
      rw [List.getElem?_set_self (by omega)]
      exact half_bd _ (h k hi).1 (h k hi).2
    · rw [List.getElem?_set_ne e, ← List.getD_eq_getElem?_getD]
      exact halfTo_small h k i (by omega)
theorem vals_set (xs : List Int) (k : Nat) (x : Int) : vals (xs.set k x) = (vals xs).set k (.int .i8 x) := List.map_set

set_option maxRecDepth 100000 in
set_option maxHeartbeats 1000000 in
theorem walk_some (n a b : Int) (xs : List Int) (bl off c : Nat) (w : World) (n0 : -9223372036854775808 ≤ n) (n1 : n ≤ 9223372036854775807)
    (a0 : -32768 ≤ a) (a1 : a ≤ 32767) (b0 : -32768 ≤ b) (b1 : b ≤ 32767) (hx : 0 < xs.length) (hl : xs.length ≤ 140737488355328) (hs : Small xs)
    (hc : ∀ i, i < xs.length → w.cell? ⟨bl, off + i, none⟩ = some (.int .i8 (xs.getD i 0))) :
    Calls Try.prog 4 #[.int .i64 n, .int .i16 a, .int .i16 b, .slice (some ⟨bl, off, none⟩) xs.length c] w fun e w' => e = .returned (.bool true) ∧ Below w.heap.size w w' := by
  have HS := Lib.hid hs
  have HC := Lib.hid hc
  clear hs hc
  have hbl : bl < w.heap.size := cell_lt (HC.out 0 hx)
  have hsrc0 : Src w (some ⟨bl, off, none⟩) xs.length c (vals xs) := .inr ⟨_, rfl, vals_len xs, fun j u hu => by
    have hj : j < xs.length := by have := (List.getElem?_eq_some_iff.1 hu).1; rw [vals_len] at this; exact this
    rw [vals_at xs j hj] at hu
    injection hu with hu
    subst hu
    have := HC.out j hj
    unfold Addr.add
    split
    · rename_i h0; subst h0; exact this
    · exact this⟩
  have HSRC := Lib.hid hsrc0
  clear hsrc0
  go_enter Try.func4, Try.ntmps4
  go_wp2_with (at_builtin; go_must (refine wpList_append_src rfl (.tmp 19) (.tmp 20) 28 rfl w.heap.size 29 (.int .i8 0) 1 Try.underlying28 info29 rfl _ 0 [] rfl (own_empty w 29) (some ⟨bl, off, none⟩) xs.length c (vals xs) rfl (HSRC.out.below ((Below.refl _ _).alloc (Nat.le_refl _) _)) (vals_one xs) (by omega) (by omega) (by simp) ?_); intro v1 w1 hown1 hg1)
  have hb1 : Below w.heap.size w w1 := ((Below.refl w.heap.size w).alloc (Nat.le_refl _) _).grown hg1 (by simp) (by intro k hk; injection hk with hk; exact Nat.le_of_eq hk)
  clear hg1
  simp only [Nat.zero_add, List.nil_append] at hown1
  obtain ⟨g, cap, hv1, hgB, hglt⟩ := hown1.form hx
  rw [hv1] at hown1 ⊢
  clear hv1
  have HIN : Hid (∀ i, i < xs.length → w1.cell? ⟨g, 0 + i, none⟩ = some (.int .i8 (xs.getD i 0))) := Lib.hid fun i hi => by
    rw [Nat.zero_add, hown1.cellAt i (by omega)]; exact vals_at xs i hi
  have HL1 : Hid (∀ i, i < xs.length → w1.cell? ⟨bl, off + i, none⟩ = some (.int .i8 (xs.getD i 0))) := Lib.hid fun i hi => by
    rw [hb1.cell (p := ⟨bl, off + i, none⟩) hbl]; exact HC.out i hi
  refine (mean_row g 0 cap xs _ hx hl HS.out HIN.out).mono ?_
  rintro e w' ⟨rfl, rfl⟩
  go_wp2_with fail
  refine (refMean_row bl off c xs _ hx hl HS.out HL1.out).mono ?_
  rintro e w' ⟨rfl, rfl⟩
  go_wp2_with fail
  refine (step_any a b _ a0 a1 b0 b1).mono ?_
  rintro e w' ⟨rfl, rfl⟩
  go_wp2_with fail
  refine (refStep_any a b _ a0 a1 b0 b1).mono ?_
  rintro e w' ⟨rfl, rfl⟩
  go_wp2_with fail
  have HOWN := Lib.hid hown1
  have HB1 := Lib.hid hb1
  clear hown1 hb1
  go_loopw [18] (fun i wr => ∃ k : Nat, k ≤ xs.length ∧ i = .int .i64 k ∧ wr.ownsRow w.heap.size 29 1 (.slice (some ⟨g, 0, none⟩) xs.length cap) xs.length (vals (halfTo xs k)) ∧ Below w.heap.size w wr) (fun i _ => xs.length - (intOf i).toNat)
  case atStart => exact ⟨0, Nat.zero_le _, rfl, HOWN.out, HB1.out⟩
  case round =>
    obtain ⟨k, hk, rfl, hown, hbw⟩ := hrel
    have HO := Lib.hid hown
    have HB := Lib.hid hbw
    clear hown hbw
    by_cases hlt : k < xs.length
    · obtain ⟨x1, x2⟩ := HS.out k hlt
      have hcin : wr.cell? ⟨g, k, none⟩ = some (.int .i8 (xs.getD k 0)) := by
        rw [HO.out.cellAt k (by omega), vals_at _ k (by rw [halfTo_len]; exact hlt), halfTo_at xs k k (Nat.le_refl _)]
      have hfin := HO.out.frozenAt k
      have hcl : wr.cell? ⟨bl, off + k, none⟩ = some (.int .i8 (xs.getD k 0)) := by
        rw [HB.out.cell (p := ⟨bl, off + k, none⟩) hbl]; exact HC.out k hlt
      have HX : Hid (halfTo xs (k + 1) = (halfTo xs k).set k (half (xs.getD k 0))) := Lib.hid rfl
      obtain ⟨y1, y2⟩ := half_bd _ x1 x2
      generalize xs.getD k 0 = x at x1 x2 hcin hcl HX y1 y2
      unfold half at y1 y2
      go_wp2
      go_quiet (fail)
      go_wp2
      go_roundw
      case rel =>
        refine ⟨k + 1, by omega, by go_num, ?_, ?_⟩
        · rw [HX.out, vals_set, half_wrap x x1 x2]
          have ho : (wr.drewN nq).ownsRow w.heap.size 29 1 (.slice (some ⟨g, 0, none⟩) xs.length cap) xs.length (vals (halfTo xs k)) := HO.out
          exact (ho.stored k (.int .i8 (half x))).1
        · exact (below_drewN HB.out nq).setCell (p := ⟨g, k, none⟩) hgB _
      case measure => simp [intOf]; omega
    · obtain rfl : k = xs.length := by omega
      have hlen := halfTo_len xs xs.length
      have hsm := halfTo_small HS.out xs.length
      generalize halfTo xs xs.length = ys at hlen hsm HO
      have HY : Hid (∀ i, i < ys.length → wr.cell? ⟨g, 0 + i, none⟩ = some (.int .i8 (ys.getD i 0))) := Lib.hid fun i hi => by
        rw [Nat.zero_add, HO.out.cellAt i (by omega)]; exact vals_at ys i hi
      rw [← hlen] at hx hl hlt hk HO ⊢
      have HSM := Lib.hid hsm
      clear hsm hlen
      obtain ⟨A2, c2, hv2, hsrc2⟩ := own_src HO.out
      injection hv2 with hv2 _ hv3
      subst hv2 hv3
      have HSR := Lib.hid hsrc2
      clear hsrc2
      go_wp2_with fail
      refine (mean_row g 0 cap ys _ hx hl HSM.out HY.out).mono ?_
      rintro e w' ⟨rfl, rfl⟩
      go_wp2_with (at_builtin; go_must (refine wpList_append_src rfl (.tmp 92) (.tmp 93) 28 rfl wr.heap.size 29 (.int .i8 0) 1 Try.underlying28 info29 rfl _ 0 [] rfl (own_empty wr 29) (some ⟨g, 0, none⟩) ys.length cap (vals ys) rfl (HSR.out.below ((Below.refl _ _).alloc (Nat.le_refl _) _)) (vals_one ys) (by omega) (by omega) (by simp) ?_); intro v2 w2 hown2 hg2)
      have hb2 : Below wr.heap.size wr w2 := ((Below.refl wr.heap.size wr).alloc (Nat.le_refl _) _).grown hg2 (by simp) (by intro k hk; injection hk with hk; exact Nat.le_of_eq hk)
      have HB2 := Lib.hid hb2
      clear hg2 hb2
      simp only [Nat.zero_add, List.nil_append] at hown2
      obtain ⟨g2, cap2, hv2, hgB2, hglt2⟩ := hown2.form hx
      rw [hv2] at hown2 ⊢
      clear hv2
      have HY2 : Hid (∀ i, i < ys.length → w2.cell? ⟨g2, 0 + i, none⟩ = some (.int .i8 (ys.getD i 0))) := Lib.hid fun i hi => by
        rw [Nat.zero_add, hown2.cellAt i (by omega)]; exact vals_at ys i hi
      clear hown2
      refine (refMean_row g2 0 cap2 ys _ hx hl HSM.out HY2.out).mono ?_
      rintro e w' ⟨rfl, rfl⟩
      go_wp2_with (first
        | (go_at_call 13; refine (wrap8_any _ _).mono ?_; rintro e w' ⟨rfl, rfl⟩)
        | (go_at_call 14; refine (refWrap8_any _ _ n0 n1).mono ?_; rintro e w' ⟨rfl, rfl⟩)
        | (go_at_call 15; refine (sat8_any _ _ n0 n1).mono ?_; rintro e w' ⟨rfl, rfl⟩)
        | (go_at_call 16; refine (refSat8_any _ _ n0 n1).mono ?_; rintro e w' ⟨rfl, rfl⟩)
        | (go_at_call 17; refine (wrap16_any _ _).mono ?_; rintro e w' ⟨rfl, rfl⟩)
        | (go_at_call 18; refine (refWrap16_any _ _ n0 n1).mono ?_; rintro e w' ⟨rfl, rfl⟩)
        | (go_at_call 19; refine (sat16_any _ _ n0 n1).mono ?_; rintro e w' ⟨rfl, rfl⟩)
        | (go_at_call 20; refine (refSat16_any _ _ n0 n1).mono ?_; rintro e w' ⟨rfl, rfl⟩))
      go_ret
      exact ⟨rfl, HB.out.trans (HB2.out.mono HB.out.size)⟩

set_option maxRecDepth 100000 in
set_option maxHeartbeats 1000000 in
theorem walk_none (n a b : Int) (A : Option Addr) (c : Nat) (w : World) (n0 : -9223372036854775808 ≤ n) (n1 : n ≤ 9223372036854775807)
    (a0 : -32768 ≤ a) (a1 : a ≤ 32767) (b0 : -32768 ≤ b) (b1 : b ≤ 32767) (hA : A = none → c = 0) :
    Calls Try.prog 4 #[.int .i64 n, .int .i16 a, .int .i16 b, .slice A 0 c] w fun e w' => e = .returned (.bool true) ∧ Below w.heap.size w w' := by
  have HSRC : Hid (∀ W : World, Src W A 0 c []) := Lib.hid fun W => by
    cases A with
    | none => exact .inl ⟨rfl, rfl, hA rfl, rfl⟩
    | some ad => exact .inr ⟨ad, rfl, rfl, fun j u hu => by simp at hu⟩
  clear hA
  go_enter Try.func4, Try.ntmps4
  go_wp2_with (at_builtin; go_must (refine wpList_append_src rfl (.tmp 19) (.tmp 20) 28 rfl w.heap.size 29 (.int .i8 0) 1 Try.underlying28 info29 rfl _ 0 [] rfl (own_empty w 29) A 0 c [] rfl (HSRC.out _) (by simp) (by omega) (by omega) (by simp) ?_); intro v1 w1 hown1 hg1)
  have hb1 : Below w.heap.size w w1 := ((Below.refl w.heap.size w).alloc (Nat.le_refl _) _).grown hg1 (by simp) (by intro k hk; injection hk with hk; exact Nat.le_of_eq hk)
  have HB1 := Lib.hid hb1
  clear hg1 hb1
  simp only [Nat.zero_add, List.nil_append] at hown1
  obtain ⟨A1, c1, hv1, hs1⟩ := own_src hown1
  rw [hv1]
  have HS1 := Lib.hid hs1
  clear hv1 hown1 hs1
  refine (mean_none A1 c1 _).mono ?_
  rintro e w' ⟨rfl, rfl⟩
  go_wp2_with fail
  refine (refMean_none A c _).mono ?_
  rintro e w' ⟨rfl, rfl⟩
  go_wp2_with fail
  refine (step_any a b _ a0 a1 b0 b1).mono ?_
  rintro e w' ⟨rfl, rfl⟩
  go_wp2_with fail
  refine (refStep_any a b _ a0 a1 b0 b1).mono ?_
  rintro e w' ⟨rfl, rfl⟩
  go_wp2_with fail
  go_loop [18] (fun i => i = .int .i64 0) (fun _ => 0)
  case atStart => rfl
  case round =>
    subst hrel
    go_wp2_with fail
    refine (mean_none A1 c1 _).mono ?_
    rintro e w' ⟨rfl, rfl⟩
    go_wp2_with (at_builtin; go_must (refine wpList_append_src rfl (.tmp 92) (.tmp 93) 28 rfl w1.heap.size 29 (.int .i8 0) 1 Try.underlying28 info29 rfl _ 0 [] rfl (own_empty w1 29) A1 0 c1 [] rfl (HS1.out.below ((Below.refl _ _).alloc (Nat.le_refl _) _)) (by simp) (by omega) (by omega) (by simp) ?_); intro v2 w2 hown2 hg2)
    have hb2 : Below w1.heap.size w1 w2 := ((Below.refl w1.heap.size w1).alloc (Nat.le_refl _) _).grown hg2 (by simp) (by intro k hk; injection hk with hk; exact Nat.le_of_eq hk)
    have HB2 := Lib.hid hb2
    clear hg2 hb2
    simp only [Nat.zero_add, List.nil_append] at hown2
    obtain ⟨A2, c2, hv2, hs2⟩ := own_src hown2
    rw [hv2]
    clear hv2 hown2 hs2
    refine (refMean_none A2 c2 _).mono ?_
    rintro e w' ⟨rfl, rfl⟩
    go_wp2_with (first
      | (go_at_call 13; refine (wrap8_any _ _).mono ?_; rintro e w' ⟨rfl, rfl⟩)
      | (go_at_call 14; refine (refWrap8_any _ _ n0 n1).mono ?_; rintro e w' ⟨rfl, rfl⟩)
      | (go_at_call 15; refine (sat8_any _ _ n0 n1).mono ?_; rintro e w' ⟨rfl, rfl⟩)
      | (go_at_call 16; refine (refSat8_any _ _ n0 n1).mono ?_; rintro e w' ⟨rfl, rfl⟩)
      | (go_at_call 17; refine (wrap16_any _ _).mono ?_; rintro e w' ⟨rfl, rfl⟩)
      | (go_at_call 18; refine (refWrap16_any _ _ n0 n1).mono ?_; rintro e w' ⟨rfl, rfl⟩)
      | (go_at_call 19; refine (sat16_any _ _ n0 n1).mono ?_; rintro e w' ⟨rfl, rfl⟩)
      | (go_at_call 20; refine (refSat16_any _ _ n0 n1).mono ?_; rintro e w' ⟨rfl, rfl⟩))
    go_ret
    exact ⟨rfl, HB1.out.trans (HB2.out.mono HB1.out.size)⟩
end Go.Proofs.Ytnnldhgjmlohmaa.wordsSmalls
