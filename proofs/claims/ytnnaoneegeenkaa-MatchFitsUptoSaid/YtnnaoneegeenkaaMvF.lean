/- Cards with a mark behind their lists: the law's keptCards. -/
import Derived.Test.YtnnaoneegeenkaaMvE
namespace Go.Proofs.Ytnnaoneegeenkaa.Mv
open Go.ChangeShapes Go.WideShapes Go.ChangeAt Go.RowKit Own Ro Kc wordsNames Go.Maps Go.WideMaps
open Mt

theorem Lent.mark {W : World} {base n c : Nat} {A : Option Addr} {L : List Cd} {R : List Sl} (h : Lent W base A n c L R) : ∃ g, A = some ⟨g, 0, none⟩ ∧ base ≤ g ∧ g < W.heap.size ∧ W.cell? ⟨g, n * 7, none⟩ = some (.string (str markT)) ∧ (∀ j, W.frozen? ⟨g, j, none⟩ = false) ∧ ∀ i j u, i < n → (KC.row (L.getD i cd0, R.getD i sl0))[j]? = some u → W.cell? ⟨g, i * 7 + j, none⟩ = some u := by
  obtain ⟨g, rfl, hb, hl⟩ := own_shapeK h.hd (by omega)
  have hlen : (KC.rows L R).length = n * 7 := by rw [rows_len KC L R h.rn.symm, ← h.ln]; rfl
  refine ⟨g, rfl, hb, hl, ?_, fun j => h.hd.frozenAt j, fun i j u hi hu => ?_⟩
  · have hc := h.hd.cells (g := g) rfl (n * 7) (.string (str markT)) (by rw [List.getElem?_append_right (by omega), hlen, Nat.sub_self]; rfl)
    rw [Ro.add_plain, Nat.zero_add] at hc
    exact hc
  · have hj : j < 7 := by
      have h1 := (List.getElem?_eq_some_iff.1 hu).1
      rw [row_len] at h1
      exact h1
    have hc := h.hd.cells (g := g) rfl (i * 7 + j) u (by
      rw [List.getElem?_append_left (by rw [hlen]; omega)]
      exact (rows_at KC L R h.rn.symm i j (by rw [← h.ln]; exact hi) hj).trans hu)
    rw [Ro.add_plain, Nat.zero_add] at hc
    exact hc
theorem Lent.inner {W : World} {base n c : Nat} {A : Option Addr} {L : List Cd} {R : List Sl} (h : Lent W base A n c L R) {i : Nat} (hi : i < n) : ∃ g, (R.getD i sl0).1 = some ⟨g, 0, none⟩ ∧ base ≤ g ∧ g < W.heap.size ∧ (R.getD i sl0).2.1 + 1 ≤ (R.getD i sl0).2.2 ∧ W.cell? ⟨g, (R.getD i sl0).2.1, none⟩ = some (.string (str markT)) ∧ (∀ j, W.frozen? ⟨g, j, none⟩ = false) ∧ ∀ j, j < (L.getD i cd0).compat.length → W.cell? ⟨g, j, none⟩ = some (.string (str ((L.getD i cd0).compat.getD j []))) := by
  have ho := h.inn i hi
  have hl := h.len i hi
  obtain ⟨g, h1, _, h3, h4⟩ := own_some ho
  obtain ⟨A', c', e, _, hc⟩ := own_srcK ho
  unfold innV at e
  injection e with e1 e2 e3
  have ho' : W.ownsRow base 9 1 (.slice (some ⟨g, 0, none⟩) ((R.getD i sl0).2.1 + 1) (R.getD i sl0).2.2) ((R.getD i sl0).2.1 + 1) (strs (L.getD i cd0).compat ++ [.string (str markT)]) := by
    unfold innV at ho
    rw [h1] at ho
    exact ho
  refine ⟨g, h1, h3, h4, by omega, ?_, fun j => ho'.frozenAt j, fun j hj => ?_⟩
  · have hc := ho'.cells (g := g) rfl (R.getD i sl0).2.1 (.string (str markT)) (by rw [List.getElem?_append_right (by rw [strs_len]; omega), strs_len, hl, Nat.sub_self]; rfl)
    rw [Ro.add_plain, Nat.zero_add] at hc
    exact hc
  · have hc := ho'.cells (g := g) rfl j _ (by
      rw [List.getElem?_append_left (by rw [strs_len]; exact hj)]
      exact strs_at _ j hj)
    rw [Ro.add_plain, Nat.zero_add] at hc
    exact hc
set_option maxRecDepth 100000 in
set_option maxHeartbeats 16000000 in
theorem kept_any (A B : Option Addr) (c n d base : Nat) (L : List Cd) (R R0 : List Sl) (w : World) (hm : MildL 1048576 L) (hX : Lent w base A n c L R) (hc : n + 1 ≤ c) (hB : Ro.RowsIn KC w B n L R0) :
    Calls Try.prog 8 #[.slice A n c, .slice B n d] w fun e w' => e = .returned (.bool true) ∧ Below w.heap.size w w' := by
  have hnb : n ≤ 1048576 := by rw [hX.ln]; exact hm.1
  have HSA := Lib.hid (sameAll_any A B c n d n L L R R0 true w (by simp) (mildL_mono hm (by decide)) (mildL_mono hm (by decide)) hX.rows hB)
  have HXW := Lib.hid (fun W (hW : Below w.heap.size w W) => hX.below hW)
  have HBW := Lib.hid (fun W (hW : Below w.heap.size w W) => hB.below hW)
  have HM := Lib.hid hm
  clear hX hB hm
  go_enter Try.func8, Try.ntmps8
  go_wp2_with fail
  refine HSA.out.mono ?_
  rintro e w2 ⟨rfl, hb2⟩
  have B2 := Lib.hid hb2
  clear hb2 HSA
  obtain ⟨g, rfl, _, hgl, hmk, _, hrow⟩ := (HXW.out w2 B2.out).mark
  have HROW := Lib.hid hrow
  have qm : ((str markT).toList == ([109, 97, 114, 107] : List UInt8)) = true := by rw [str_back]; rfl
  clear hrow
  generalize hS : str markT = S at *
  have n1 : (0 : Int) ≤ (n : Int) + 1 := by omega
  have n2 : (n : Int) + 1 ≤ (c : Int) := by omega
  have n3 : (n : Int) < (n : Int) + 1 := by omega
  go_wp2_with fail
  clear hmk
  go_loopw [5, 6] (fun v5 _ wr => ∃ i : Nat, i ≤ n ∧ v5 = .int .i64 (i : Nat) ∧ wr = w2) (fun v5 _ _ => n - (RowKit.intOf v5).toNat)
  case atStart => exact ⟨0, by omega, rfl, rfl⟩
  case round =>
    obtain ⟨i, hi, rfl, rfl⟩ := hrel
    by_cases hlt : i < n
    · have i1 : (0 : Int) ≤ (i : Int) := by omega
      have i2 : (i : Int) < (n : Int) := by omega
      obtain ⟨b, o, rfl, _, hr0, hl0, _⟩ := (HBW.out wr B2.out).at hlt
      have e3 : wr.cell? ⟨b, o + i * 7 + 3, none⟩ = some (slV (R0.getD i sl0)) := hr0 3 _ rfl
      have f3 : wr.cell? ⟨g, i * 7 + 3, none⟩ = some (slV (R.getD i sl0)) := HROW.out i 3 _ hlt rfl
      have hlen := (HXW.out wr B2.out).len i hlt
      have hl1 : (R0.getD i sl0).2.1 = (L.getD i cd0).compat.length := hl0
      obtain ⟨q, hq, _, _, hcap, hqm, _, _⟩ := (HXW.out wr B2.out).inner hlt
      rw [hS] at hqm
      have hmb : (L.getD i cd0).compat.length ≤ 1048576 := (HM.out.2 i).2.2.2.1
      clear hr0 hl0
      generalize (L.getD i cd0).compat.length = m at *
      generalize R.getD i sl0 = r at *
      generalize R0.getD i sl0 = r0 at *
      obtain ⟨ra, rn, rc⟩ := r
      obtain ⟨sa, sn, sc⟩ := r0
      simp only [slV] at e3 f3
      dsimp only at hlen hl1 hq hcap hqm
      subst hlen hq
      obtain rfl : sn = rn := hl1
      have m1 : (0 : Int) ≤ (sn : Int) + 1 := by omega
      have m2 : (sn : Int) + 1 ≤ (rc : Int) := by omega
      have m3 : (sn : Int) < (sn : Int) + 1 := by omega
      go_wp2_with fail
      go_roundw
      case rel => exact ⟨i + 1, by omega, by go_num, trivial⟩
      case measure => simp [RowKit.intOf]; omega
    · obtain rfl : i = n := by omega
      go_wp2_with fail
      go_ret
      exact ⟨rfl, B2.out⟩
end Go.Proofs.Ytnnaoneegeenkaa.Mv
