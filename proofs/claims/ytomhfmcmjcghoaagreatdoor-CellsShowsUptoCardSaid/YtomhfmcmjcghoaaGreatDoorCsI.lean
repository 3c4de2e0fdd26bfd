/- The contract of the document's Show at bytes; at every value. -/
import Derived.Test.YtomhfmcmjcghoaaGreatDoorCsH
import Derived.Test.YtomhfmcmjcghoaaGreatDoorClQ
namespace Go.Proofs.YtomhfmcmjcghoaaGreatDoor.Cl
open Go.ChangeShapes Go.WideShapes Go.ChangeAt Go.RowKit Own Bld Nums

theorem digit_z (z : Int) (n : Nat) (w : World) (hz : z = (n : Int)) (hn : n < 18446744073709551616) :
    Calls Tryz.prog 34 #[.int .u64 z] w fun e w' => e = .returned (.int .u8 ((dg (n % 16)).toNat : Int)) ∧ w = w' := by
  subst hz
  exact digit_any n w hn
theorem digit_hi (c : UInt8) (w : World) : Calls Tryz.prog 34 #[.int .u64 (IntKind.u64.wrap (IntKind.u8.wrap ((c.toNat : Int) / 16)))] w fun e w' => e = .returned (.int .u8 ((dg (c.toNat / 16 % 16)).toNat : Int)) ∧ w = w' :=
  digit_z _ (c.toNat / 16) w (by have := c.toNat_lt; rw [IntKind.wrap_u64, IntKind.wrap_u8]; omega) (by have := c.toNat_lt; omega)
theorem digit_lo (c : UInt8) (w : World) : Calls Tryz.prog 34 #[.int .u64 (IntKind.u64.wrap (c.toNat : Int))] w fun e w' => e = .returned (.int .u8 ((dg (c.toNat % 16)).toNat : Int)) ∧ w = w' :=
  digit_z _ c.toNat w (by have := c.toNat_lt; rw [IntKind.wrap_u64]; omega) (by have := c.toNat_lt; omega)
theorem src_two (w : World) (a b : Value) (t : TypeId) : Src (w.alloc (.cells #[a, b] t)) (some ⟨w.heap.size, 0, none⟩) 2 2 [a, b] :=
  .inr ⟨_, rfl, rfl, fun j u hu => by
    match j, hu with
    | 0, hu => simp at hu; subst hu; simp [Addr.add]
    | 1, hu => simp at hu; subst hu; simp [Addr.add]⟩
theorem src_two_drew (w : World) (a b : Value) (t : TypeId) : Src (w.alloc (.cells #[a, b] t)).drew (some ⟨w.heap.size, 0, none⟩) 2 2 [a, b] := src_two w a b t
theorem own_alloc_drew {w : World} {base n : Nat} {E : TypeId} {v : Value} {xs : List Value} (h : w.ownsRow base E 1 v n xs) (o : Obj) : (w.alloc o).drew.ownsRow base E 1 v n xs := h.alloc o
theorem two_one {a b : Value} (ha : a.oneCell' = true) (hb : b.oneCell' = true) : ∀ u ∈ [a, b], u.oneCell' = true := by
  intro u hu
  simp at hu
  rcases hu with rfl | rfl
  · exact ha
  · exact hb
theorem size_alloc_drew {w : World} {base : Nat} (h : base ≤ w.heap.size) (o : Obj) : base ≤ (w.alloc o).drew.heap.size := by
  show base ≤ (w.alloc o).heap.size
  simp
  omega
theorem below_app {B : Nat} {a w w' : World} {v : Value} {base : Nat} {E : TypeId} {n : Nat} {xs : List Value} {o : Obj} (hb : Below B a w) (hB : B ≤ w.heap.size) (ho : w.ownsRow base E 1 v n xs) (hbase : B ≤ base) (hg : (w.alloc o).drew.grownBy w' v.ownBlock) : Below B a w' := by
  have h1 : Below B a (w.alloc o).drew := below_drewN (hb.alloc hB o) 1
  refine h1.grown hg (by show B ≤ (w.alloc o).heap.size; simp; omega) fun k hk => ?_
  rcases ho.2 with ⟨rfl, _⟩ | ⟨g, cap, cur, rfl, hgb, _⟩
  · simp [Value.ownBlock] at hk
  · simp [Value.ownBlock] at hk
    omega
theorem two_bytes (l : List UInt8) (a b : UInt8) : Lib.byteCells l ++ [.int .u8 (a.toNat : Int), .int .u8 (b.toNat : Int)] = Lib.byteCells (l ++ [a, b]) := by simp [Lib.byteCells]
theorem byteT_of (c : UInt8) : [dg (c.toNat / 16 % 16), dg (c.toNat % 16)] = byteT c.toNat := by
  have := c.toNat_lt
  unfold byteT
  rw [Nat.mod_eq_of_lt (by omega : c.toNat / 16 < 16)]
set_option maxRecDepth 100000 in
set_option maxHeartbeats 4000000 in
theorem refShow3_any (v : ByteArray) (w : World) (hv : v.size ≤ 20000000) (hl : lookV v.data.toList = 3) :
    Calls Tryz.prog 9 #[.string v] w fun e w' => e = .returned (.string (str ([91] ++ bytesT v.data.toList ++ [93]))) ∧ Below w.heap.size w w' := by
  have HL := Lib.hid hl
  have hz : v.data.toList.length = v.size := rfl
  have HZ := Lib.hid hz
  clear hl hz
  have HJ : Hid (∀ k, k ≤ v.size → (jn [32] (fun i => byteT (v.data.toList.getD i 0).toNat) k).length ≤ 536870911) := Lib.hid fun k hk => by
    have h := jn_len [32] (fun i => byteT (v.data.toList.getD i 0).toNat) 2 (fun i => byteT_len _) k
    have h2 : ([32] : List UInt8).length = 1 := rfl
    rw [h2] at h
    refine Nat.le_trans h (Nat.le_trans (Nat.mul_le_mul_right _ (Nat.le_trans hk hv)) (by decide))
  go_enter Tryz.func9, Tryz.ntmps9
  go_wp2_with fail
  refine (refLook_any v _ (by omega)).mono ?_
  rintro e w1 ⟨rfl, b1⟩
  rw [HL.out]
  have B1 := Lib.hid b1
  have O0 := Lib.hid (own_new w1 5 (Lib.byteCells [91]) 1 rfl (by decide))
  clear b1
  go_wp2_with fail
  go_loopw [10, 11] (fun b i wr => ∃ (k n : Nat) (acc : List UInt8), k ≤ v.size ∧ i = .int .i64 k ∧ n = acc.length ∧ acc = 91 :: jn [32] (fun i => byteT (v.data.toList.getD i 0).toNat) k ∧ wr.ownsRow w1.heap.size 5 1 b n (Lib.byteCells acc) ∧ Below w1.heap.size w1 wr) (fun _ i _ => v.size - (intOf i).toNat)
  case atStart => exact ⟨0, 1, [91], by omega, rfl, rfl, rfl, O0.out, (Below.refl _ _).alloc (Nat.le_refl _) _⟩
  case round =>
    obtain ⟨k, n, acc, hk, rfl, hn, hacc, hown, hbw⟩ := hrel
    have HN := Lib.hid hn
    have HA := Lib.hid hacc
    have HO := Lib.hid hown
    have HB := Lib.hid hbw
    have hsz := hbw.size
    have hnl : n ≤ 536870912 := by
      have h := HJ.out k hk
      rw [hn, hacc, List.length_cons]
      omega
    clear hacc hown hbw O0 hn
    by_cases hlt : k < v.size
    · have hgd : v.data.toList.getD k 0 = v[k] := by
        rw [List.getD_eq_getElem?_getD, List.getElem?_eq_getElem (by have := HZ.out; omega)]; rfl
      have HX : Hid (91 :: jn [32] (fun i => byteT (v.data.toList.getD i 0).toNat) (k + 1) = acc ++ (if k = 0 then [] else [32]) ++ [dg (v[k].toNat / 16 % 16), dg (v[k].toNat % 16)]) := Lib.hid (by
        rw [HA.out, byteT_of, ← hgd]
        rfl)
      have hc256 : v[k].toNat < 256 := v[k].toNat_lt
      clear hgd HA
      by_cases hk0 : k = 0
      · subst hk0
        go_wp2_with fail
        go_region_held3 (fun _ => True) (first | exact trivial | trivial)
          (first
            | (go_at_call 34; (first | (with_reducible refine (digit_hi v[0] _).mono ?_) | (with_reducible refine (digit_lo v[0] _).mono ?_)); rintro e w9 ⟨rfl, rfl⟩)
            | (refine step_app (o := ⟨some 95, _, _, _, _, _⟩) (by first | rfl | simp [Region.wanted, yielded]) (.tmp 82) (.tmp 94) 54 (by rfl) w1.heap.size 5 (.int .u8 0) 1 Tryz.underlying54 info_u8 rfl _ n (Lib.byteCells acc) (by rfl) (own_alloc_drew HO.out _) _ 2 2 _ (by rfl) (src_two_drew _ _ _ _) (two_one rfl rfl) (by omega) (by omega) (size_alloc_drew hsz _) ?_; intro v3 w3 ho3 hg3; rw [two_bytes] at ho3; have HO3 := Lib.hid ho3; have HB3 := Lib.hid (below_app HB.out hsz HO.out (Nat.le_refl _) hg3); clear ho3 hg3))
        all_goals
          go_wp2_with fail
          go_roundw
          case rel => exact ⟨0 + 1, n + 2, _, by omega, by go_num, by rw [HN.out]; simp, by rw [HX.out]; simp, HO3.out, HB3.out⟩
          case measure => simp [intOf]; omega
      · have hkp : 0 < k := by omega
        have HX2 : Hid (91 :: jn [32] (fun i => byteT (v.data.toList.getD i 0).toNat) (k + 1) = (acc ++ [32]) ++ [dg (v[k].toNat / 16 % 16), dg (v[k].toNat % 16)]) := Lib.hid (by rw [HX.out, if_neg hk0])
        clear HX
        go_wp2_with (at_builtin; go_must (refine wpList_append_src rfl (.tmp 79) (.tmp 80) 54 rfl w1.heap.size 5 (.int .u8 0) 1 Tryz.underlying54 info_u8 rfl _ n (Lib.byteCells acc) rfl (HO.out.alloc _) _ 1 1 [.int .u8 32] rfl (src_new _ _ _) (by intro u hu; simp at hu; subst hu; rfl) (by omega) (by omega) (by simp; omega) ?_); intro v1 wx ho1 hg1; have HO1 := Lib.hid (show wx.ownsRow w1.heap.size 5 1 v1 (n + 1) (Lib.byteCells (acc ++ [32])) from by rw [← byteCells_snoc]; exact ho1); have HB1 := Lib.hid (below_grown HB.out hsz HO.out (Nat.le_refl _) hg1); have hsz1 := HB1.out.size; clear ho1 hg1)
        go_region_held3 (fun _ => True) (first | exact trivial | trivial)
          (first
            | (go_at_call 34; (first | (with_reducible refine (digit_hi v[k] _).mono ?_) | (with_reducible refine (digit_lo v[k] _).mono ?_)); rintro e w9 ⟨rfl, rfl⟩)
            | (refine step_app (o := ⟨some 95, _, _, _, _, _⟩) (by first | rfl | simp [Region.wanted, yielded]) (.tmp 82) (.tmp 94) 54 (by rfl) w1.heap.size 5 (.int .u8 0) 1 Tryz.underlying54 info_u8 rfl _ (n + 1) (Lib.byteCells (acc ++ [32])) (by rfl) (own_alloc_drew HO1.out _) _ 2 2 _ (by rfl) (src_two_drew _ _ _ _) (two_one rfl rfl) (by omega) (by omega) (size_alloc_drew hsz1 _) ?_; intro v3 w3 ho3 hg3; rw [two_bytes] at ho3; have HO3 := Lib.hid ho3; have HB3 := Lib.hid (below_app HB1.out hsz1 HO1.out (Nat.le_refl _) hg3); clear ho3 hg3))
        all_goals
          go_wp2_with fail
          go_roundw
          case rel => exact ⟨k + 1, n + 1 + 2, _, by omega, by go_num, by rw [HN.out]; simp, by rw [HX2.out], HO3.out, HB3.out⟩
          case measure => simp [intOf]; omega
    · obtain rfl : k = v.size := by omega
      have HE : Hid (acc ++ [93] = [91] ++ bytesT v.data.toList ++ [93]) := Lib.hid (by
        rw [HA.out]
        unfold bytesT
        rw [HZ.out]
        simp)
      clear HA
      go_wp2_with (at_builtin; go_must (refine wpList_append_src rfl (.tmp 96) (.tmp 97) 54 rfl w1.heap.size 5 (.int .u8 0) 1 Tryz.underlying54 info_u8 rfl _ n (Lib.byteCells acc) rfl (HO.out.alloc _) _ 1 1 [.int .u8 93] rfl (src_new _ _ _) (by intro u hu; simp at hu; subst hu; rfl) (by omega) (by omega) (by simp; omega) ?_); intro v1 wx ho1 hg1; have HO1 := Lib.hid (show wx.ownsRow w1.heap.size 5 1 v1 (n + 1) (Lib.byteCells (acc ++ [93])) from by rw [← byteCells_snoc]; exact ho1); have HB1 := Lib.hid (below_grown HB.out hsz HO.out (Nat.le_refl _) hg1); clear ho1 hg1; have hcv := conv_own HO1.out; rw [HE.out] at hcv)
      go_ret
      exact ⟨rfl, B1.out.trans (HB1.out.mono B1.out.size)⟩

/-- The document's Show, at every value. -/
theorem refShow_any (v : ByteArray) (w : World) (hv : v.size ≤ 20000000) :
    Calls Tryz.prog 9 #[.string v] w fun e w' => e = .returned (.string (str (showV v.data.toList))) ∧ Below w.heap.size w w' := by
  by_cases h0 : lookV v.data.toList = 0
  · have e : showV v.data.toList = [45] := if_pos h0
    rw [e]
    exact refShow0_any v w hv h0
  · by_cases h1 : lookV v.data.toList = 1
    · have e : showV v.data.toList = textsT v.data.toList := by unfold showV; rw [if_neg h0, if_pos h1]
      rw [e]
      exact refShow1_any v w hv h1
    · by_cases h2 : lookV v.data.toList = 2
      · have e : showV v.data.toList = [60] ++ cellsT v.data.toList ++ [62] := by unfold showV; rw [if_neg h0, if_neg h1, if_pos h2]
        rw [e]
        exact refShow2_any v w hv h2
      · have e : showV v.data.toList = [91] ++ bytesT v.data.toList ++ [93] := by unfold showV; rw [if_neg h0, if_neg h1, if_neg h2]
        rw [e]
        refine refShow3_any v w hv ?_
        unfold lookV at h0 h1 h2 ⊢
        split at h0
        · simp at h0
        · rename_i g0
          rw [if_neg g0] at h1 h2 ⊢
          split at h1
          · simp at h1
          · rename_i g1
            rw [if_neg g1] at h2 ⊢
            split at h2
            · simp at h2
            · rename_i g2
              rw [if_neg g2]
end Go.Proofs.YtomhfmcmjcghoaaGreatDoor.Cl
