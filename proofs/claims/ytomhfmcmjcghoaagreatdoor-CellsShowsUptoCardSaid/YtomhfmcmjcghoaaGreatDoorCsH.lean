/- The contract of the document's Show, at every value. -/
import Derived.Test.YtomhfmcmjcghoaaGreatDoorCsG
import Derived.StillTailTactics
namespace Go.Proofs.YtomhfmcmjcghoaaGreatDoor.Cl
open Go.ChangeShapes Go.WideShapes Go.ChangeAt Go.RowKit Own Bld Nums

theorem digit_still (z : Int) (n : Nat) (w : World) (hz : z = (n : Int)) (hn : n < 18446744073709551616) :
    Calls Tryz.prog 34 #[.int .u64 z] w fun e w' => e = .returned (.int .u8 ((dg (n % 16)).toNat : Int)) ∧ w' = w := by
  subst hz
  exact (digit_any n w hn).mono fun e w' ⟨h1, h2⟩ => ⟨h1, h2.symm⟩

theorem refShow0_any (v : ByteArray) (w : World) (hv : v.size ≤ 20000000) (hl : lookV v.data.toList = 0) :
    Calls Tryz.prog 9 #[.string v] w fun e w' => e = .returned (.string ⟨#[45]⟩) ∧ Below w.heap.size w w' := by
  have HL := Lib.hid hl
  clear hl
  go_enter Tryz.func9, Tryz.ntmps9
  go_wp2_with fail
  refine (refLook_any v _ (by omega)).mono ?_
  rintro e w1 ⟨rfl, b1⟩
  rw [HL.out]
  have B1 := Lib.hid b1
  clear b1
  go_wp2_with fail
  go_ret
  exact ⟨rfl, B1.out⟩

theorem str_size (l : List UInt8) : (str l).size = l.length := rfl
set_option maxRecDepth 100000 in
set_option maxHeartbeats 2000000 in
theorem refShow1_any (v : ByteArray) (w : World) (hv : v.size ≤ 20000000) (hl : lookV v.data.toList = 1) :
    Calls Tryz.prog 9 #[.string v] w fun e w' => e = .returned (.string (str (textsT v.data.toList))) ∧ Below w.heap.size w w' := by
  have HL := Lib.hid hl
  have hz : v.data.toList.length = v.size := rfl
  have HZ := Lib.hid hz
  have HJ : Hid (∀ k, k ≤ (tx v.data.toList).length → (jn [44, 32] (fun i => quoted ((tx v.data.toList).getD i ByteArray.empty).data.toList) k).length ≤ 536870912) := Lib.hid fun k hk => by
    have h1 := jnq_len (tx v.data.toList) k hk
    have h2 := vT_take (tx v.data.toList) k
    have h3 := vT_tx v.data.toList
    omega
  have HTS := Lib.hid fun k => tx_size v.data.toList k
  clear hl hz
  go_enter Tryz.func9, Tryz.ntmps9
  go_wp2_with fail
  refine (refLook_any v _ (by omega)).mono ?_
  rintro e w1 ⟨rfl, b1⟩
  rw [HL.out]
  have B1 := Lib.hid b1
  clear b1
  go_wp2_with fail
  refine (refTexts_any v _ (by omega)).mono ?_
  rintro e w2 ⟨A, n, c, hn, rfl, ho, hb⟩
  rw [strs_len] at hn
  obtain ⟨A', c', hv', hs⟩ := own_src ho
  injection hv' with h1 _ h3
  subst h1 h3
  have HS := Lib.hid hs
  have HN := Lib.hid hn
  have B2 := Lib.hid (B1.out.trans (hb.mono B1.out.size))
  have hnn : n ≤ 20000000 := by
    rw [hn]
    have h2 := tx_lim v.data.toList
    have h4 := HZ.out
    omega
  clear ho hb hs hn B1
  generalize etx v.data.toList = ee
  go_wp2_with fail
  go_loopw [3, 6] (fun s i wr => ∃ (j : Nat) (st : ByteArray), j ≤ n ∧ i = .int .i64 j ∧ s = .string st ∧ StrIs st (jn [44, 32] (fun i => quoted ((tx v.data.toList).getD i ByteArray.empty).data.toList) j) ∧ Below w2.heap.size w2 wr) (fun _ i _ => n - (intOf i).toNat)
  case atStart => exact ⟨0, ByteArray.empty, by omega, rfl, rfl, rfl, Below.refl _ _⟩
  case round =>
    obtain ⟨j, st, hj, rfl, rfl, hst, hbw⟩ := hrel
    have hss : st.size ≤ 536870912 := by
      have h1 : st.size = (jn [44, 32] (fun i => quoted ((tx v.data.toList).getD i ByteArray.empty).data.toList) j).length := by rw [show st = _ from hst]; rfl
      rw [h1]
      exact HJ.out j (by rw [← HN.out]; exact hj)
    have HST := Lib.hid hst
    have HB := Lib.hid hbw
    have hsz := hbw.size
    clear hbw hst
    by_cases hlt : j < n
    · obtain ⟨b, o, rfl, hbl, hc1⟩ := src_get (HS.out.below HB.out) (by omega)
      have hjx : j < (tx v.data.toList).length := by rw [← HN.out]; exact hlt
      have e1 := hc1 j _ (strs_at (tx v.data.toList) j hjx)
      have HX : Hid (jn [44, 32] (fun i => quoted ((tx v.data.toList).getD i ByteArray.empty).data.toList) (j + 1) = jn [44, 32] (fun i => quoted ((tx v.data.toList).getD i ByteArray.empty).data.toList) j ++ (if j = 0 then [] else [44, 32]) ++ quoted ((tx v.data.toList).getD j ByteArray.empty).data.toList) := Lib.hid rfl
      have hxs : ((tx v.data.toList).getD j ByteArray.empty).size ≤ 20000000 := by
        have h1 := HTS.out j
        have h2 := HZ.out
        omega
      generalize (tx v.data.toList).getD j ByteArray.empty = x at e1 HX hxs
      have hql : (str (quoted x.data.toList)).size ≤ 67108864 := by
        have h1 := escs_len x.data.toList
        have h2 : x.data.toList.length = x.size := rfl
        rw [str_size]
        simp only [quoted, List.length_cons, List.length_append, List.length_nil]
        omega
      clear hc1 hjx
      by_cases hj0 : j = 0
      · subst hj0
        rw [Nat.add_zero] at e1
        go_wp2_with fail
        refine (refQuoted_any x _ (by omega)).mono ?_
        rintro e w3 ⟨rfl, b3⟩
        have B3 := Lib.hid (HB.out.trans (b3.mono hsz))
        clear b3
        generalize hQ : str (quoted x.data.toList) = q at hql ⊢
        have HQ := Lib.hid hQ
        clear hQ
        go_wp2_with fail
        go_roundw
        case rel =>
          refine ⟨0 + 1, _, by omega, by go_num, rfl, ?_, B3.out⟩
          rw [HX.out]
          simp only [if_true, List.append_nil]
          unfold StrIs
          rw [← str_append, HQ.out, ← (show st = _ from HST.out)]
        case measure => simp [intOf]; omega
      · have hjp : 0 < j := by omega
        have hc2 : (⟨#[44, 32]⟩ : ByteArray).size = 2 := rfl
        go_wp2_with fail
        refine (refQuoted_any x _ (by omega)).mono ?_
        rintro e w3 ⟨rfl, b3⟩
        have B3 := Lib.hid (HB.out.trans (b3.mono hsz))
        clear b3
        generalize hQ : str (quoted x.data.toList) = q at hql ⊢
        have HQ := Lib.hid hQ
        clear hQ
        go_wp2_with fail
        go_roundw
        case rel =>
          refine ⟨j + 1, _, by omega, by go_num, rfl, ?_, B3.out⟩
          rw [HX.out, if_neg hj0]
          unfold StrIs
          rw [← str_append, ← str_append, HQ.out, ← (show st = _ from HST.out)]
          rfl
        case measure => simp [intOf]; omega
    · obtain rfl : j = n := by omega
      have HE : Hid (st = str (textsT v.data.toList)) := Lib.hid (by
        have h1 := HST.out
        unfold StrIs at h1
        rw [h1, HN.out]
        rfl)
      go_wp2_with fail
      go_ret
      exact ⟨ret_string HE.out, B2.out.trans (HB.out.mono B2.out.size)⟩

set_option maxRecDepth 100000 in
set_option maxHeartbeats 2000000 in
theorem refShow2_any (v : ByteArray) (w : World) (hv : v.size ≤ 20000000) (hl : lookV v.data.toList = 2) :
    Calls Tryz.prog 9 #[.string v] w fun e w' => e = .returned (.string (str ([60] ++ cellsT v.data.toList ++ [62]))) ∧ Below w.heap.size w w' := by
  have HL := Lib.hid hl
  have hz : v.data.toList.length = v.size := rfl
  have HZ := Lib.hid hz
  have HLT := Lib.hid fun k => c32_lt v.data.toList k
  clear hl hz
  go_enter Tryz.func9, Tryz.ntmps9
  go_wp2_with fail
  refine (refLook_any v _ (by omega)).mono ?_
  rintro e w1 ⟨rfl, b1⟩
  rw [HL.out]
  have B1 := Lib.hid b1
  clear b1
  go_wp2_with fail
  refine (ref32_any v _ (by omega)).mono ?_
  rintro e w2 ⟨A, n, c, hn, rfl, ho, hb⟩
  rw [nats_len] at hn
  obtain ⟨A', c', hv', hs⟩ := own_src ho
  injection hv' with h1 _ h3
  subst h1 h3
  have HS := Lib.hid hs
  have HN := Lib.hid hn
  have B2 := Lib.hid (B1.out.trans (hb.mono B1.out.size))
  have hnn : n ≤ 20000000 := by
    rw [hn]
    have h2 := c32_lim v.data.toList
    have h4 := HZ.out
    omega
  have HJ : Hid (∀ k, k ≤ n → (jn [32] (fun i => cellT ((c32 v.data.toList).getD i 0)) k).length ≤ 536870912) := Lib.hid fun k hk => by
    have h := jn_len [32] (fun i => cellT ((c32 v.data.toList).getD i 0)) 18 (fun i => cellT_len _) k
    have h2 : ([32] : List UInt8).length = 1 := rfl
    rw [h2] at h
    refine Nat.le_trans h (Nat.le_trans (Nat.mul_le_mul_right _ (Nat.le_trans hk hnn)) (by decide))
  clear ho hb hs hn B1
  generalize e32 v.data.toList = ee
  go_wp2_with fail
  go_loopw [3, 9] (fun s i wr => ∃ (j : Nat) (st : ByteArray), j ≤ n ∧ i = .int .i64 j ∧ s = .string st ∧ StrIs st (jn [32] (fun i => cellT ((c32 v.data.toList).getD i 0)) j) ∧ Below w2.heap.size w2 wr) (fun _ i _ => n - (intOf i).toNat)
  case atStart => exact ⟨0, ByteArray.empty, by omega, rfl, rfl, rfl, Below.refl _ _⟩
  case round =>
    obtain ⟨j, st, hj, rfl, rfl, hst, hbw⟩ := hrel
    have hss : st.size ≤ 536870912 := by
      have h1 : st.size = (jn [32] (fun i => cellT ((c32 v.data.toList).getD i 0)) j).length := by rw [show st = _ from hst]; rfl
      rw [h1]
      exact HJ.out j hj
    have HST := Lib.hid hst
    have HB := Lib.hid hbw
    have hsz := hbw.size
    clear hbw hst
    by_cases hlt : j < n
    · obtain ⟨b, o, rfl, hbl, hc1⟩ := src_get (HS.out.below HB.out) (by omega)
      have hjx : j < (c32 v.data.toList).length := by rw [← HN.out]; exact hlt
      have e1 := hc1 j _ (nats_at .u32 (c32 v.data.toList) j hjx)
      have HX : Hid (jn [32] (fun i => cellT ((c32 v.data.toList).getD i 0)) (j + 1) = jn [32] (fun i => cellT ((c32 v.data.toList).getD i 0)) j ++ (if j = 0 then [] else [32]) ++ ([48, 120] ++ hx 16 ((c32 v.data.toList).getD j 0))) := Lib.hid rfl
      have hxs := HLT.out j
      generalize (c32 v.data.toList).getD j 0 = x at e1 HX hxs
      have hql : (str (hx 16 x)).size ≤ 16 := by
        rw [str_size]
        exact hx_le 16 x
      have hc2 : (⟨#[48, 120]⟩ : ByteArray).size = 2 := rfl
      clear hc1 hjx
      by_cases hj0 : j = 0
      · subst hj0
        rw [Nat.add_zero] at e1
        go_wp2_with fail
        refine (refDigits_any x _ (by omega)).mono ?_
        rintro e w3 ⟨rfl, b3⟩
        have B3 := Lib.hid (HB.out.trans (b3.mono hsz))
        clear b3
        generalize hQ : str (hx 16 x) = q at hql ⊢
        have HQ := Lib.hid hQ
        clear hQ
        go_wp2_with fail
        go_roundw
        case rel =>
          refine ⟨0 + 1, _, by omega, by go_num, rfl, ?_, B3.out⟩
          rw [HX.out]
          simp only [if_true, List.append_nil]
          unfold StrIs
          rw [← List.append_assoc, ← str_append, ← str_append, HQ.out, ← (show st = _ from HST.out)]
          rfl
        case measure => simp [intOf]; omega
      · have hjp : 0 < j := by omega
        have hc3 : (⟨#[32]⟩ : ByteArray).size = 1 := rfl
        go_wp2_with fail
        refine (refDigits_any x _ (by omega)).mono ?_
        rintro e w3 ⟨rfl, b3⟩
        have B3 := Lib.hid (HB.out.trans (b3.mono hsz))
        clear b3
        generalize hQ : str (hx 16 x) = q at hql ⊢
        have HQ := Lib.hid hQ
        clear hQ
        go_wp2_with fail
        go_roundw
        case rel =>
          refine ⟨j + 1, _, by omega, by go_num, rfl, ?_, B3.out⟩
          rw [HX.out, if_neg hj0]
          unfold StrIs
          rw [← List.append_assoc, ← str_append, ← str_append, ← str_append, HQ.out, ← (show st = _ from HST.out)]
          rfl
        case measure => simp [intOf]; omega
    · obtain rfl : j = n := by omega
      have HE : Hid (st = str (cellsT v.data.toList)) := Lib.hid (by
        have h1 := HST.out
        unfold StrIs at h1
        rw [h1, HN.out]
        rfl)
      have HW := Lib.hid (wrap_str 60 62 (cellsT v.data.toList))
      go_wp2_with fail
      go_ret
      rw [HE.out]
      exact ⟨ret_string HW.out, B2.out.trans (HB.out.mono B2.out.size)⟩
end Go.Proofs.YtomhfmcmjcghoaaGreatDoor.Cl
