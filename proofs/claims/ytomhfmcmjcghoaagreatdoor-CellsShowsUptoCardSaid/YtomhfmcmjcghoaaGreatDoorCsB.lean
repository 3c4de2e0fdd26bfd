/- The contract of Show at every value: what is shown is showV's text. -/
import Derived.Test.YtomhfmcmjcghoaaGreatDoorCsA
import Derived.Test.YtomhfmcmjcghoaaGreatDoorClU
namespace Go.Proofs.YtomhfmcmjcghoaaGreatDoor.Cl
open Go.ChangeShapes Go.WideShapes Go.ChangeAt Go.RowKit Own Bld Nums

theorem show0_any (v : ByteArray) (w : World) (hv : v.size ≤ 20000000) (hl : lookV v.data.toList = 0) :
    Calls Tryz.prog 8 #[.string v] w fun e w' => e = .returned (.string ⟨#[45]⟩) ∧ Below w.heap.size w w' := by
  have HL := Lib.hid hl
  clear hl
  go_enter Tryz.func8, Tryz.ntmps8
  go_wp2_with fail
  refine (progLook_any v _ (by omega)).mono ?_
  rintro e w1 ⟨rfl, b1⟩
  rw [HL.out]
  have B1 := Lib.hid b1
  clear b1
  go_wp2_with fail
  go_ret
  exact ⟨rfl, B1.out⟩

theorem show1g_any (v : ByteArray) (w : World) (hv : v.size ≤ 20000000) (hl : lookV v.data.toList = 1) (hp : plainB v.data.toList = true) :
    Calls Tryz.prog 8 #[.string v] w fun e w' => e = .returned (.string (str (textsT v.data.toList))) ∧ Below w.heap.size w w' := by
  have HL := Lib.hid hl
  have HG := Lib.hid (good_asc _ hp)
  have hz : v.data.toList.length = v.size := rfl
  have HZ := Lib.hid hz
  have HJ : Hid (∀ k, k ≤ (tx v.data.toList).length → (jn [44, 32] (fun i => quoted ((tx v.data.toList).getD i ByteArray.empty).data.toList) k).length ≤ 536870912) := Lib.hid fun k hk => by
    have h1 := jnq_len (tx v.data.toList) k hk
    have h2 := vT_take (tx v.data.toList) k
    have h3 := vT_tx v.data.toList
    omega
  clear hl hp hz
  go_enter Tryz.func8, Tryz.ntmps8
  go_wp2_with fail
  refine (progLook_any v _ (by omega)).mono ?_
  rintro e w1 ⟨rfl, b1⟩
  rw [HL.out]
  have B1 := Lib.hid b1
  clear b1
  go_wp2_with fail
  refine (progTexts_any v _ (by omega)).mono ?_
  rintro e w2 ⟨A, n, c, hn, rfl, ho, hb⟩
  rw [strs_len] at hn
  obtain ⟨A', c', hv', hs⟩ := own_src ho
  injection hv' with h1 _ h3
  subst h1 h3
  have HS := Lib.hid hs
  have HN := Lib.hid hn
  have B2 := Lib.hid (B1.out.trans (hb.mono B1.out.size))
  clear ho hb hs hn
  go_wp2_with fail
  refine (listedTexts_any A c n (tx v.data.toList) _ HN.out (by rw [HN.out]; have := tx_len' v.data.toList; have h2 := HZ.out; omega) HG.out (fun k => by have := tx_size v.data.toList k; have h2 := HZ.out; omega) (by rw [HN.out]; exact HJ.out) HS.out).mono ?_
  rintro e w3 ⟨rfl, b3⟩
  have B3 := Lib.hid (B2.out.trans (b3.mono B2.out.size))
  clear b3
  rw [HN.out]
  go_wp2_with fail
  go_ret
  exact ⟨rfl, B3.out⟩

theorem wrap_str (a b : UInt8) (J : List UInt8) : (⟨#[a]⟩ : ByteArray) ++ str J ++ ⟨#[b]⟩ = str (a :: (J ++ [b])) := bytes_ext (by simp [str])

theorem show2g_any (v : ByteArray) (w : World) (hv : v.size ≤ 20000000) (hl : lookV v.data.toList = 2) (hV : w.cell? ⟨7, 15, none⟩ = some (.int .u8 4)) :
    Calls Tryz.prog 8 #[.string v] w fun e w' => e = .returned (.string (str ([60] ++ cellsT v.data.toList ++ [62]))) ∧ Below w.heap.size w w' := by
  have HL := Lib.hid hl
  have HV := Lib.hid hV
  have hVlt : 7 < w.heap.size := World.block_lt_of_cell? w _ hV
  clear hl hV
  go_enter Tryz.func8, Tryz.ntmps8
  go_wp2_with fail
  refine (progLook_any v _ (by omega)).mono ?_
  rintro e w1 ⟨rfl, b1⟩
  rw [HL.out]
  have B1 := Lib.hid b1
  clear b1
  go_wp2_with fail
  refine (prog32_any v _ (by omega)).mono ?_
  rintro e w2 ⟨A, n, c, hn, rfl, ho, hb⟩
  rw [nats_len] at hn
  obtain ⟨A', c', hv', hs⟩ := own_src ho
  injection hv' with h1 _ h3
  subst h1 h3
  have HS := Lib.hid hs
  have HN := Lib.hid hn
  have B2 := Lib.hid (B1.out.trans (hb.mono B1.out.size))
  clear ho hb hs hn
  have hnn : n ≤ 16777216 := by
    rw [HN.out]
    have h1 : v.data.toList.length = v.size := rfl
    unfold c32
    split
    · rw [chunk_len]; omega
    · simp
  go_wp2_with fail
  refine (listedCells_any A c n (c32 v.data.toList) _ HN.out hnn (c32_lt v.data.toList) (by rw [B2.out.cell (p := ⟨7, 15, none⟩) hVlt]; exact HV.out) HS.out).mono ?_
  rintro e w3 ⟨rfl, b3⟩
  have B3 := Lib.hid (B2.out.trans (b3.mono B2.out.size))
  clear b3
  have hjl : (str (jn [32] (fun i => cellT ((c32 v.data.toList).getD i 0)) n)).size ≤ 536870912 := by
    have h := jn_len [32] (fun i => cellT ((c32 v.data.toList).getD i 0)) 18 (fun i => cellT_len _) n
    have h2 : ([32] : List UInt8).length = 1 := rfl
    rw [h2] at h
    show (jn [32] (fun i => cellT ((c32 v.data.toList).getD i 0)) n).length ≤ _
    omega
  have hJ : jn [32] (fun i => cellT ((c32 v.data.toList).getD i 0)) n = cellsT v.data.toList := by rw [HN.out]; rfl
  rw [hJ] at hjl ⊢
  clear hJ
  have HW := Lib.hid (wrap_str 60 62 (cellsT v.data.toList))
  generalize str (cellsT v.data.toList) = K at hjl HW ⊢
  go_wp2_with fail
  go_ret
  exact ⟨ret_string' HW.out, B3.out⟩

theorem show3_any (v : ByteArray) (w : World) (hv : v.size ≤ 20000000) (hl : lookV v.data.toList = 3) :
    Calls Tryz.prog 8 #[.string v] w fun e w' => e = .returned (.string (str ([91] ++ bytesT v.data.toList ++ [93]))) ∧ Below w.heap.size w w' := by
  have HL := Lib.hid hl
  have hz : v.data.toList.length = v.size := rfl
  have HZ := Lib.hid hz
  clear hl hz
  go_enter Tryz.func8, Tryz.ntmps8
  go_wp2_with fail
  refine (progLook_any v _ (by omega)).mono ?_
  rintro e w1 ⟨rfl, b1⟩
  rw [HL.out]
  have B1 := Lib.hid b1
  clear b1
  have hcv := Lib.run_convert_string_bytes (P := Tryz.prog) w1 9 54 5 v (u := .string) Tryz.underlying9 Tryz.underlying54 Tryz.underlying5
  have hbel : Below w1.heap.size w1 (Lib.bytesWorld w1 5 v) := Lib.bytesWorld_below w1 5 v
  have hS : Src (Lib.bytesWorld w1 5 v) (some ⟨w1.heap.size, 0, none⟩) v.size (grownCap w1 v.size 0 5) (Lib.byteCells v.data.toList) := .inr ⟨_, rfl, by rw [Lib.byteCells_length]; exact HZ.out, fun j u hu => by
    have hj : j < v.data.toList.length := by
      have := (List.getElem?_eq_some_iff.1 hu).1
      rw [Lib.byteCells_length] at this
      exact this
    rw [bs_at _ j hj] at hu
    obtain rfl := Option.some.inj hu
    rw [add_none, Nat.zero_add]
    exact Lib.bytesWorld_cell w1 5 v j (by rw [← HZ.out]; exact hj)⟩
  generalize grownCap w1 v.size 0 5 = cap at hcv hS
  generalize Lib.bytesWorld w1 5 v = w2 at hcv hbel hS
  have B2 := Lib.hid (B1.out.trans (hbel.mono B1.out.size))
  have HS := Lib.hid hS
  clear hbel hS
  go_wp2_with fail
  refine (listedBytes_any (some ⟨w1.heap.size, 0, none⟩) cap v.size v.data.toList _ HZ.out.symm (by omega) HS.out).mono ?_
  rintro e w3 ⟨rfl, b3⟩
  have B3 := Lib.hid (B2.out.trans (b3.mono B2.out.size))
  clear b3 hcv
  have hjl : (str (jn [32] (fun i => byteT (v.data.toList.getD i 0).toNat) v.size)).size ≤ 536870912 := by
    have h := jn_len [32] (fun i => byteT (v.data.toList.getD i 0).toNat) 2 (fun i => byteT_len _) v.size
    have h2 : ([32] : List UInt8).length = 1 := rfl
    rw [h2] at h
    show (jn [32] (fun i => byteT (v.data.toList.getD i 0).toNat) v.size).length ≤ _
    omega
  have hJ : jn [32] (fun i => byteT (v.data.toList.getD i 0).toNat) v.size = bytesT v.data.toList := by rw [← HZ.out]; rfl
  rw [hJ] at hjl ⊢
  clear hJ
  have HW := Lib.hid (wrap_str 91 93 (bytesT v.data.toList))
  generalize str (bytesT v.data.toList) = K at hjl HW ⊢
  go_wp2_with fail
  go_ret
  exact ⟨ret_string' HW.out, B3.out⟩

/-- Show, at every value. -/
theorem show_any (v : ByteArray) (w : World) (hv : v.size ≤ 20000000) (hV : w.cell? ⟨7, 15, none⟩ = some (.int .u8 4)) :
    Calls Tryz.prog 8 #[.string v] w fun e w' => e = .returned (.string (str (showV v.data.toList))) ∧ Below w.heap.size w w' := by
  by_cases h0 : lookV v.data.toList = 0
  · have e : showV v.data.toList = [45] := if_pos h0
    rw [e]
    exact show0_any v w hv h0
  · by_cases h1 : lookV v.data.toList = 1
    · have e : showV v.data.toList = textsT v.data.toList := by unfold showV; rw [if_neg h0, if_pos h1]
      rw [e]
      refine show1g_any v w hv h1 ?_
      unfold lookV at h1
      split at h1
      · simp at h1
      · split at h1
        · assumption
        · split at h1 <;> simp at h1
    · by_cases h2 : lookV v.data.toList = 2
      · have e : showV v.data.toList = [60] ++ cellsT v.data.toList ++ [62] := by unfold showV; rw [if_neg h0, if_neg h1, if_pos h2]
        rw [e]
        exact show2g_any v w hv h2 hV
      · have e : showV v.data.toList = [91] ++ bytesT v.data.toList ++ [93] := by unfold showV; rw [if_neg h0, if_neg h1, if_neg h2]
        rw [e]
        refine show3_any v w hv ?_
        unfold lookV at h0 h1 h2 ⊢
        split at h0
        · simp at h0
        · rename_i g0
          rw [if_neg g0] at h1 h2 ⊢
          split at h1
          · simp at h1
          · rename_i g1
            rw [if_neg g1] at h2 ⊢
            split at h2
            · simp at h2
            · rename_i g2
              rw [if_neg g2]
end Go.Proofs.YtomhfmcmjcghoaaGreatDoor.Cl
