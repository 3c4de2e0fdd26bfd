/- The contracts of Show at a value that looks like texts, and at one that looks like cells; the walk of the law on no reader. -/
import Derived.Test.YtomhfmcmjcghoaaGreatDoorClS
namespace Go.Proofs.YtomhfmcmjcghoaaGreatDoor.Cl
open Go.ChangeShapes Go.WideShapes Go.ChangeAt Go.RowKit Own Bld Nums

theorem tx_len' (l : List UInt8) : (tx l).length ≤ l.length := by
  unfold tx; split
  · rw [List.length_map]; exact split_len l []
  · simp
theorem c32_lt (l : List UInt8) (k : Nat) : (c32 l).getD k 0 < 4294967296 := by
  unfold c32
  split
  · rw [List.getD_eq_getElem?_getD]
    unfold chunk
    rw [List.getElem?_map]
    cases (List.range (l.length / 4))[k]? with
    | none => exact (by decide : (0 : Nat) < 4294967296)
    | some i => exact Nat.lt_of_lt_of_le (num_lt _) (Nat.le_trans (Nat.pow_le_pow_right (by omega) (by simp; omega : _ ≤ 4)) (by decide))
  · simp
theorem ret_string' {a b : ByteArray} (h : a = b) : Ending.returned (.string a) = .returned (.string b) := by rw [h]
theorem show1_any (v : ByteArray) (w : World) (hv : v.size ≤ 128) (hl : lookV v.data.toList = 1) (hg : ∀ k i (hi : i < ((tx v.data.toList).getD k ByteArray.empty).size), ((tx v.data.toList).getD k ByteArray.empty)[i].toNat < 128) :
    Calls Tryz.prog 8 #[.string v] w fun e w' => e = .returned (.string (str (jn [44, 32] (fun i => quoted ((tx v.data.toList).getD i ByteArray.empty).data.toList) (tx v.data.toList).length))) ∧ Below w.heap.size w w' := by
  have HL := Lib.hid hl
  have HG := Lib.hid hg
  clear hl hg
  go_enter Tryz.func8, Tryz.ntmps8
  go_wp2_with fail
  refine (progLook_any v _ (by omega)).mono ?_
  rintro e w1 ⟨rfl, b1⟩
  rw [HL.out]
  have B1 := Lib.hid b1
  clear b1
  go_wp2_with fail
  refine (progTexts_any v _ (by omega)).mono ?_
  rintro e w2 ⟨A, n, c, hn, rfl, ho, hb⟩
  rw [strs_len] at hn
  obtain ⟨A', c', hv', hs⟩ := own_src ho
  injection hv' with h1 _ h3
  subst h1 h3
  have HS := Lib.hid hs
  have HN := Lib.hid hn
  have B2 := Lib.hid (B1.out.trans (hb.mono B1.out.size))
  clear ho hb hs hn
  go_wp2_with fail
  refine (listedTexts_any A c n (tx v.data.toList) _ HN.out (by rw [HN.out]; have := tx_len' v.data.toList; have h2 : v.data.toList.length = v.size := rfl; omega) HG.out (fun k => Nat.le_trans (tx_size v.data.toList k) (Nat.le_trans hv (by decide))) (jn_small _ _ (by rw [HN.out]; have := tx_len' v.data.toList; have h2 : v.data.toList.length = v.size := rfl; omega) (fun k => Nat.le_trans (tx_size v.data.toList k) hv)) HS.out).mono ?_
  rintro e w3 ⟨rfl, b3⟩
  have B3 := Lib.hid (B2.out.trans (b3.mono B2.out.size))
  clear b3
  rw [HN.out]
  go_wp2_with fail
  go_ret
  exact ⟨rfl, B3.out⟩

theorem show2_any (v : ByteArray) (w : World) (hv : v.size ≤ 128) (hl : lookV v.data.toList = 2) (hV : w.cell? ⟨7, 15, none⟩ = some (.int .u8 4)) :
    Calls Tryz.prog 8 #[.string v] w fun e w' => e = .returned (.string (str ([60] ++ jn [32] (fun i => cellT ((c32 v.data.toList).getD i 0)) (c32 v.data.toList).length ++ [62]))) ∧ Below w.heap.size w w' := by
  have HL := Lib.hid hl
  have HV := Lib.hid hV
  have hVlt : 7 < w.heap.size := World.block_lt_of_cell? w _ hV
  clear hl hV
  go_enter Tryz.func8, Tryz.ntmps8
  go_wp2_with fail
  refine (progLook_any v _ (by omega)).mono ?_
  rintro e w1 ⟨rfl, b1⟩
  rw [HL.out]
  have B1 := Lib.hid b1
  clear b1
  go_wp2_with fail
  refine (prog32_any v _ (by omega)).mono ?_
  rintro e w2 ⟨A, n, c, hn, rfl, ho, hb⟩
  rw [nats_len] at hn
  obtain ⟨A', c', hv', hs⟩ := own_src ho
  injection hv' with h1 _ h3
  subst h1 h3
  have HS := Lib.hid hs
  have HN := Lib.hid hn
  have B2 := Lib.hid (B1.out.trans (hb.mono B1.out.size))
  clear ho hb hs hn
  have hnn : n ≤ 128 := by
    rw [HN.out]
    have h1 : v.data.toList.length = v.size := rfl
    unfold c32
    split
    · rw [chunk_len]; omega
    · simp
  go_wp2_with fail
  refine (listedCells_any A c n (c32 v.data.toList) _ HN.out (by omega) (c32_lt v.data.toList) (by rw [B2.out.cell (p := ⟨7, 15, none⟩) hVlt]; exact HV.out) HS.out).mono ?_
  rintro e w3 ⟨rfl, b3⟩
  have B3 := Lib.hid (B2.out.trans (b3.mono B2.out.size))
  clear b3
  have hjl : (str (jn [32] (fun i => cellT ((c32 v.data.toList).getD i 0)) n)).size ≤ 4194304 := by
    have h := jn_len [32] (fun i => cellT ((c32 v.data.toList).getD i 0)) 18 (fun i => cellT_len _) n
    have h2 : ([32] : List UInt8).length = 1 := rfl
    rw [h2] at h
    show (jn [32] (fun i => cellT ((c32 v.data.toList).getD i 0)) n).length ≤ _
    omega
  generalize hJ : jn [32] (fun i => cellT ((c32 v.data.toList).getD i 0)) n = J at hjl ⊢
  have HJ := Lib.hid hJ
  clear hJ
  generalize hK : str J = K at hjl ⊢
  have HK := Lib.hid hK
  clear hK
  go_wp2_with fail
  go_ret
  rw [← HN.out, HJ.out]
  exact ⟨ret_string' (bytes_ext (by rw [← HK.out]; simp [str])), B3.out⟩

theorem look1 : lookV [97, 98, 0] = 1 := by decide
theorem look2 : lookV [0, 0, 0, 1] = 2 := by decide
theorem tx1 : tx [97, 98, 0] = [⟨#[97, 98]⟩] := by decide
theorem ascii1 : ∀ k i (hi : i < ((tx (⟨#[97, 98, 0]⟩ : ByteArray).data.toList).getD k ByteArray.empty).size), ((tx (⟨#[97, 98, 0]⟩ : ByteArray).data.toList).getD k ByteArray.empty)[i].toNat < 128 := by
  have h : tx (⟨#[97, 98, 0]⟩ : ByteArray).data.toList = [⟨#[97, 98]⟩] := tx1
  rw [h]
  intro k i hi
  match k, hi with
  | 0, hi =>
    have h2 : i < 2 := hi
    match i, h2 with
    | 0, _ => exact (by decide : (97 : UInt8).toNat < 128)
    | 1, _ => exact (by decide : (98 : UInt8).toNat < 128)
  | k + 1, hi => exact absurd hi (by simp)
theorem c1 : c32 [0, 0, 0, 1] = [1] := by decide

theorem wide_nil1 (w : World) : Calls Tryz.prog 40 #[.pointer none, .int .i64 1] w fun e w' => e = .returned (.tuple #[.int .u64 0, .int .i64 2]) ∧ w = w' := by
  go_enter Tryz.func40, Tryz.ntmps40
  go_wp2
  go_ret2
  exact ⟨rfl, rfl⟩
theorem wide_nil9 (w : World) : Calls Tryz.prog 40 #[.pointer none, .int .i64 9] w fun e w' => e = .returned (.tuple #[.int .u64 0, .int .i64 2]) ∧ w = w' := by
  go_enter Tryz.func40, Tryz.ntmps40
  go_wp2
  go_ret2
  exact ⟨rfl, rfl⟩
theorem text_nil (w : World) : Calls Tryz.prog 43 #[.pointer none] w fun e w' => e = .returned (.tuple #[.string ⟨#[]⟩, .int .i64 2]) ∧ w = w' := by
  go_enter Tryz.func43, Tryz.ntmps43
  go_wp2
  go_ret2
  exact ⟨rfl, rfl⟩
theorem left_nil (w : World) : Calls Tryz.prog 59 #[.pointer none] w fun e w' => e = .returned (.int .i64 0) ∧ w = w' := by
  go_enter Tryz.func59, Tryz.ntmps59
  go_wp2
  go_ret
  exact ⟨rfl, rfl⟩
theorem cell_nil (w : World) : Calls Tryz.prog 36 #[.pointer none] w fun e w' => e = .returned (.tuple #[.int .u32 0, .int .i64 2]) ∧ w = w' := by
  go_enter Tryz.func36, Tryz.ntmps36
  go_wp2_with fail
  refine (wide_nil1 _).mono ?_
  rintro e w1 ⟨rfl, rfl⟩
  go_wp2_with fail
  go_ret2
  exact ⟨rfl, rfl⟩

end Go.Proofs.YtomhfmcmjcghoaaGreatDoor.Cl
