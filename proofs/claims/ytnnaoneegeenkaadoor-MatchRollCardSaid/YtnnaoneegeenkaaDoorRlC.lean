/- slices.Grow from nothing and slices.Concat, over lists of cards. -/
import Derived.Test.YtnnaoneegeenkaaDoorChC
import Derived.Lib.AppendZeros
namespace Go.Proofs.YtnnaoneegeenkaaDoor.Kc
open Go.ChangeShapes Go.WideShapes Go.ChangeAt Go.RowKit Own Ro

theorem info_cd : (Tryd.prog.info? 30).map (fun i => (i.zero, i.size, i.bytes)) = some (some (.agg #[.string ⟨#[]⟩, .string ⟨#[]⟩, .int .u8 0, .slice none 0 0, .int .i8 0, .string ⟨#[]⟩, .int .i16 0]), 7, 96) := by kernel_rfl
/-- A new list with room for n cards. -/
theorem own_room (w : World) (n : Nat) (hn : n ≤ 1000) (z : Array Value) (hz : z.size = 7) :
    ((w.drew.alloc (.cells (Builtin.zeroCells z n ++ Builtin.zeroCells z (grownCap w n 0 30 - n)) 30))).ownsRow w.heap.size 30 7 (.slice (some ⟨w.heap.size, 0, none⟩) 0 (grownCap w n 0 30)) 0 [] := by
  have h1 := grownCap_ge w n 0 30
  have h2 := grownCap_le_maxLen w n 0 30 (by unfold maxLen; omega)
  refine ⟨rfl, .inr ⟨w.heap.size, _, _, rfl, Nat.le_refl _, heap_alloc_new w.drew _, Nat.zero_le _, h2, ?_, by simp⟩⟩
  rw [Array.size_append, size_zeroCells, size_zeroCells, hz]
  omega
set_option maxRecDepth 100000 in
set_option maxHeartbeats 8000000 in
theorem grow_any (w : World) (n : Nat) (h0 : 0 < n) (hn : n ≤ 1000) : Calls Tryd.prog 90 #[.slice none 0 0, .int .i64 (n : Int)] w
    (fun e w' => ∃ c, e = .returned (.slice (some ⟨w.heap.size, 0, none⟩) 0 c) ∧ w'.ownsRow w.heap.size 30 7 (.slice (some ⟨w.heap.size, 0, none⟩) 0 c) 0 [] ∧ Below w.heap.size w w') := by
  have n1 : (0 : Int) < (n : Int) := by omega
  have n2 : (n : Int) ≤ 1000 := by omega
  obtain ⟨i, hi, hzz⟩ := Option.map_eq_some_iff.1 info_cd
  simp only [Prod.mk.injEq] at hzz
  obtain ⟨hz, hsz, hby⟩ := hzz
  have HR := Lib.hid (fun (ty tn : TypeId) (htn : Tryd.prog.underlying tn = some (.int .i64)) => Lib.run_append_nil_zeros (P := Tryd.prog) w 23 tn ty 30 i _ .i64 .i64 Tryd.underlying23 htn hi hz n h0 (by rw [hsz]; decide) (by omega) (by rw [hby]; omega))
  have HO := Lib.hid (own_room w n hn (Value.agg #[.string ⟨#[]⟩, .string ⟨#[]⟩, .int .u8 0, .slice none 0 0, .int .i8 0, .string ⟨#[]⟩, .int .i16 0]).cells rfl)
  have HB := Lib.hid (bal (below_dr (Below.refl w.heap.size w) 1) rfl (.cells (Builtin.zeroCells (Value.agg #[.string ⟨#[]⟩, .string ⟨#[]⟩, .int .u8 0, .slice none 0 0, .int .i8 0, .string ⟨#[]⟩, .int .i16 0]).cells n ++ Builtin.zeroCells (Value.agg #[.string ⟨#[]⟩, .string ⟨#[]⟩, .int .u8 0, .slice none 0 0, .int .i8 0, .string ⟨#[]⟩, .int .i16 0]).cells (grownCap w n 0 30 - n)) 30))
  have hc := grownCap_ge w n 0 30
  clear hi hz hsz hby hn h0
  go_enter Tryd.func90, Tryd.ntmps90
  go_wp2_with (at_builtin; refine Lib.wpList_append_run _ rfl _ _ _ _ rfl _ _ rfl rfl _ _ (HR.out _ _ Tryd.underlying3) ?_)
  go_ret
  exact ⟨_, rfl, HO.out, HB.out⟩
/-- Lists that are to be put together: where they lie, and their cells. -/
abbrev Ps := Sl × List Value
def ps0 : Ps := (sl0, [])
def lenS (S : List Ps) : Nat := (S.map fun s => s.1.2.1).sum
def flatS (S : List Ps) : List Value := S.flatMap fun s => s.2
theorem lenS_take (S : List Ps) (k : Nat) (h : k < S.length) : lenS (S.take (k + 1)) = lenS (S.take k) + (S.getD k ps0).1.2.1 := by
  unfold lenS
  rw [takeS S ps0 k h, List.map_append, List.sum_append]
  simp
theorem flatS_take (S : List Ps) (k : Nat) (h : k < S.length) : flatS (S.take (k + 1)) = flatS (S.take k) ++ (S.getD k ps0).2 := by
  unfold flatS
  rw [takeS S ps0 k h, List.flatMap_append]
  simp
theorem lenS_le (S : List Ps) (k : Nat) : lenS (S.take k) ≤ lenS S := by
  unfold lenS
  conv => rhs; rw [← List.take_append_drop k S, List.map_append, List.sum_append]
  exact Nat.le_add_right _ _
set_option maxRecDepth 100000 in
set_option maxHeartbeats 8000000 in
theorem concat_any (A : Option Addr) (n c : Nat) (S : List Ps) (w : World) (hn : n = S.length) (hA : CellsIn w 1 A n (S.map fun s => slV s.1)) (hS : ∀ i, i < n → SrcK 7 w (S.getD i ps0).1.1 (S.getD i ps0).1.2.1 (S.getD i ps0).1.2.2 (S.getD i ps0).2 ∧ (∀ u ∈ (S.getD i ps0).2, u.oneCell' = true) ∧ ∀ a, (S.getD i ps0).1.1 = some a → a.block < w.heap.size)
    (h0 : 0 < lenS S) (h1 : lenS S ≤ 1000) (hn2 : n ≤ 1000) : Calls Tryd.prog 59 #[.slice A n c] w
    (fun e w' => ∃ A' c', e = .returned (.slice A' (lenS S) c') ∧ w'.ownsRow w.heap.size 30 7 (.slice A' (lenS S) c') (lenS S) (flatS S) ∧ Below w.heap.size w w') := by
  have HN := Lib.hid hn
  have HA := Lib.hid hA
  have HS := Lib.hid hS
  have H0 := Lib.hid h0
  have H1 := Lib.hid h1
  clear hn hA hS h0 h1
  go_enter Tryd.func59, Tryd.ntmps59
  go_wp2_with fail
  go_loopw [3, 11] (fun v3 v11 wr => ∃ k : Nat, k ≤ n ∧ v3 = .int .i64 (lenS (S.take k) : Nat) ∧ v11 = .int .i64 (k : Nat) ∧ w = wr) (fun _ v11 _ => n - (RowKit.intOf v11).toNat)
  case atStart => exact ⟨0, by omega, rfl, rfl, rfl⟩
  case round =>
    obtain ⟨k, hk, rfl, rfl, rfl⟩ := hrel
    by_cases hlt : k < n
    · have k1 : (0 : Int) ≤ (k : Int) := by omega
      have k2 : (k : Int) < (n : Int) := by omega
      obtain ⟨b, o, rfl, _, hc⟩ := HA.out.at (by omega)
      have hkS : k < S.length := by rw [← HN.out]; exact hlt
      have c0 := hc k (slV (S.getD k ps0).1) (by rw [List.getElem?_map, some_at S ps0 k hkS]; rfl)
      have HLT := Lib.hid (lenS_take S k hkS)
      have hle : lenS (S.take (k + 1)) ≤ 1000 := Nat.le_trans (lenS_le S _) H1.out
      rw [HLT.out] at hle
      generalize hsk : (S.getD k ps0).1 = sk at c0 HLT hle
      obtain ⟨sa, sn, sc⟩ := sk
      simp only [slV] at c0
      dsimp only at HLT hle
      generalize lenS (S.take k) = m at HLT hle ⊢
      have m1 : (0 : Int) ≤ (m : Int) := by omega
      have m2 : (m : Int) + (sn : Int) ≤ 1000 := by omega
      have m3 : (0 : Int) ≤ (sn : Int) := by omega
      clear hc hsk
      go_wp2_with fail
      go_roundw
      case rel => exact ⟨k + 1, by omega, by rw [HLT.out]; go_num, by go_num, trivial⟩
      case measure => simp [RowKit.intOf]; omega
    · obtain rfl : k = n := by omega
      have HT : Hid (S.take k = S) := Lib.hid (by rw [HN.out, List.take_length])
      rw [HT.out]
      have HG := Lib.hid (grow_any w (lenS S) H0.out H1.out)
      have hl1 := H1.out
      generalize hm : lenS S = m at HG hl1 ⊢
      have m1 : (0 : Int) ≤ (m : Int) := by omega
      go_wp2_with fail
      refine HG.out.mono ?_
      rintro e w1 ⟨c1, rfl, ho1, b1⟩
      have HO1 := Lib.hid ho1
      have HB1 := Lib.hid b1
      clear ho1 b1 HG
      go_wp2_with fail
      go_loopw [6, 27] (fun v6 v27 wz => ∃ j : Nat, j ≤ k ∧ v27 = .int .i64 (j : Nat) ∧ (∃ A' c', v6 = .slice A' (lenS (S.take j)) c' ∧ wz.ownsRow w.heap.size 30 7 (.slice A' (lenS (S.take j)) c') (lenS (S.take j)) (flatS (S.take j))) ∧ Below w.heap.size w wz) (fun _ v27 _ => k - (RowKit.intOf v27).toNat)
      case atStart => exact ⟨0, by omega, rfl, ⟨_, _, rfl, HO1.out⟩, HB1.out⟩
      case round =>
        clear HO1 HB1
        obtain ⟨j, hj, rfl, ⟨A', c', rfl, ho⟩, hb⟩ := hrel
        have HO := Lib.hid ho
        have HB := Lib.hid hb
        clear ho hb
        by_cases hlj : j < k
        · have k1 : (0 : Int) ≤ (j : Int) := by omega
          have k2 : (j : Int) < (k : Int) := by omega
          obtain ⟨b, o, rfl, hbs, hc⟩ := HA.out.at (by omega)
          have hkS : j < S.length := by rw [← HN.out]; exact hlj
          have c0 : _ = some (slV (S.getD j ps0).1) := hc j (slV (S.getD j ps0).1) (by rw [List.getElem?_map, some_at S ps0 j hkS]; rfl)
          rw [← HB.out.cell (p := ⟨b, o + j, none⟩) hbs] at c0
          have HLT := Lib.hid (lenS_take S j hkS)
          have HFT := Lib.hid (flatS_take S j hkS)
          have hle : lenS (S.take (j + 1)) ≤ 1000 := by have := lenS_le S (j + 1); omega
          rw [HLT.out] at hle
          have HSJ := Lib.hid (HS.out j hlj)
          generalize S.getD j ps0 = sk at c0 HLT HFT hle HSJ
          obtain ⟨⟨sa, sn, sc⟩, news⟩ := sk
          simp only [slV] at c0
          dsimp only at HLT hle HSJ HFT
          have HSR : Hid (SrcK 7 wr sa sn sc news) := Lib.hid (by
            rcases HSJ.out.1 with h | ⟨ad, rfl, hl, hcc⟩
            · exact .inl h
            · refine .inr ⟨ad, rfl, hl, fun i u hu => ?_⟩
              rw [HB.out.cell (p := ad.add i) (by have := HSJ.out.2.2 ad rfl; unfold Addr.add; split <;> exact this)]
              exact hcc i u hu)
          clear hc hbs
          generalize lenS (S.take j) = m2 at HLT HO hle ⊢
          go_wp2_with (at_builtin; (refine wpList_append_srcK (o := ⟨some 33, _, _, _, _, _⟩) rfl (.tmp 31) (.tmp 32) 23 rfl w.heap.size 30 (.agg #[.string ⟨#[]⟩, .string ⟨#[]⟩, .int .u8 0, .slice none 0 0, .int .i8 0, .string ⟨#[]⟩, .int .i16 0]) 7 96 (by omega) Tryd.underlying23 info_cd rfl _ m2 (flatS (S.take j)) rfl HO.out sa sn sc news rfl HSR.out HSJ.out.2.1 (by omega) (by omega) HB.out.size ?_); intro v3 w3 ho3 hg3; have HO3 := Lib.hid ho3; have HG3 := Lib.hid hg3; clear ho3 hg3)
          go_roundw
          case rel =>
            have ho3 := HO3.out
            obtain ⟨A3, c3, rfl, _⟩ := own_srcK ho3
            rw [← HLT.out, ← HFT.out] at ho3
            refine ⟨j + 1, by omega, by go_num, ⟨A3, c3, by rw [HLT.out], ho3⟩, HB.out.grown HG3.out HB.out.size (fun g hg => (HO.out.lt g hg).1)⟩
          case measure => simp [RowKit.intOf]; omega
        · obtain rfl : j = k := by omega
          rw [HT.out] at HO
          rw [hm] at HO
          have e : lenS (S.take j) = m := by rw [HT.out, hm]
          rw [e]
          go_wp2_with fail
          go_ret
          rw [hm]
          exact ⟨A', c', rfl, HO.out, HB.out⟩
end Go.Proofs.YtnnaoneegeenkaaDoor.Kc
