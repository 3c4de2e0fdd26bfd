/- The contracts of count and pick; what is fitted, by its runes. -/
import Derived.Test.YtoepejokkfhiaaaGreatDoorWeV
import Derived.Test.YtoepejokkfhiaaaGreatDoorWdV
namespace Go.Proofs.YtoepejokkfhiaaaGreatDoor.Wd
open Go.ChangeShapes Go.WideShapes Go.ChangeAt Go.RowKit Own Bld Go.Lib Nums

theorem fit_toks (l : List UInt8) (n : Nat) (h1 : 1 ≤ n) : ∃ T : List (List UInt8), fitW l n = T.flatten ∧ (∀ q ∈ T, TokE q) ∧ T.length = n := by
  obtain ⟨e1, e2, e3⟩ := toks l
  unfold fitW
  by_cases h : widthW l ≤ n
  · rw [if_pos h]
    refine ⟨tokW l ++ (List.replicate (n - widthW l) 32).map (fun d => [d]), by rw [List.flatten_append, e1, flat_one], fun q hq => ?_, by rw [List.length_append, List.length_map, List.length_replicate]; omega⟩
    rcases List.mem_append.1 hq with h1 | h1
    · exact e2 q h1
    · obtain ⟨d, hd, rfl⟩ := List.mem_map.1 h1
      have : d = 32 := (List.mem_replicate.1 hd).2
      subst this
      exact tokE_byte 32 (by decide)
  · rw [if_neg h]
    refine ⟨(tokW l).take (n - 1) ++ [[126]], by rw [List.flatten_append]; rfl, fun q hq => ?_, by rw [List.length_append, List.length_take, List.length_singleton]; omega⟩
    rcases List.mem_append.1 hq with h1 | h1
    · exact e2 q (List.mem_of_mem_take h1)
    · have : q = [126] := by simpa using h1
      subst this
      exact tokE_byte 126 (by decide)

set_option maxRecDepth 100000 in
set_option maxHeartbeats 2000000 in
theorem count_any (S : ByteArray) (T : List (List UInt8)) (w : World) (hS : S.size ≤ 67108864) (hT : S.data.toList = T.flatten) (hTa : ∀ q ∈ T, TokE q) (hTn : T.length ≤ 67108864) :
    Calls Tryz.prog 21 #[.string S] w fun e w' => e = .returned (.int .i64 (T.length : Int)) ∧ Below w.heap.size w w' := by
  have HS := Lib.hid hT
  have HTA := Lib.hid hTa
  have HTN := Lib.hid hTn
  clear hT hTa hTn
  go_enter Tryz.func21, Tryz.ntmps21
  go_wp2_with fail
  go_loopw [3] (fun c wr => ∃ (pos m : Nat) (us : List (List UInt8)), pos ≤ S.size ∧ c = .int .i64 m ∧ Hid (m + us.length = T.length) ∧ Hid (S.data.toList.drop pos = us.flatten) ∧ Hid (∀ q ∈ us, TokE q) ∧ wr.heap[w.heap.size]? = some (.stringIter S pos) ∧ Below w.heap.size w wr) (fun _ wr => S.size - wr.iterPos w.heap.size)
  case atStart => exact ⟨0, 0, T, Nat.zero_le _, rfl, Lib.hid (Nat.zero_add _), Lib.hid (by rw [List.drop_zero]; exact HS.out), HTA, heap_alloc_new w _, (Below.refl _ _).alloc (Nat.le_refl _) _⟩
  case round =>
    obtain ⟨pos, m, us, hp, rfl, HM, HDR, HUS, hit, hbw⟩ := hrel
    have HIT := Lib.hid hit
    have HBW := Lib.hid hbw
    have hkr : w.heap.size < wr.heap.size := lt_heap' hit
    clear hit hbw
    have hpl : S.data.toList.length = S.size := rfl
    have hmb : m ≤ 67108864 := by have := HM.out; have := HTN.out; omega
    cases us with
    | nil =>
      have hpe : pos = S.size := by
        have h := congrArg List.length HDR.out
        rw [List.length_drop, hpl, List.flatten_nil, List.length_nil] at h
        omega
      subst hpe
      have hnx : ∀ ty, (Instr.next (.pointer (some ⟨w.heap.size, 0, none⟩)) true ty).run Tryz.prog wr = _ := fun ty => Lib.run_next_end_at wr w.heap.size S S.size ty HIT.out (Nat.lt_irrefl _)
      have HML : Hid ((m : Int) = (T.length : Int)) := Lib.hid (by have := HM.out; simp at this; omega)
      clear hpl
      go_wp2_with fail
      go_ret
      rw [HML.out]
      exact ⟨rfl, HBW.out⟩
    | cons q qs =>
      obtain ⟨hqn, hq4, c, hc, hdec, henc⟩ := HUS.out q List.mem_cons_self
      have HUS2 := Lib.hid fun z (hz : z ∈ qs) => HUS.out z (List.mem_cons_of_mem _ hz)
      have hfl : S.data.toList.drop pos = q ++ qs.flatten := HDR.out
      have hq1 := List.length_pos_iff.2 hqn
      have hln := congrArg List.length hfl
      rw [List.length_drop, hpl, List.length_append] at hln
      have hlt : pos < S.size := by omega
      have hd := hdec qs.flatten
      rw [← hfl] at hd
      have HDR2 : Hid (S.data.toList.drop (pos + q.length) = qs.flatten) := Lib.hid (by rw [← List.drop_drop, hfl, List.drop_left])
      have hnx : ∀ ty, (Instr.next (.pointer (some ⟨w.heap.size, 0, none⟩)) true ty).run Tryz.prog wr = .ok (.tuple #[.bool true, .int .i64 pos, .int .i32 (c : Int)]) (wr.iterAt w.heap.size S (pos + q.length)) := fun ty => by
        have h := Lib.run_next_any_at wr w.heap.size S pos ty HIT.out hlt (P := Tryz.prog)
        rw [← decodeL_drop, hd] at h
        exact h
      have I2 : Hid ((wr.iterAt w.heap.size S (pos + q.length)).heap[w.heap.size]? = some (.stringIter S (pos + q.length))) := Lib.hid (Lib.iterAt_heap wr w.heap.size S pos _ HIT.out)
      have W2 : Hid (Below w.heap.size w (wr.iterAt w.heap.size S (pos + q.length))) := Lib.hid (Lib.below_iterAt HBW.out (k := w.heap.size) (by omega) S _)
      have hme : Hid (wr.iterPos w.heap.size = pos) := Lib.hid (by simp only [World.iterPos, HIT.out])
      have hpz : pos + q.length ≤ S.size := by omega
      have HM2 : Hid (m + 1 + qs.length = T.length) := Lib.hid (by have := HM.out; rw [List.length_cons] at this; omega)
      generalize wr.iterAt w.heap.size S (pos + q.length) = wi at hnx I2 W2
      clear hfl hqn hdec henc hln hd hpl HUS HDR HM
      go_wp2_with fail
      go_roundw
      case rel => exact ⟨pos + q.length, m + 1, qs, hpz, by go_num, HM2, HDR2, HUS2, I2.out, W2.out⟩
      case measure =>
        have h1 : wi.iterPos w.heap.size = pos + q.length := by simp only [World.iterPos, I2.out]
        rw [h1, hme.out]
        omega

theorem tm60 (k : Int) : -60 < k.tmod 60 ∧ k.tmod 60 < 60 := by
  have h1 := Int.natAbs_tmod k 60
  have h2 : k.natAbs % (60 : Int).natAbs < (60 : Int).natAbs := Nat.mod_lt _ (by decide)
  have h3 : (60 : Int).natAbs = 60 := rfl
  omega
theorem pick_any (k : Int) (h0 : -9223372036854775808 ≤ k) (h1 : k ≤ 9223372036854775807) : ∃ p : Nat, p < 60 ∧ ∀ W, Calls Tryz.prog 19 #[.int .i64 k, .int .i64 60] W fun e w' => e = .returned (.int .i64 (p : Int)) ∧ W = w' := by
  obtain ⟨t1, t2⟩ := tm60 k
  by_cases hn : k.tmod 60 < 0
  · obtain ⟨p, hp⟩ : ∃ p : Nat, (p : Int) = k.tmod 60 + 60 := ⟨(k.tmod 60 + 60).toNat, by omega⟩
    refine ⟨p, by omega, fun W => ?_⟩
    have HP := Lib.hid hp
    clear hp
    go_enter Tryz.func19, Tryz.ntmps19
    go_wp2_with fail
    go_ret
    exact ⟨congrArg (fun z => Ending.returned (.int .i64 z)) HP.out.symm, rfl⟩
  · obtain ⟨p, hp⟩ : ∃ p : Nat, (p : Int) = k.tmod 60 := ⟨(k.tmod 60).toNat, by omega⟩
    refine ⟨p, by omega, fun W => ?_⟩
    have HP := Lib.hid hp
    clear hp
    go_enter Tryz.func19, Tryz.ntmps19
    go_wp2_with fail
    go_ret
    exact ⟨congrArg (fun z => Ending.returned (.int .i64 z)) HP.out.symm, rfl⟩
end Go.Proofs.YtoepejokkfhiaaaGreatDoor.Wd
