/- Order (P10.4): the document's, of any list. -/
import Derived.Test.YtjffemeeomogaaaDoorBuP
import Derived.Test.YtjffemeeomogaaaDoorBuC
import Derived.Test.YtjffemeeomogaaaDoorBuM
import Derived.Deep.CutBlock
import Derived.Deep.DeepCutAuto
namespace Go.Proofs.YtjffemeeomogaaaDoor.Bu
open Go.ChangeShapes Go.WideShapes Go.ChangeAt Go.RowKit Own Ro St

set_option maxRecDepth 100000 in
set_option maxHeartbeats 8000000 in
theorem refOrder_bad (A : Option Addr) (c n : Nat) (l : List Int) (down : Bool) (w : World) (hn : n = l.length) (hm : n ≤ 9223372036854775807) (hs : CellsIn w 1 A n (ints l)) (hbad : 4096 < n ∨ ∃ i, i < n ∧ ¬ plc (l.getD i 0)) :
    Calls Tryd.prog 40 #[.slice A n c, .bool down] w fun e w' => e = .returned (.tuple #[.slice none 0 0, .int .i64 1]) ∧ w' = w := by
  have HN := Lib.hid hn
  have GA := Lib.hid hs
  have HB := Lib.hid hbad
  clear hn hs hbad
  by_cases hbig : 4096 < n
  · have b1 : (4096 : Int) < (n : Int) := by omega
    go_enter Tryd.func40, Tryd.ntmps40
    go_wp2_with fail
    go_ret2
    exact ⟨rfl, rfl⟩
  · have b1 : ¬ (4096 : Int) < (n : Int) := by omega
    go_enter Tryd.func40, Tryd.ntmps40
    go_wp2_with fail
    go_loop [6] (fun v6 => ∃ k : Nat, k ≤ n ∧ v6 = .int .i64 (k : Int) ∧ Hid (∀ i, i < k → plc (l.getD i 0))) (fun v6 => n - (RowKit.intOf v6).toNat)
    case atStart => exact ⟨0, by omega, rfl, Lib.hid fun i hi => absurd hi (by omega)⟩
    case round =>
      obtain ⟨k, hk, rfl, HK⟩ := hrel
      by_cases hlt : k < n
      · have l1 : (0 : Int) ≤ (k : Int) := by omega
        have l2 : (k : Int) < (n : Int) := by omega
        obtain ⟨b, o, rfl, hbs, hc1⟩ := GA.out.at (by omega)
        have e0 := hc1 k _ (ints_at l k (by rw [← HN.out]; exact hlt))
        have HS := Lib.hid (fun (h : plc (l.getD k 0)) => show ∀ i, i < k + 1 → plc (l.getD i 0) from fun i hi => by
          by_cases e : i = k
          · rw [e]; exact h
          · exact HK.out i (by omega))
        clear hc1
        generalize l.getD k 0 = x at e0 HS
        by_cases h1 : x < 0
        · go_wp2_with fail
          go_ret2
          exact ⟨rfl, rfl⟩
        · by_cases h2 : 20 ≤ x
          · go_wp2_with fail
            go_ret2
            exact ⟨rfl, rfl⟩
          · have HX := Lib.hid (HS.out ⟨by omega, by omega⟩)
            go_wp2_with fail
            go_round
            case rel => exact ⟨k + 1, by omega, by go_num, HX⟩
            case measure => simp [RowKit.intOf]; omega
      · obtain rfl : n = k := by omega
        exfalso
        rcases HB.out with h | ⟨i, hi, hp⟩
        · omega
        · exact hp (HK.out i hi)
theorem ints_set (l : List Int) (i : Nat) (x : Int) : (ints l).set i (.int .i64 x) = ints (l.set i x) := by unfold ints; rw [List.map_set]
theorem ints_app (l : List Int) (x : Int) : ints l ++ [.int .i64 x] = ints (l ++ [x]) := by unfold ints; rw [List.map_append]; rfl
theorem ints_len (l : List Int) : (ints l).length = l.length := by simp [ints]
/-- A gap at j. -/
def gap (O : List Int) (z : Int) (j : Nat) : List Int := O.take j ++ z :: O.drop j
theorem gap_len (O : List Int) (z : Int) (j : Nat) (h : j ≤ O.length) : (gap O z j).length = O.length + 1 := by simp [gap]; omega
theorem gap_end (O : List Int) (z : Int) : O ++ [z] = gap O z O.length := by simp [gap]
theorem gap_before (O : List Int) (z : Int) (j : Nat) (hj : j + 1 ≤ O.length) : (gap O z (j + 1)).getD j 0 = O.getD j 0 := by
  unfold gap
  rw [List.getD_eq_getElem?_getD, List.getElem?_append_left (by simp; omega), List.getElem?_take_of_lt (by omega), ← List.getD_eq_getElem?_getD]
theorem gap_step (O : List Int) (z : Int) (j : Nat) (hj : j + 1 ≤ O.length) : (gap O z (j + 1)).set (j + 1) (O.getD j 0) = gap O (O.getD j 0) j := by
  unfold gap
  have h1 : (O.take (j + 1)).length = j + 1 := by simp; omega
  rw [List.set_append_right _ _ (by omega), h1, Nat.sub_self, List.set_cons_zero, takeS O 0 j (by omega), List.append_assoc]
  congr 1
  rw [show O.drop j = O.getD j 0 :: O.drop (j + 1) from by rw [List.getD_eq_getElem?_getD, List.getElem?_eq_getElem (by omega)]; exact (List.getElem_cons_drop ..).symm]
  rfl
theorem gap_put (O : List Int) (z x : Int) (j : Nat) (hj : j ≤ O.length) : (gap O z j).set j x = gap O x j := by
  unfold gap
  have h1 : (O.take j).length = j := by simp; omega
  rw [List.set_append_right _ _ (by omega), h1, Nat.sub_self, List.set_cons_zero]
theorem gap_ok {down : Bool} {l O : List Int} {x : Int} {p : Nat} (hf : Fe (okey down) l O) (hs : Srt (okey down) O) (hp : p ≤ O.length) (h1 : 0 < p → okey down (O.getD (p - 1) 0) ≤ okey down x) (h2 : p < O.length → okey down x < okey down (O.getD p 0)) : Srt (okey down) (gap O x p) ∧ Fe (okey down) (l ++ [x]) (gap O x p) := by
  have hO : O.take p ++ O.drop p = O := List.take_append_drop p O
  have hg : ∀ i j, i ≤ j → j < O.length → okey down (O.getD i 0) ≤ okey down (O.getD j 0) := fun i j hij hj => by
    by_cases e : i = j
    · rw [e]; exact Int.le_refl _
    · rw [List.getD_eq_getElem?_getD, List.getElem?_eq_getElem (by omega), List.getD_eq_getElem?_getD, List.getElem?_eq_getElem hj]
      exact List.pairwise_iff_getElem.1 hs i j (by omega) hj (by omega)
  refine ins_ok (by rw [hO]; exact hs) (by rw [hO]; exact hf) (fun y hy => ?_) (fun y hy => ?_)
  · obtain ⟨i, hi, rfl⟩ := List.mem_iff_getElem.1 hy
    have hi' : i < p := by simp at hi; omega
    have := hg i (p - 1) (by omega) (by omega)
    have := h1 (by omega)
    rw [List.getElem_take]
    rw [show O.getD i 0 = O[i] by rw [List.getD_eq_getElem?_getD, List.getElem?_eq_getElem (by omega)]; rfl] at *
    omega
  · obtain ⟨i, hi, rfl⟩ := List.mem_iff_getElem.1 hy
    have hi' : p + i < O.length := by simp at hi; omega
    have := hg p (p + i) (by omega) hi'
    have := h2 (by omega)
    rw [List.getElem_drop]
    rw [show O.getD (p + i) 0 = O[p + i] by rw [List.getD_eq_getElem?_getD, List.getElem?_eq_getElem hi']; rfl] at *
    omega
end Go.Proofs.YtjffemeeomogaaaDoor.Bu
