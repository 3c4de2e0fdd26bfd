/- The law SupplyMeets. -/
import Derived.Test.YtjffemeeomogaaaDoorSuC
import Derived.Test.YtjffemeeomogaaaDoorAp
namespace Go.Proofs.YtjffemeeomogaaaDoor.Su
open Go.ChangeShapes Go.WideShapes Go.ChangeAt Go.RowKit Own Ro

theorem info_win : (Tryd.prog.info? 55).map (fun i => (i.zero, i.size, i.bytes)) = some (some (.agg #[.int .i64 0, .int .i64 0]), 2, 16) := by kernel_rfl
theorem info_arr : (Tryd.prog.info? 129).map (fun i => (i.zero, i.size, i.bytes)) = some (some (.agg #[.int .i64 0, .int .i64 0]), 2, 16) := by kernel_rfl
/-- The first number of each pair halved. -/
def hv (p : Pr) : Pr := (p.1.tdiv 2, p.2)
/-- The windows while the first k have got their halves; behind them one more. -/
def MX (l : List Pr) : Nat → List Pr
  | 0 => l ++ [(-77, 0)]
  | k + 1 => (MX l k).set k (hv (l.getD k (0, 0)))
theorem MX_len (l : List Pr) (k : Nat) : (MX l k).length = l.length + 1 := by
  induction k with
  | zero => simp [MX]
  | succ k ih => unfold MX; rw [List.length_set, ih]
theorem MX_at (l : List Pr) (k j : Nat) (hk : k ≤ l.length) (hj : j < l.length) : (MX l k).getD j (0, 0) = if j < k then hv (l.getD j (0, 0)) else l.getD j (0, 0) := by
  induction k with
  | zero =>
    unfold MX
    rw [getD_sn _ _ _ _ hj, if_neg (by omega)]
  | succ k ih =>
    unfold MX
    rw [getD_set _ _ _ _ _ (by rw [MX_len]; omega), ih (by omega)]
    by_cases h1 : j = k
    · subst h1; rw [if_pos rfl, if_pos (by omega)]
    · rw [if_neg h1]
      by_cases h2 : j < k
      · rw [if_pos h2, if_pos (by omega)]
      · rw [if_neg h2, if_neg (by omega)]
theorem MX_take0 (l : List Pr) : (MX l 0).take l.length = l := by simp [MX]
theorem hv_at (l : List Pr) (k : Nat) (h : k < l.length) : (l.map hv).getD k (0, 0) = hv (l.getD k (0, 0)) := by
  rw [List.getD_eq_getElem?_getD, List.getElem?_map, some_at l (0, 0) k h]
  rfl
theorem MX_take (l : List Pr) : (MX l l.length).take l.length = l.map hv := by
  have hl : ((MX l l.length).take l.length).length = (l.map hv).length := by rw [List.length_take, MX_len, List.length_map]; omega
  refine list_ext (0, 0) hl fun i hi => ?_
  rw [hl, List.length_map] at hi
  rw [show ((MX l l.length).take l.length).getD i (0, 0) = (MX l l.length).getD i (0, 0) by
    rw [List.getD_eq_getElem?_getD, List.getD_eq_getElem?_getD, List.getElem?_take, if_pos hi], MX_at l _ i (Nat.le_refl _) hi, if_pos hi, hv_at l i hi]
theorem prs_take (l : List Pr) (n : Nat) : (prsV l).take (n * 2) = prsV (l.take n) := by
  unfold prsV
  induction l generalizing n with
  | nil => simp
  | cons p l ih =>
    cases n with
    | zero => simp
    | succ n =>
      rw [List.flatMap_cons, List.take_succ_cons, List.flatMap_cons, ← ih n, show (n + 1) * 2 = n * 2 + 2 by omega]
      rfl
theorem prs_snoc (l : List Pr) (p : Pr) : prsV l ++ prV p = prsV (l ++ [p]) := by unfold prsV; simp
/-- The first n of a list. -/
theorem cells_take {w : World} {A : Option Addr} {m n : Nat} {l : List Pr} (h : CellsIn w 2 A m (prsV l)) (hn : n ≤ m) : CellsIn w 2 A n (prsV (l.take n)) := by
  have hl := h.1
  rw [prs_len] at hl
  refine ⟨by rw [prs_len, List.length_take]; omega, ?_⟩
  by_cases h0 : n = 0
  · exact .inl h0
  · obtain ⟨b, o, rfl, hb, hc⟩ := h.at (by omega)
    refine .inr ⟨b, o, rfl, hb, fun j u hu => ?_⟩
    rw [← prs_take] at hu
    rw [List.getElem?_take] at hu
    split at hu
    · exact hc j u hu
    · cases hu
theorem half_wrap {a : Int} (h0 : -9223372036854775808 ≤ a) (h1 : a ≤ 9223372036854775807) : IntKind.i64.wrap (a.tdiv 2) = a.tdiv 2 := by
  have h2 : -9223372036854775808 ≤ a.tdiv 2 ∧ a.tdiv 2 ≤ 9223372036854775807 := by
    rcases Int.le_total 0 a with h | h
    · have := Int.tdiv_nonneg h (b := 2) (by omega)
      have := Int.tdiv_le_self 2 h
      omega
    · have e : a.tdiv 2 = -((-a).tdiv 2) := by rw [Int.neg_tdiv]; omega
      have := Int.tdiv_nonneg (a := -a) (b := 2) (by omega) (by omega)
      have := Int.tdiv_le_self (a := -a) 2 (by omega)
      omega
  rw [IntKind.wrap_i64]
  omega
end Go.Proofs.YtjffemeeomogaaaDoor.Su
