/- The law CrystalDivides. -/
import Derived.Test.YthalnepbafnogaaCrR
namespace Go.Proofs.Ythalnepbafnogaa.Cr
open Go.ChangeShapes Go.WideShapes Go.ChangeAt Go.RowKit Own Ro

theorem info_i64 : (Try.prog.info? 2).map (fun i => (i.zero, i.size, i.bytes)) = some (some (.int .i64 0), 1, 8) := by kernel_rfl
theorem own_cells1 {w : World} {base : Nat} {A : Option Addr} {n c : Nat} {xs : List Value} (h : w.ownsRow base 2 1 (.slice A n c) n xs) : CellsIn w 1 A n xs := by
  have hl := h.1
  rcases h.2 with ⟨e, rfl⟩ | ⟨g, cap, cur, e, hg, hh, hr⟩
  · exact ⟨hl, .inl rfl⟩
  · cases e
    exact ⟨hl, .inr ⟨g, 0, rfl, (h.lt g rfl).2, fun j u hu => by have := h.cells rfl j u hu; rwa [Ro.add_plain] at this⟩⟩
theorem cells_pre {w : World} {A : Option Addr} {n m : Nat} {xs ys : List Value} (h : CellsIn w 1 A m (xs ++ ys)) (hx : xs.length = n) (hm : n ≤ m) : CellsIn w 1 A n xs := by
  refine ⟨by omega, ?_⟩
  rcases h.2 with h0 | ⟨b, o, rfl, hb, hc⟩
  · exact .inl (by omega)
  · exact .inr ⟨b, o, rfl, hb, fun j u hu => hc j u (by rw [List.getElem?_append_left (List.getElem?_eq_some_iff.1 hu).1]; exact hu)⟩
theorem cells_src {w : World} {A : Option Addr} {n c : Nat} {xs : List Value} (h : CellsIn w 1 A n xs) (hn : Neat (A, n, c)) : Src w A n c xs := by
  have := h.src hn
  rcases this with h | ⟨ad, ha, hl, hc⟩
  · exact .inl h
  · exact .inr ⟨ad, ha, by omega, hc⟩
def inc (x : Int) : Int := wrap64 (x + 1)
def incs (l : List Int) (k : Nat) : List Int := (l.take k).map inc ++ l.drop k
theorem incs_len (l : List Int) (k : Nat) : (incs l k).length = l.length := by unfold incs; simp; omega
theorem incs_at (l : List Int) (k : Nat) (h : k < l.length) : (incs l k).getD k 0 = l.getD k 0 := by
  unfold incs
  have hl : ((l.take k).map inc).length = k := by simp; omega
  rw [List.getD_eq_getElem?_getD, List.getElem?_append_right (by omega), hl, Nat.sub_self, List.getElem?_drop, List.getD_eq_getElem?_getD]
  rfl
theorem incs_set (l : List Int) (k : Nat) (h : k < l.length) : (incs l k).set k (inc (l.getD k 0)) = incs l (k + 1) := by
  unfold incs
  have hl : ((l.take k).map inc).length = k := by simp; omega
  rw [List.set_append_right _ _ (by omega), hl, Nat.sub_self, takeS l 0 k h, List.map_append, List.append_assoc, List.drop_eq_getElem_cons h]
  rfl
theorem incs_all (l : List Int) : incs l l.length = l.map inc := by unfold incs; simp
theorem own_put (l : List Int) (k : Nat) (v : Int) (h : k < l.length) : (i64s l ++ [Value.int .i64 77]).set k (.int .i64 v) = i64s (l.set k v) ++ [Value.int .i64 77] := by
  rw [List.set_append_left _ _ (by rw [i64s_len]; exact h)]
  unfold i64s
  rw [List.map_set]
theorem app_at (l : List Int) (k : Nat) (h : k < l.length) : (i64s l ++ [Value.int .i64 77])[k]? = some (.int .i64 (l.getD k 0)) := by
  rw [List.getElem?_append_left (by rw [i64s_len]; exact h), i64s_at l k h]
theorem app_end (l : List Int) (n : Nat) (h : n = l.length) : (i64s l ++ [Value.int .i64 77])[n]? = some (.int .i64 77) := by
  subst h
  rw [List.getElem?_append_right (by rw [i64s_len]; exact Nat.le_refl _), i64s_len, Nat.sub_self]
  rfl
set_option maxRecDepth 100000 in
set_option maxHeartbeats 8000000 in
theorem divides_any (f x : Int) (A : Option Addr) (c n : Nat) (l : List Int) (w : World) (hn : n = l.length) (hb : n ≤ 1048576) (hs : CellsIn w 1 A n (i64s l)) (hne : Neat (A, n, c)) :
    Calls Try.prog 3 #[.int .i64 f, .int .i64 x, .slice A n c] w (fun e w' => e = .returned (.bool true) ∧ Below w.heap.size w w') := by
  have HN := Lib.hid hn
  have GA := Lib.hid hs
  have HS := Lib.hid fun (W : World) (hW : Below w.heap.size w W) => (hs.below hW).src hne
  clear hs hne hn
  go_enter Try.func3, Try.ntmps3
  go_wp2_with fail
  refine (refDivider_any f x w).mono ?_
  rintro e W0 ⟨rfl, q, rfl⟩
  have B0 := Lib.hid (below_dr (Below.refl w.heap.size w) q)
  generalize w.drewN q = W0 at B0 ⊢
  go_wp2_with fail
  refine (divider_any f x _).mono ?_
  rintro e W1 ⟨rfl, rfl⟩
  go_wp2_with fail
  refine (refChain_any f A c n l W1 HN.out (GA.out.below B0.out)).mono ?_
  rintro e W2 ⟨rfl, q2, rfl⟩
  have B2 := Lib.hid (below_dr B0.out q2)
  generalize W1.drewN q2 = W2 at B2 ⊢
  clear B0
  go_wp2_with (first
    | (at_builtin; (refine wpList_append_srcK (o := ⟨some 38, _, _, _, _, _⟩) rfl (.tmp 36) (.tmp 37) 22 rfl W2.heap.size 2 (.int .i64 0) 1 8 (by omega) Try.underlying22 info_i64 rfl _ 0 [] rfl (own_emptyK W2 2 1) A n c (i64s l) rfl (HS.out _ (bal B2.out rfl _)) (one_i64s l) (by omega) (by omega) (by simp) ?_); intro v2 w2 ho2 hg2; rw [Nat.zero_add, List.nil_append] at ho2; have hb2 := below_first hg2; have O2 := Lib.hid ho2; have B3 := Lib.hid hb2; clear ho2 hg2 hb2)
    | (at_builtin; (refine wpList_append_src (o := ⟨some 40, _, _, _, _, _⟩) rfl (.tmp 38) (.tmp 39) 22 rfl W2.heap.size 2 (.int .i64 0) 8 Try.underlying22 info_i64 rfl _ n (i64s l) rfl (O2.out.alloc _) _ 1 1 [.int .i64 77] rfl (src_new _ _ _) (by intro u hu; simp at hu; subst hu; rfl) (by omega) (by omega) (by have := B3.out.size; simp; omega) ?_); intro v3 w3 ho3 hg3; have hb3 := below_grown' B3.out B3.out.size O2.out (Nat.le_refl _) hg3; obtain ⟨A3, c3, rfl, _, hc3⟩ := own_srcK ho3; have O3 := Lib.hid ho3; have B4 := Lib.hid hb3; clear ho3 hg3 hb3))
  obtain ⟨g, rfl, hg1, hg2⟩ := own_shapeK O3.out (by omega)
  have CI : Hid (CellsIn w3 1 (some ⟨g, 0, none⟩) n (i64s l)) := Lib.hid (cells_pre (own_cells1 O3.out) (by rw [i64s_len, ← HN.out]) (by omega))
  refine (chain_any f _ c3 n l w3 HN.out CI.out).mono ?_
  rintro e w4 ⟨rfl, rfl⟩
  have c77 : w4.cell? ⟨g, n, none⟩ = some (.int .i64 77) := by
    rw [O3.out.cellAt n (by omega)]
    exact app_end l n HN.out
  clear O2 B3
  go_wp2_with fail
  clear c77
  go_loopw [16] (fun v16 wr => ∃ (k : Nat), k ≤ n ∧ v16 = .int .i64 (k : Int) ∧ ∃ q, wr = w4.drewN q) (fun v16 _ => n - (RowKit.intOf v16).toNat)
  case atStart => exact ⟨0, by omega, rfl, 0, rfl⟩
  case round =>
    obtain ⟨k, hk, rfl, q3, rfl⟩ := hrel
    by_cases hlt : k < n
    · have l1 : (0 : Int) ≤ (k : Int) := by omega
      have l2 : (k : Int) < (n : Int) := by omega
      have c0 : w4.cell? ⟨g, k, none⟩ = some (.int .i64 (l.getD k 0)) := by
        rw [O3.out.cellAt k (by omega)]
        exact app_at l k (by rw [← HN.out]; exact hlt)
      obtain ⟨b, o, rfl, hbs, hc1⟩ := GA.out.at (by omega)
      have e0 := hc1 k _ (i64s_at l k (by rw [← HN.out]; exact hlt))
      have e1 : w4.cell? ⟨b, o + k, none⟩ = some (.int .i64 (l.getD k 0)) := by rw [B4.out.cell (p := ⟨b, o + k, none⟩) (Nat.lt_of_lt_of_le hbs B2.out.size)]; exact B2.out.cell (p := ⟨b, o + k, none⟩) hbs ▸ e0
      clear hc1 e0
      generalize l.getD k 0 = z at c0 e1
      go_wp2_with fail
      go_region
      all_goals go_wp2_with fail
      all_goals go_roundw
      case rel => exact ⟨k + 1, by omega, by go_num, _, rfl⟩
      case measure => simp [RowKit.intOf]; omega
    · obtain rfl : n = k := by omega
      have B5 : Hid (Below w.heap.size w (w4.drewN q3)) := Lib.hid (below_dr (bt B2.out B4.out) q3)
      have O5 : Hid ((w4.drewN q3).ownsRow W2.heap.size 2 1 (.slice (some ⟨g, 0, none⟩) (n + 1) c3) (n + 1) (i64s l ++ [.int .i64 77])) := Lib.hid (own_belowK O3.out (below_dr (Below.refl _ _) q3))
      generalize w4.drewN q3 = W5 at B5 O5 ⊢
      clear CI O3 B4
      go_wp2_with fail
      go_loopw [17] (fun v17 wr => ∃ (k : Nat), k ≤ n ∧ v17 = .int .i64 (k : Int) ∧ wr.ownsRow W2.heap.size 2 1 (.slice (some ⟨g, 0, none⟩) (n + 1) c3) (n + 1) (i64s (incs l k) ++ [.int .i64 77]) ∧ Below w.heap.size w wr) (fun v17 _ => n - (RowKit.intOf v17).toNat)
      case atStart => exact ⟨0, by omega, rfl, O5.out, B5.out⟩
      case round =>
        obtain ⟨k, hk, rfl, hor, hbr⟩ := hrel
        have OR := Lib.hid hor
        have BR := Lib.hid hbr
        clear hor hbr
        by_cases hlt : k < n
        · have l1 : (0 : Int) ≤ (k : Int) := by omega
          have l2 : (k : Int) < (n : Int) := by omega
          have c0 : wr.cell? ⟨g, k, none⟩ = some (.int .i64 (l.getD k 0)) := by
            rw [OR.out.cellAt k (by omega), app_at _ k (by rw [incs_len, ← HN.out]; exact hlt), incs_at l k (by rw [← HN.out]; exact hlt)]
          have z0 := OR.out.frozenAt k
          have HST := Lib.hid (OR.out.stored k (.int .i64 (inc (l.getD k 0)))).1
          rw [own_put _ k _ (by rw [incs_len, ← HN.out]; exact hlt), incs_set l k (by rw [← HN.out]; exact hlt)] at HST
          have HBS := Lib.hid (BR.out.setCell (p := ⟨g, k, none⟩) (Nat.le_trans B2.out.size hg1) (.int .i64 (inc (l.getD k 0))))
          unfold inc at HST HBS
          generalize l.getD k 0 = z at c0 HST HBS
          go_wp2_with fail
          go_roundw
          case rel => exact ⟨k + 1, by omega, by go_num, HST.out, HBS.out⟩
          case measure => simp [RowKit.intOf]; omega
        · obtain rfl : n = k := by omega
          have HLI : Hid (n = (incs l n).length) := Lib.hid (by rw [incs_len]; exact HN.out)
          generalize incs l n = m at OR HLI
          have CI : Hid (CellsIn wr 1 (some ⟨g, 0, none⟩) n (i64s m)) := Lib.hid (cells_pre (own_cells1 OR.out) (by rw [i64s_len, ← HLI.out]) (by omega))
          have hc4 : n ≤ c3 := by omega
          go_wp2_with (first
            | (at_builtin; (refine wpList_append_src (o := ⟨some 112, _, _, _, _, _⟩) rfl (.tmp 107) (.tmp 111) 22 rfl wr.heap.size 2 (.int .i64 0) 8 Try.underlying22 info_i64 rfl _ 0 [] rfl (own_empty wr 2) (some ⟨g, 0, none⟩) n c3 (i64s m) rfl (cells_src (CI.out.below (grows' wr _)) (fun e => by cases e)) (one_i64s m) (by omega) (by omega) (by simp) ?_); intro v5 w5 ho5 hg5; rw [Nat.zero_add, List.nil_append] at ho5; have hb5 := below_first hg5; obtain ⟨A5, c5, rfl, _, hc5⟩ := own_srcK ho5; have O6 := Lib.hid ho5; have B6 := Lib.hid hb5; clear ho5 hg5 hb5))
          refine (refChain_any f A5 c5 n m w5 HLI.out (own_cells1 O6.out)).mono ?_
          rintro e w6 ⟨rfl, q6, rfl⟩
          have B7 : Hid (Below wr.heap.size wr (w5.drewN q6)) := Lib.hid (below_dr B6.out q6)
          generalize w5.drewN q6 = W7 at B7 ⊢
          go_wp2_with fail
          refine (chain_any f _ c3 n m W7 HLI.out (CI.out.below B7.out)).mono ?_
          rintro e w8 ⟨rfl, rfl⟩
          go_wp2_with fail
          go_ret
          exact ⟨by simp, bt BR.out B7.out⟩
end Go.Proofs.Ythalnepbafnogaa.Cr
