/- The contract of the document's Pieces. -/
import Derived.Test.YtaoekpedjgnnjaaDoorRfB
namespace Go.Proofs.YtaoekpedjgnnjaaDoor.Wd
open Go.ChangeShapes Go.WideShapes Go.ChangeAt Go.RowKit Own Bld Go.Lib Nums

theorem decN_take (L a0 a1 a2 a3 : Nat) : decodeN (min L 4) a0 a1 a2 a3 = decodeN L a0 a1 a2 a3 := by
  have e1 : (1 < min L 4) = (1 < L) := by rw [eq_iff_iff]; omega
  have e2 : (2 < min L 4) = (2 < L) := by rw [eq_iff_iff]; omega
  have e3 : (3 < min L 4) = (3 < L) := by rw [eq_iff_iff]; omega
  unfold decodeN
  simp only [e1, e2, e3]
theorem dec_take4 (l : List UInt8) : decodeL (l.take 4) = decodeL l := by
  have g : ∀ i, i < 4 → (l.take 4).getD i 0 = l.getD i 0 := fun i hi => by
    rw [List.getD_eq_getElem?_getD, List.getD_eq_getElem?_getD, List.getElem?_take_of_lt hi]
  rw [decodeL_N, decodeL_N l, g 0 (by omega), g 1 (by omega), g 2 (by omega), g 3 (by omega), List.length_take, Nat.min_comm, decN_take]
/-- The rune that is taken, or -1. -/
def pr (l : List UInt8) : Int := if (decodeL l).1 = 65533 ∧ (decodeL l).2 = 1 then -1 else ((decodeL l).1 : Int)
def pcsF : Nat → List UInt8 → List (List UInt8 × Int)
  | 0, _ => []
  | f + 1, l => if l = [] then [] else (l.take (decodeL l).2, pr l) :: pcsF f (l.drop (decodeL l).2)
def pcsW (l : List UInt8) : List (List UInt8 × Int) := pcsF l.length l
theorem pcsF_fuel : ∀ (f : Nat) (l : List UInt8), l.length ≤ f → pcsF f l = pcsW l
  | 0, l, h => by
    rw [List.eq_nil_of_length_eq_zero (by omega : l.length = 0)]
    rfl
  | f + 1, l, h => by
    by_cases hl : l = []
    · subst hl
      rfl
    · have hd := drop_less l hl
      obtain ⟨n, hn⟩ : ∃ n, l.length = n + 1 := ⟨l.length - 1, by have := List.length_pos_iff.2 hl; omega⟩
      unfold pcsW
      rw [hn, pcsF, pcsF, if_neg hl, if_neg hl, pcsF_fuel f _ (by omega), pcsF_fuel n _ (by omega)]
theorem pcsW_step (l : List UInt8) (hl : l ≠ []) : pcsW l = (l.take (decodeL l).2, pr l) :: pcsW (l.drop (decodeL l).2) := by
  have hd := drop_less l hl
  obtain ⟨n, hn⟩ : ∃ n, l.length = n + 1 := ⟨l.length - 1, by have := List.length_pos_iff.2 hl; omega⟩
  rw [← pcsF_fuel (n + 1) l (by omega), pcsF, if_neg hl, pcsF_fuel n _ (by omega)]
def pvals (ps : List (List UInt8 × Int)) : List Value := ps.flatMap fun p => [.string (str p.1), .int .i32 p.2]
theorem pvals_len (ps : List (List UInt8 × Int)) : (pvals ps).length = ps.length * 2 := by
  induction ps with
  | nil => rfl
  | cons p ps ih =>
    show ([Value.string (str p.1), .int .i32 p.2] ++ pvals ps).length = _
    rw [List.length_append, ih, List.length_cons]
    simp
    omega
theorem pvals_snoc (ps : List (List UInt8 × Int)) (p : List UInt8 × Int) : pvals (ps ++ [p]) = pvals ps ++ [.string (str p.1), .int .i32 p.2] := by
  unfold pvals
  rw [List.flatMap_append]
  simp
theorem info_piece : (Tryd.prog.info? 67).map (fun i => (i.zero, i.size, i.bytes)) = some (some (.agg #[.string ByteArray.empty, .int .i32 0]), 2, 24) := by kernel_rfl
theorem below_grown2 {B : Nat} {a w w' : World} {v : Value} {base : Nat} {E : TypeId} {n k : Nat} {xs : List Value} {o : Obj} (hb : Below B a w) (hB : B ≤ w.heap.size) (ho : w.ownsRow base E k v n xs) (hbase : B ≤ base) (hg : (w.alloc o).grownBy w' v.ownBlock) : Below B a w' := by
  refine (hb.alloc hB o).grown hg (by simp; omega) fun k hk => ?_
  rcases ho.2 with ⟨rfl, _⟩ | ⟨g, cap, cur, rfl, hgb, _⟩
  · simp [Value.ownBlock] at hk
  · simp [Value.ownBlock] at hk
    omega
theorem own_below2 {w : World} {base : Nat} {e : TypeId} {v : Value} {n k : Nat} {xs : List Value} {w' : World} {B : Nat} (h : w.ownsRow base e k v n xs) (hb : Below B w w') (hB : w.heap.size ≤ B) : w'.ownsRow base e k v n xs := by
  rcases h.2 with ⟨rfl, rfl⟩ | ⟨g, cap, cur, rfl, hg, hh, hr⟩
  · exact ⟨h.1, .inl ⟨rfl, rfl⟩⟩
  · refine ⟨h.1, .inr ⟨g, cap, cur, rfl, hg, ?_, hr⟩⟩
    rw [hb.block g (by
      have := h.lt g rfl
      omega)]
    exact hh

theorem grows' (w : World) (o : Obj) : Below w.heap.size w (w.alloc o) := (Below.refl _ _).alloc (Nat.le_refl _) _
theorem news_two (w : World) (a b : Value) (t : TypeId) : ∀ j u, [a, b][j]? = some u → (w.alloc (.cells #[a, b] t)).cell? ((⟨w.heap.size, 0, none⟩ : Addr).add j) = some u := by
  intro j u hu
  rw [add_none', Nat.zero_add, Lib.cell_of_heap (heap_alloc_new w _)]
  simpa using hu
theorem two_one (a : ByteArray) (b : Int) : ∀ u ∈ [Value.string a, Value.int .i32 b], u.oneCell' = true := by
  intro u hu
  simp at hu
  rcases hu with rfl | rfl <;> rfl
def MadeP (ps : List (List UInt8 × Int)) (w : World) (e : Ending) (w' : World) : Prop :=
  ∃ v n, e = .returned v ∧ n = ps.length ∧ w'.ownsRow w.heap.size 67 2 v n (pvals ps) ∧ Below w.heap.size w w'
set_option maxRecDepth 100000 in
set_option maxHeartbeats 8000000 in
theorem pieces_any (s : ByteArray) (w : World) (hs : s.size ≤ 16777216) :
    Calls Tryd.prog 38 #[.string s] w (MadeP (pcsW s.data.toList) w) := by
  obtain ⟨i0, hi0, hz0, hz1, hz2⟩ := info_parts info_piece
  have hz : s.data.toList.length = s.size := rfl
  have HZ := Lib.hid hz
  clear hz
  go_enter Tryd.func38, Tryd.ntmps38
  go_wp2_with fail
  go_loopw [3, 4] (fun v3 v4 wr => ∃ (pos n : Nat) (T : List (List UInt8 × Int)), pos ≤ s.size ∧ v4 = .int .i64 pos ∧ n ≤ pos ∧ Hid (n = T.length) ∧ Hid (pcsW s.data.toList = T ++ pcsW (s.data.toList.drop pos)) ∧ wr.ownsRow w.heap.size 67 2 v3 n (pvals T) ∧ Below w.heap.size w wr) (fun _ v4 _ => s.size - (RowKit.intOf v4).toNat)
  case atStart => exact ⟨0, 0, [], Nat.zero_le _, rfl, Nat.le_refl _, Lib.hid rfl, Lib.hid (by simp), ⟨rfl, .inl ⟨rfl, rfl⟩⟩, Below.refl _ _⟩
  case round =>
    obtain ⟨pos, n, T, hp, rfl, hnp, HN, HT, hown, hbw⟩ := hrel
    have HO := Lib.hid hown
    have HB := Lib.hid hbw
    have hsz := hbw.size
    clear hown hbw
    by_cases hlt : pos < s.size
    · have hne : s.data.toList.drop pos ≠ [] := by
        intro h
        have h2 := congrArg List.length h
        have h3 := HZ.out
        rw [List.length_drop] at h2
        simp at h2
        omega
      have hdl := decodeL_le _ hne
      have hdw := decodeL_width (s.data.toList.drop pos)
      have hdr := decodeL_rune (s.data.toList.drop pos)
      rw [List.length_drop, HZ.out] at hdl
      have HST : Hid (pcsW s.data.toList = (T ++ [(part s pos, pr (s.data.toList.drop pos))]) ++ pcsW (s.data.toList.drop (pos + (decodeL (s.data.toList.drop pos)).2))) := Lib.hid (by
        rw [HT.out, pcsW_step _ hne, List.drop_drop, List.append_assoc]
        rfl)
      have HPE : Hid (s.extract pos (pos + (decodeL (s.data.toList.drop pos)).2) = str (part s pos)) := Lib.hid (ext_part s pos _)
      obtain ⟨q, hq⟩ : ∃ q, q = min s.size (pos + 4) := ⟨_, rfl⟩
      have hmin : min (s.size : Int) ((pos : Int) + 4) = (q : Int) := by omega
      have hq1 : pos < q := by omega
      have hq2 : q ≤ s.size := by omega
      have hq4 : q - pos ≤ 4 := by omega
      have HBG : Hid (∀ W, Calls Tryd.prog 60 #[.string (s.extract pos q)] W fun e w' => e = .returned (.tuple #[.int .i32 ((begW (s.data.toList.drop pos)).1 : Int), .int .i64 ((begW (s.data.toList.drop pos)).2 : Int)]) ∧ Below W.heap.size W w') := Lib.hid fun W => by
        have h := begins_any (s.extract pos q) W (by rw [ByteArray.size_extract]; omega) (by rw [ByteArray.size_extract]; omega)
        have e : (s.extract pos q).data.toList = (s.data.toList.drop pos).take 4 := by
          rw [extract_data, hq]
          by_cases c : pos + 4 ≤ s.size
          · rw [Nat.min_eq_right c]
            congr 1
            omega
          · rw [Nat.min_eq_left (by omega), List.take_of_length_le (by rw [List.length_drop, HZ.out]; omega), List.take_of_length_le (by rw [List.length_drop, HZ.out]; omega)]
        have e2 : begW ((s.data.toList.drop pos).take 4) = begW (s.data.toList.drop pos) := by unfold begW; rw [dec_take4]
        rw [e, e2] at h
        exact h
      clear hq
      have HCASE : Hid (((decodeL (s.data.toList.drop pos)).2 = 1 ∧ pr (s.data.toList.drop pos) = -1 ∧ begW (s.data.toList.drop pos) = (0, 0)) ∨ (pr (s.data.toList.drop pos) = ((decodeL (s.data.toList.drop pos)).1 : Int) ∧ begW (s.data.toList.drop pos) = ((decodeL (s.data.toList.drop pos)).1, (decodeL (s.data.toList.drop pos)).2))) := Lib.hid (by
        unfold pr begW
        by_cases h : (decodeL (s.data.toList.drop pos)).1 = 65533 ∧ (decodeL (s.data.toList.drop pos)).2 = 1
        · rw [if_pos h, if_pos h]
          exact .inl ⟨h.2, rfl, rfl⟩
        · rw [if_neg h, if_neg h]
          exact .inr ⟨rfl, rfl⟩)
      clear hne
      generalize begW (s.data.toList.drop pos) = bg at HBG HCASE
      generalize pr (s.data.toList.drop pos) = z at HST HCASE
      generalize (decodeL (s.data.toList.drop pos)).2 = k at hdl hdw HST HPE HCASE
      generalize (decodeL (s.data.toList.drop pos)).1 = r at hdr HCASE
      have HPL : Hid (pvals (T ++ [(part s pos, z)]) = pvals T ++ [.string (str (part s pos)), .int .i32 z]) := Lib.hid (pvals_snoc T _)
      generalize str (part s pos) = Y at HPE HPL
      have hnb : n ≤ 16777216 := by omega
      rcases HCASE.out with ⟨c1, c2, c3⟩ | ⟨c2, c3⟩
      case' inl =>
        subst c1 c2 c3
        have hex := HPE.out
      case' inr =>
        subst c2 c3
        have hex := HPE.out
        have hk0 : ((k : Int) == 0) = false := beq_eq_false_iff_ne.2 (by omega)
      all_goals
        go_wp2_with fail
        refine (HBG.out _).mono ?_
        rintro e w1 ⟨rfl, b1⟩
        have B1 := Lib.hid (HB.out.trans (b1.mono hsz))
        have O1 := Lib.hid (own_below2 HO.out b1 (Nat.le_refl _))
        have hsz1 := B1.out.size
        clear b1
        go_wp2_with (first | (at_builtin; (refine wpList_append_own _ rfl (.tmp 25) (.tmp 34) 63 rfl w.heap.size 67 i0 (.agg #[.string ByteArray.empty, .int .i32 0]) 2 24 Tryd.underlying63 hi0 hz0 hz1 hz2 rfl (by decide) _ n (pvals T) rfl (own_below2 O1.out (grows' w1 _) (Nat.le_refl _)) ⟨w1.heap.size, 0, none⟩ 1 1 [.string Y, .int .i32 (-1)] rfl rfl (news_two w1 _ _ _) (two_one _ _) (by unfold maxLen; omega) (by omega) (by simp; omega) ?_); intro v' w2 hown2 hg2 _) | (at_builtin; (refine wpList_append_own _ rfl (.tmp 25) (.tmp 34) 63 rfl w.heap.size 67 i0 (.agg #[.string ByteArray.empty, .int .i32 0]) 2 24 Tryd.underlying63 hi0 hz0 hz1 hz2 rfl (by decide) _ n (pvals T) rfl (own_below2 O1.out (grows' w1 _) (Nat.le_refl _)) ⟨w1.heap.size, 0, none⟩ 1 1 [.string Y, .int .i32 (r : Int)] rfl rfl (news_two w1 _ _ _) (two_one _ _) (by unfold maxLen; omega) (by omega) (by simp; omega) ?_); intro v' w2 hown2 hg2 _))
        have B2 := Lib.hid (below_grown2 B1.out hsz1 O1.out (Nat.le_refl _) hg2)
        rw [← HPL.out] at hown2
        have O2 := Lib.hid hown2
        have HNL : Hid (∀ x : List UInt8 × Int, n + 1 = (T ++ [x]).length) := Lib.hid (fun x => by rw [List.length_append, List.length_singleton, ← HN.out])
        clear hg2 hown2 hex
        go_wp2_with fail
        go_roundw
        case rel => first | exact ⟨pos + 1, n + 1, _, by omega, by go_num, by omega, Lib.hid (HNL.out _), HST, O2.out, B2.out⟩ | exact ⟨pos + k, n + 1, _, by omega, by go_num, by omega, Lib.hid (HNL.out _), HST, O2.out, B2.out⟩
        case measure => simp [RowKit.intOf]; omega
    · obtain rfl : pos = s.size := by omega
      have HV : Hid (pcsW s.data.toList = T) := Lib.hid (by
        have h : s.data.toList.drop s.size = [] := List.drop_of_length_le (by rw [HZ.out]; exact Nat.le_refl _)
        rw [HT.out, h]
        exact List.append_nil _)
      go_wp2_with fail
      go_ret
      rw [HV.out]
      exact ⟨_, n, rfl, HN.out, HO.out, HB.out⟩
end Go.Proofs.YtaoekpedjgnnjaaDoor.Wd
