/- Hops: the program's (P12.2). -/
import Derived.Test.YtinocgngjhomcaaDoorRhA
import Derived.Deep.DeepCutAuto
namespace Go.Proofs.YtinocgngjhomcaaDoor.Rh
open Go.ChangeShapes Go.WideShapes Go.ChangeAt Go.RowKit Own Ro Go.Sort

theorem rowV_set (l : List Nat) (i v : Nat) : (rowV l).set i (.int .i64 (v : Nat)) = rowV (l.set i v) := by
  unfold rowV
  rw [List.map_set]
  rfl
theorem rowV_app (l m : List Nat) : rowV l ++ rowV m = rowV (l ++ m) := by unfold rowV; rw [List.map_append]
/-- The row as it is filled. -/
def fillN (k : Nat) : List Nat := (List.range 20).map fun i => if i < k then i else 0
theorem fill_succ : ∀ k < 20, (fillN k).set k k = fillN (k + 1) := by decide
theorem fill_all : fillN 20 = List.range 20 := by decide
theorem fill_len (k : Nat) : (fillN k).length = 20 := by simp [fillN]
/-- The number that the hops begin with. -/
def seedN (s : Nat) : Nat := if s = 0 then 11400714819323198485 else s
theorem seed_lt (s : Nat) (h : s < 18446744073709551616) : seedN s < 18446744073709551616 := by unfold seedN; split <;> omega
theorem info_int : (Tryd.prog.info? 3).map (fun i => (i.zero, i.size, i.bytes)) = some (some (.int .i64 0), 1, 8) := by kernel_rfl
theorem run_mk0 (n : Nat) (hn : n ≤ 1000000) (W : World) : (Instr.makeSlice 33 (.int .i64 0) (.int .i64 (n : Int))).run Tryd.prog W = .ok (.slice (some ⟨W.heap.size, 0, none⟩) 0 n) (W.alloc (.cells (madeCells #[.int .i64 0] n) 3)) := by
  obtain ⟨i, hi, hz, h1, h2⟩ := info_parts info_int
  have := run_make (P := Tryd.prog) W 33 3 i (.int .i64 0) Tryd.underlying33 hi hz .i64 .i64 0 n (by omega) (by omega) (by rw [h2]; omega) (by omega)
  rw [h1, Nat.mul_one] at this
  simpa [Value.cells] using this
theorem own_mk0 (w : World) (n : Nat) (hn : n ≤ 1000000) : (w.alloc (.cells (madeCells #[.int .i64 0] n) 3)).ownsRow w.heap.size 3 1 (.slice (some ⟨w.heap.size, 0, none⟩) 0 n) 0 (rowV []) :=
  ⟨by simp [rowV], .inr ⟨w.heap.size, n, madeCells #[.int .i64 0] n, rfl, Nat.le_refl _, heap_alloc_new w _, Nat.zero_le _, by unfold maxLen; omega, by simp [madeCells], by simp [rowV]⟩⟩
theorem below_grown0 {B : Nat} {a w w' : World} {v : Value} {base : Nat} {E : TypeId} {n k : Nat} {xs : List Value} (hb : Below B a w) (hB : B ≤ w.heap.size) (ho : w.ownsRow base E k v n xs) (hbase : B ≤ base) (hg : w.grownBy w' v.ownBlock) : Below B a w' := by
  refine hb.grown hg hB fun k hk => ?_
  rcases ho.2 with ⟨rfl, _⟩ | ⟨g, cap, cur, rfl, hgb, _⟩
  · simp [Value.ownBlock] at hk
  · simp [Value.ownBlock] at hk
    omega
theorem own_ge {w : World} {base : Nat} {e : TypeId} {v : Value} {n : Nat} {xs : List Value} (h : w.ownsRow base e 1 v n xs) {g : Nat} (hg : g < base) : v.ownBlock ≠ some g := by
  rcases h.2 with ⟨rfl, _⟩ | ⟨g', cap, cur, rfl, hgb, _⟩
  · intro e; cases e
  · intro e
    have h9 : g' = g := Option.some.inj e
    omega
theorem RowAt.grown {b g : Nat} {l : List Value} {w w' : World} (h : RowAt b g l w) {o : Option Nat} (hg : w.grownBy w' o) (hne : o ≠ some g) : RowAt b g l w' :=
  h.kept hg (.inr fun e => hne e.symm)
theorem sets_any {b g n c : Nat} {e : TypeId} (vs : List Value) : ∀ (o : Nat) {w : World} {xs : List Value}, w.ownsRow b e 1 (.slice (some ⟨g, 0, none⟩) n c) n xs → ∃ ys, (w.setCells g o vs).ownsRow b e 1 (.slice (some ⟨g, 0, none⟩) n c) n ys := by
  induction vs with
  | nil => exact fun o w xs h => ⟨xs, h⟩
  | cons v vs ih => exact fun o w xs h => ih (o + 1) (h.stored o v).1
theorem RowAt.sets {b g : Nat} {l : List Value} {w : World} (h : RowAt b g l w) (vs : List Value) (hv : vs.length = 20) : RowAt b g vs (w.setCells g 0 vs) := by
  obtain ⟨ys, hy⟩ := sets_any vs 0 h
  have hr := World.rangeAt_setCells_same w g 0 vs (by rw [hv]; exact h.there)
  have : ys = vs := by
    refine List.ext_getElem? fun j => ?_
    by_cases hj : j < 20
    · have h1 := hy.cellAt j (by omega)
      obtain ⟨u, hu⟩ : ∃ u, vs[j]? = some u := ⟨_, List.getElem?_eq_getElem (by omega)⟩
      have h2 := hr j u hu
      rw [Nat.zero_add, h1] at h2
      rw [h2, hu]
    · have hl : ys.length = 20 * 1 := hy.1
      rw [List.getElem?_eq_none (by omega), List.getElem?_eq_none (by omega)]
  rw [this] at hy
  exact hy
theorem own_setsG {b g n : Nat} {e : TypeId} {v : Value} {xs : List Value} (vs : List Value) : ∀ (o : Nat) {w : World}, w.ownsRow b e 1 v n xs → v.ownBlock ≠ some g → (w.setCells g o vs).ownsRow b e 1 v n xs := by
  induction vs with
  | nil => exact fun o w h _ => h
  | cons u vs ih => exact fun o w h hne => ih (o + 1) (own_keptNe h (set_grown w ⟨g, o, none⟩ u) hne) hne
theorem src_row {b g : Nat} {l : List Nat} {w : World} (h : RowAt b g (rowV l) w) (c : Nat) (hl : l.length = 20) (hc : c ≤ 20) : SrcK 1 w (some ⟨g, 0, none⟩) c 20 (rowV (l.take c)) := by
  refine .inr ⟨_, rfl, by rw [rowV_len, List.length_take]; omega, fun j u hu => ?_⟩
  have hj : j < c := by
    have := (List.getElem?_eq_some_iff.1 hu).1
    rw [rowV_len, List.length_take] at this
    omega
  rw [Ro.add_plain]
  show w.cell? ⟨g, 0 + j, none⟩ = some u
  rw [Nat.zero_add, h.cellAt j (by omega), ← hu]
  unfold rowV
  rw [List.getElem?_map, List.getElem?_map, List.getElem?_take, if_pos hj]
theorem row_one (l : List Nat) : ∀ u ∈ rowV l, u.oneCell' = true := fun v hv => by
  unfold rowV enc at hv
  rw [List.mem_map] at hv
  obtain ⟨n, _, rfl⟩ := hv
  rfl
def slLen : Value → Nat
  | .slice _ n _ => n
  | _ => 0
theorem hops_bad (s : Nat) (n : Int) (w : World) (hn : n < 0 ∨ 4096 < n) : Calls Tryd.prog 15 #[.int .u64 s, .int .i64 n] w (fun e w' => e = .returned (.tuple #[.slice none 0 0, .int .i64 1]) ∧ w' = w) := by
  rcases hn with hn | hn
  · go_enter Tryd.func15, Tryd.ntmps15
    go_wp2_with fail
    go_ret2
    exact ⟨rfl, rfl⟩
  · have h1 : ¬ n < 0 := by omega
    go_enter Tryd.func15, Tryd.ntmps15
    go_wp2_with fail
    go_ret2
    exact ⟨rfl, rfl⟩
set_option maxRecDepth 100000 in
set_option maxHeartbeats 16000000 in
theorem hops_ok (s n : Nat) (hs : s < 18446744073709551616) (hn : n ≤ 4096) (w : World) :
    Calls Tryd.prog 15 #[.int .u64 s, .int .i64 n] w (fun e w' => (∃ A c, e = .returned (.tuple #[.slice A n c, .int .i64 0]) ∧ w'.ownsRow w.heap.size 3 1 (.slice A n c) n (rowV (hopN (seedN s) n))) ∧ Below w.heap.size w w') := by
  have n1 : ¬ (n : Int) < 0 := by omega
  have n2 : ¬ (4096 : Int) < (n : Int) := by omega
  have HX := Lib.hid (seed_lt s hs)
  go_enter Tryd.func15, Tryd.ntmps15
  go_upto_if 19 with fail
  go_cut [6, 19] (fun s6 _ wx => s6 = .int .u64 (seedN s : Nat) ∧ wx = w)
  case first =>
    by_cases h0 : s = 0
    · subst h0
      go_wp2_with fail
      go_meet
      exact ⟨rfl, rfl⟩
    · have h1 : ((s : Int) == 0) = false := by simp; omega
      have HV := Lib.hid (show seedN s = s by unfold seedN; rw [if_neg h0])
      clear h0
      go_wp2_with fail
      go_meet
      exact ⟨by rw [HV.out], rfl⟩
  case rest =>
    obtain ⟨rfl, hw⟩ := hcut
    rw [hw]
    clear hw wc
    obtain ⟨X, hXE⟩ : ∃ X, seedN s = X := ⟨_, rfl⟩
    rw [hXE] at HX ⊢
    have HXE := Lib.hid hXE
    clear hXE
    go_wp2_with fail
    have H7 := Lib.hid (RowAt.new w #[.int .i64 0, .int .i64 0, .int .i64 0, .int .i64 0, .int .i64 0, .int .i64 0, .int .i64 0, .int .i64 0, .int .i64 0, .int .i64 0, .int .i64 0, .int .i64 0, .int .i64 0, .int .i64 0, .int .i64 0, .int .i64 0, .int .i64 0, .int .i64 0, .int .i64 0, .int .i64 0] w.heap.size (Nat.le_refl _) rfl)
    have HB := Lib.hid (grows' w (.cells #[.int .i64 0, .int .i64 0, .int .i64 0, .int .i64 0, .int .i64 0, .int .i64 0, .int .i64 0, .int .i64 0, .int .i64 0, .int .i64 0, .int .i64 0, .int .i64 0, .int .i64 0, .int .i64 0, .int .i64 0, .int .i64 0, .int .i64 0, .int .i64 0, .int .i64 0, .int .i64 0] 70))
    rw [show (#[.int .i64 0, .int .i64 0, .int .i64 0, .int .i64 0, .int .i64 0, .int .i64 0, .int .i64 0, .int .i64 0, .int .i64 0, .int .i64 0, .int .i64 0, .int .i64 0, .int .i64 0, .int .i64 0, .int .i64 0, .int .i64 0, .int .i64 0, .int .i64 0, .int .i64 0, .int .i64 0] : Array Value).toList = rowV (fillN 0) from rfl] at H7
    generalize w.alloc (.cells #[.int .i64 0, .int .i64 0, .int .i64 0, .int .i64 0, .int .i64 0, .int .i64 0, .int .i64 0, .int .i64 0, .int .i64 0, .int .i64 0, .int .i64 0, .int .i64 0, .int .i64 0, .int .i64 0, .int .i64 0, .int .i64 0, .int .i64 0, .int .i64 0, .int .i64 0, .int .i64 0] 70) = W at H7 HB ⊢
    generalize hg0 : w.heap.size = g at H7 HB ⊢
    have HGG := Lib.hid hg0
    clear hg0
    go_loopw [8, 20] (fun _ v20 wr => ∃ (k : Nat), k ≤ 20 ∧ v20 = .int .i64 (k : Int) ∧ RowAt g g (rowV (fillN k)) wr ∧ Below g w wr) (fun _ v20 _ => 20 - (RowKit.intOf v20).toNat)
    case atStart => exact ⟨0, by omega, rfl, H7.out, HB.out⟩
    case round =>
      obtain ⟨k, hk, rfl, h7, hb⟩ := hrel
      clear H7 HB
      have H7 := Lib.hid h7
      have HB := Lib.hid hb
      clear h7 hb
      by_cases hlt : k < 20
      · have l1 : (0 : Int) ≤ (k : Int) := by omega
        have l2 : (k : Int) < 20 := by omega
        have f0 := H7.out.frozenAt k
        have c0 := H7.out.cellAt k (by omega)
        rw [rowV_at (fillN k) k (by rw [fill_len]; exact hlt)] at c0
        have S7 := Lib.hid (H7.out.set k (.int .i64 (k : Nat)))
        rw [rowV_set, fill_succ k hlt] at S7
        have SB := Lib.hid (HB.out.setCell (p := ⟨g, k, none⟩) (Nat.le_refl _) (.int .i64 (k : Nat)))
        clear H7 HB
        go_wp2_with fail
        go_roundw
        case rel => exact ⟨k + 1, by omega, by go_num, S7.out, SB.out⟩
        case measure => simp [RowKit.intOf]; omega
      · obtain rfl : k = 20 := by omega
        rw [fill_all] at H7
        have HMK := run_mk0 n (by omega) wr
        go_wp2_with (simp only [HMK])
        have HO := Lib.hid (own_monoK (own_mk0 wr n (by omega)) (base := g + 1) (by have := H7.out.lt.2; omega))
        have HR := Lib.hid (H7.out.below (grows' wr (.cells (madeCells #[.int .i64 0] n) 3)))
        have HB1 := Lib.hid (HB.out.alloc (by have := H7.out.lt.2; omega) (.cells (madeCells #[.int .i64 0] n) 3))
        clear H7 HB HMK
        generalize wr.alloc (.cells (madeCells #[.int .i64 0] n) 3) = W at HO HR HB1 ⊢
        generalize wr.heap.size = gh at HO ⊢
        generalize ((20 : Nat) : Int) = i20
        go_loopw [6, 9, 10, 33] (fun v6 v9 _ _ wr => ∃ (r m : Nat) (A : Option Addr) (c : Nat), Hid (m = min (20 * r) n) ∧ v6 = .int .u64 ((st X r).2 : Nat) ∧ v9 = .slice A m c ∧ RowAt g g (rowV (st X r).1) wr ∧ wr.ownsRow (g + 1) 3 1 (.slice A m c) m (rowV (hopN X m)) ∧ Below g w wr) (fun _ v9 _ _ _ => n - slLen v9)
        case atStart => exact ⟨0, 0, _, n, Lib.hid (by omega), rfl, rfl, HR.out, by rw [show hopN X 0 = [] from rfl]; exact HO.out, HB1.out⟩
        case round =>
          clear HO HR HB1
          obtain ⟨r, m, A, c, HM, rfl, rfl, h7, ho, hb⟩ := hrel
          have H7 := Lib.hid h7
          have HO := Lib.hid ho
          have HB := Lib.hid hb
          clear h7 ho hb
          by_cases hlt : m < n
          · have hlz : (m : Int) < (n : Int) := by omega
            have HL := Lib.hid (show m = 20 * r ∧ r < 205 from by have := HM.out; omega)
            have HG := Lib.hid (st_good X r)
            have HXL := Lib.hid (st_lt X HX.out r)
            have HST := Lib.hid (st_succ X r)
            have HMX := Lib.hid (fun V => mixed_any (st X r).1 (st X r).2 HG.out HXL.out V)
            have HMG := Lib.hid (mixS_good 19 (by omega) _ HG.out)
            have hRG := H7.out.range
            have hsz : (rowV (st X r).1).length = 20 := by rw [rowV_len, HG.out.len]
            rw [show (((st X r).1, (st X r).2) : List Nat × Nat) = st X r from rfl] at HMX
            generalize mixS 19 (st X r) = M at HMX HMG HST
            generalize (st X r).2 = x at HMX HXL ⊢
            have HLA := Lib.hid (fun (h1 : 0 < r) (h2 : r < 205) => show (hopN X (20 * r)).getD (20 * r - 1) 0 = (st X r).1.getD 19 0 from by
              have := hopN_last X (r - 1) (by omega)
              rwa [show r - 1 + 1 = r by omega] at this)
            generalize (st X r).1 = l at HMX HG H7 HST hRG hsz HLA
            clear HM
            go_wp2_with (first | refine Ra.wpList_load_row' rfl 70 (.tmp 7) rfl g rfl (rowV l) (.array 20 3) hRG (by kernel_rfl) rfl (by rw [hsz]; kernel_rfl) ?_)
            refine (HMX.out _).mono ?_
            rintro e w2 ⟨rfl, hb⟩
            have T7 := Lib.hid (H7.out.below hb)
            have TO := Lib.hid (own_belowK HO.out hb)
            have TB := Lib.hid (HB.out.trans (hb.mono (by have := H7.out.lt.2; omega)))
            clear hb H7 HO HB hRG
            have HTH := T7.out.there
            have hMl : (rowV M.1).length = 20 := by rw [rowV_len, HMG.out.len]
            have hx2 : g < w2.heap.size := T7.out.lt.2
            go_upto_region 16 with (first | refine wpList_store_mid (op := ⟨none, .store 70 (.tmp 7) (.tmp 37), _, _, _, _⟩) rfl 70 (.tmp 7) (.tmp 37) rfl g 0 (rowV M.1).toArray rfl rfl (by rw [List.size_toArray, hMl]; exact HTH) (by rw [List.size_toArray, hMl]; kernel_rfl) (rowV_one M.1) ?_)
            have S7 := Lib.hid (T7.out.sets (rowV M.1) hMl)
            have SO := Lib.hid (own_setsG (g := g) (rowV M.1) 0 TO.out (own_ge TO.out (by omega)))
            have SB := Lib.hid (bsc (B := g) (a := w) g (Nat.le_refl _) (rowV M.1) 0 TB.out)
            clear T7 TO TB HTH hx2 hsz hMl HMX
            generalize w2.setCells g 0 (rowV M.1) = w3 at S7 SO SB ⊢
            obtain ⟨q, hq⟩ : ∃ q, n - m = q := ⟨_, rfl⟩
            have HQ2 := Lib.hid hq
            have hw : IntKind.i64.wrap ((n : Int) - (m : Int)) = (q : Int) := by rw [IntWalk.i64_in _ (by omega)]; omega
            have HN4 := Lib.hid hn
            clear hq
            by_cases hr : r = 0
            · have HE := Lib.hid (show st X (r + 1) = (M.1, M.2) from by rw [HST.out, hr]; rfl)
              have hm0 : ¬ (0 : Int) < (m : Int) := by have := HL.out.1; omega
              have hmN : decide (0 < m) = false := decide_eq_false (by omega)
              clear hr HST
              go_wp2_with fail
              go_quiet (fail)
              have R7 := Lib.hid (S7.out.below (below_dr (Below.refl _ _) nq))
              have RO := Lib.hid (own_belowK SO.out (below_dr (Below.refl _ _) nq))
              have RB := Lib.hid (below_dr SB.out nq)
              clear S7 SO SB
              generalize w3.drewN nq = w4 at R7 RO RB ⊢
              by_cases h20 : 20 ≤ n - m
              · have HQ := Lib.hid h20
                obtain ⟨c2, hc2⟩ : ∃ c2, c2 = 20 := ⟨_, rfl⟩
                have H20 := Lib.hid (show c2 = 20 ∧ c2 ≤ 20 ∧ m + c2 = min (20 * (r + 1)) n ∧ min 20 (n - 20 * r) = c2 ∧ 0 < c2 ∧ m + c2 ≤ 4096 from by have := HL.out; have := HQ.out; omega)
                clear hc2
                have l20 : ¬ (q : Int) < 20 := by have := HQ2.out; have := HQ.out; omega
                replace h20 := Lib.hid h20
                go_wp2_with (at_builtin; go_must (refine wpList_append_srcK rfl (.tmp 59) (.tmp 64) 33 rfl (g + 1) 3 (.int .i64 0) 1 8 (by omega) Tryd.underlying33 info_int rfl _ m (rowV (hopN X m)) rfl RO.out _ 20 20 (rowV ((M.1).take 20)) rfl (src_row R7.out 20 (HMG.out).len (by have := H20.out; omega)) (row_one _) (by have := H20.out; omega) (by have := H20.out; omega) (by have := R7.out.lt.2; omega) ?_); intro v4 w5 ho4 hg4)
                have R75 := Lib.hid (R7.out.grown hg4 (own_ge RO.out (by omega)))
                have RB5 := Lib.hid (below_grown0 RB.out (by have := R7.out.lt.2; omega) RO.out (by omega) hg4)
                obtain ⟨A', c', rfl, _⟩ := own_src ho4
                have hm2 : m + 20 = min (20 * (r + 1)) n := by have := H20.out; omega
                rw [rowV_app] at ho4
                have HH := Lib.hid (show hopN X m ++ (M.1).take 20 = hopN X (m + 20) from by
                  have := hops_more X n r (by have := HL.out; omega) HN4.out
                  rw [H20.out.2.2.2.1, H20.out.1, HE.out] at this
                  rw [HL.out.1, this, ← hm2, HL.out.1])
                rw [HH.out] at ho4
                have HO5 := Lib.hid ho4
                have HM2 := Lib.hid hm2
                clear ho4 hg4 hm2 R7 RO RB
                go_roundw
                case rel => exact ⟨r + 1, m + 20, A', c', HM2, by rw [HE.out], by first | rfl | go_num, by rw [HE.out]; exact R75.out, HO5.out, RB5.out⟩
                case measure => simp [slLen]; have := H20.out; omega
              · have HQ := Lib.hid h20
                obtain ⟨c2, hc2⟩ : ∃ c2, c2 = q := ⟨_, rfl⟩
                have Hq := Lib.hid (show c2 = q ∧ c2 ≤ 20 ∧ m + c2 = min (20 * (r + 1)) n ∧ min 20 (n - 20 * r) = c2 ∧ 0 < c2 ∧ m + c2 ≤ 4096 from by have := HL.out; have := HQ.out; have := HQ2.out; omega)
                clear hc2
                have l20 : (q : Int) < 20 := by have := HQ2.out; have := HQ.out; omega
                have l21 : (0 : Int) ≤ (q : Int) := by omega
                have l22 : (q : Int) ≤ 20 := by omega
                replace h20 := Lib.hid h20
                go_wp2_with (at_builtin; go_must (refine wpList_append_srcK rfl (.tmp 59) (.tmp 64) 33 rfl (g + 1) 3 (.int .i64 0) 1 8 (by omega) Tryd.underlying33 info_int rfl _ m (rowV (hopN X m)) rfl RO.out _ q 20 (rowV ((M.1).take q)) rfl (src_row R7.out q (HMG.out).len (by have := Hq.out; omega)) (row_one _) (by have := Hq.out; omega) (by have := Hq.out; omega) (by have := R7.out.lt.2; omega) ?_); intro v4 w5 ho4 hg4)
                have R75 := Lib.hid (R7.out.grown hg4 (own_ge RO.out (by omega)))
                have RB5 := Lib.hid (below_grown0 RB.out (by have := R7.out.lt.2; omega) RO.out (by omega) hg4)
                obtain ⟨A', c', rfl, _⟩ := own_src ho4
                have hm2 : m + q = min (20 * (r + 1)) n := by have := Hq.out; omega
                rw [rowV_app] at ho4
                have HH := Lib.hid (show hopN X m ++ (M.1).take q = hopN X (m + q) from by
                  have := hops_more X n r (by have := HL.out; omega) HN4.out
                  rw [Hq.out.2.2.2.1, Hq.out.1, HE.out] at this
                  rw [HL.out.1, this, ← hm2, HL.out.1])
                rw [HH.out] at ho4
                have HO5 := Lib.hid ho4
                have HM2 := Lib.hid hm2
                clear ho4 hg4 hm2 R7 RO RB
                go_roundw
                case rel => exact ⟨r + 1, m + q, A', c', HM2, by rw [HE.out], by first | rfl | go_num, by rw [HE.out]; exact R75.out, HO5.out, RB5.out⟩
                case measure => simp [slLen]; have := Hq.out; omega
            · have HRR := Lib.hid (show 0 < r from by omega)
              obtain ⟨mp, hmp⟩ : ∃ mp : Nat, mp + 1 = m := ⟨m - 1, by have := HL.out.1; have := HRR.out; omega⟩
              obtain ⟨gh2, rfl, hh1, hh2⟩ := own_shapeK SO.out (by omega)
              have HDR := Lib.hid (show decide (0 < r) = true from decide_eq_true HRR.out)
              have ch := SO.out.cellAt mp (by omega)
              have c0 := S7.out.cellAt 0 (by omega)
              have HLS := Lib.hid (show (hopN X m).getD mp 0 = l.getD 19 0 from by rw [show mp = 20 * r - 1 by have := HL.out; omega, HL.out.1]; exact HLA.out HRR.out HL.out.2)
              rw [rowV_at _ mp (by rw [hopN_len X m (by have := HN4.out; omega)]; omega), HLS.out] at ch
              rw [rowV_at _ 0 (by rw [HMG.out.len]; omega)] at c0
              have f0 := S7.out.frozenAt 0
              have hm0 : (0 : Int) < (m : Int) := by omega
              have hmN : decide (0 < m) = true := decide_eq_true (by omega)
              have hwm : IntKind.i64.wrap ((m : Int) - 1) = (mp : Int) := by rw [IntWalk.i64_in _ (by omega)]; omega
              have mp0 : (0 : Int) ≤ (mp : Int) := by omega
              have mp1 : (mp : Int) < (m : Int) := by omega
              have HMP := Lib.hid hmp
              clear hmp hr hh1 hh2 HLS
              have HFX := Lib.hid (show ∀ a b : Nat, M.1.getD 0 0 = a → l.getD 19 0 = b → st X (r + 1) = (fix true b M.1, M.2) from fun a b _ hb => by rw [HST.out, HDR.out, hb])
              have hge : (Value.slice (some ⟨gh2, 0, none⟩) m c).ownBlock ≠ some g := own_ge SO.out (by omega)
              replace hge := Lib.hid hge
              obtain ⟨a, haa⟩ : ∃ a, M.1.getD 0 0 = a := ⟨_, rfl⟩
              rw [haa] at c0 HFX
              have HAA := Lib.hid haa
              clear haa
              generalize l.getD 19 0 = b at ch HFX
              by_cases hab : a = b
              · have hq1 : ((a : Int) == (b : Int)) = true := by rw [hab]; simp
                have HE := Lib.hid (show st X (r + 1) = (sw M.1 0 1, M.2) from by
                  rw [HFX.out a b rfl rfl]
                  unfold fix
                  rw [if_pos ⟨rfl, HAA.out.trans hab⟩])
                clear hab HST HFX HDR
                go_wp2_with fail
                go_quiet (fail)
                have Q7 := Lib.hid (S7.out.below (below_dr (Below.refl _ _) nq))
                have QO := Lib.hid (own_belowK SO.out (below_dr (Below.refl _ _) nq))
                have QB := Lib.hid (below_dr SB.out nq)
                clear S7 SO SB c0 ch f0
                generalize w3.drewN nq = w9 at Q7 QO QB ⊢
                have c0 := Q7.out.cellAt 0 (by omega)
                rw [rowV_at _ 0 (by rw [HMG.out.len]; omega)] at c0
                have c1 := Q7.out.cellAt 1 (by omega)
                rw [rowV_at _ 1 (by rw [HMG.out.len]; omega)] at c1
                have f0 := Q7.out.frozenAt 0
                have f1 := Q7.out.frozenAt 1
                have R7 := Lib.hid ((Q7.out.set 0 (.int .i64 (M.1.getD 1 0 : Nat))).set 1 (.int .i64 (M.1.getD 0 0 : Nat)))
                rw [rowV_sw] at R7
                have RB := Lib.hid ((QB.out.setCell (p := ⟨g, 0, none⟩) (Nat.le_refl _) (.int .i64 (M.1.getD 1 0 : Nat))).setCell (p := ⟨g, 1, none⟩) (Nat.le_refl _) (.int .i64 (M.1.getD 0 0 : Nat)))
                have RO := Lib.hid (own_keptNe (own_keptNe QO.out (set_grown w9 ⟨g, 0, none⟩ (.int .i64 (M.1.getD 1 0 : Nat))) hge.out) (set_grown _ ⟨g, 1, none⟩ (.int .i64 (M.1.getD 0 0 : Nat))) hge.out)
                clear Q7 QO QB
                have LG9 := HMG.out.sw (show 0 < 20 by omega) (show 1 < 20 by omega)
                replace LG9 := Lib.hid LG9
                replace HAA := Lib.hid HAA
                generalize M.1.getD 0 0 = e0 at c0 RB RO R7
                generalize M.1.getD 1 0 = e1 at c1 RB RO R7
                go_upto_region 18 with fail
                clear c0 c1 f0 f1
                generalize (w9.setCell ⟨g, 0, none⟩ (.int .i64 (e1 : Int))).setCell ⟨g, 1, none⟩ (.int .i64 (e0 : Int)) = w4 at R7 RO RB ⊢
                by_cases h20 : 20 ≤ n - m
                · have HQ := Lib.hid h20
                  obtain ⟨c2, hc2⟩ : ∃ c2, c2 = 20 := ⟨_, rfl⟩
                  have H20 := Lib.hid (show c2 = 20 ∧ c2 ≤ 20 ∧ m + c2 = min (20 * (r + 1)) n ∧ min 20 (n - 20 * r) = c2 ∧ 0 < c2 ∧ m + c2 ≤ 4096 from by have := HL.out; have := HQ.out; omega)
                  clear hc2
                  have l20 : ¬ (q : Int) < 20 := by have := HQ2.out; have := HQ.out; omega
                  replace h20 := Lib.hid h20
                  go_wp2_with (at_builtin; go_must (refine wpList_append_srcK rfl (.tmp 59) (.tmp 64) 33 rfl (g + 1) 3 (.int .i64 0) 1 8 (by omega) Tryd.underlying33 info_int rfl _ m (rowV (hopN X m)) rfl RO.out _ 20 20 (rowV ((sw M.1 0 1).take 20)) rfl (src_row R7.out 20 (LG9.out).len (by have := H20.out; omega)) (row_one _) (by have := H20.out; omega) (by have := H20.out; omega) (by have := R7.out.lt.2; omega) ?_); intro v4 w5 ho4 hg4)
                  have R75 := Lib.hid (R7.out.grown hg4 (own_ge RO.out (by omega)))
                  have RB5 := Lib.hid (below_grown0 RB.out (by have := R7.out.lt.2; omega) RO.out (by omega) hg4)
                  obtain ⟨A', c', rfl, _⟩ := own_src ho4
                  have hm2 : m + 20 = min (20 * (r + 1)) n := by have := H20.out; omega
                  rw [rowV_app] at ho4
                  have HH := Lib.hid (show hopN X m ++ (sw M.1 0 1).take 20 = hopN X (m + 20) from by
                    have := hops_more X n r (by have := HL.out; omega) HN4.out
                    rw [H20.out.2.2.2.1, H20.out.1, HE.out] at this
                    rw [HL.out.1, this, ← hm2, HL.out.1])
                  rw [HH.out] at ho4
                  have HO5 := Lib.hid ho4
                  have HM2 := Lib.hid hm2
                  clear ho4 hg4 hm2 R7 RO RB
                  go_roundw
                  case rel => exact ⟨r + 1, m + 20, A', c', HM2, by rw [HE.out], by first | rfl | go_num, by rw [HE.out]; exact R75.out, HO5.out, RB5.out⟩
                  case measure => simp [slLen]; have := H20.out; omega
                · have HQ := Lib.hid h20
                  obtain ⟨c2, hc2⟩ : ∃ c2, c2 = q := ⟨_, rfl⟩
                  have Hq := Lib.hid (show c2 = q ∧ c2 ≤ 20 ∧ m + c2 = min (20 * (r + 1)) n ∧ min 20 (n - 20 * r) = c2 ∧ 0 < c2 ∧ m + c2 ≤ 4096 from by have := HL.out; have := HQ.out; have := HQ2.out; omega)
                  clear hc2
                  have l20 : (q : Int) < 20 := by have := HQ2.out; have := HQ.out; omega
                  have l21 : (0 : Int) ≤ (q : Int) := by omega
                  have l22 : (q : Int) ≤ 20 := by omega
                  replace h20 := Lib.hid h20
                  go_wp2_with (at_builtin; go_must (refine wpList_append_srcK rfl (.tmp 59) (.tmp 64) 33 rfl (g + 1) 3 (.int .i64 0) 1 8 (by omega) Tryd.underlying33 info_int rfl _ m (rowV (hopN X m)) rfl RO.out _ q 20 (rowV ((sw M.1 0 1).take q)) rfl (src_row R7.out q (LG9.out).len (by have := Hq.out; omega)) (row_one _) (by have := Hq.out; omega) (by have := Hq.out; omega) (by have := R7.out.lt.2; omega) ?_); intro v4 w5 ho4 hg4)
                  have R75 := Lib.hid (R7.out.grown hg4 (own_ge RO.out (by omega)))
                  have RB5 := Lib.hid (below_grown0 RB.out (by have := R7.out.lt.2; omega) RO.out (by omega) hg4)
                  obtain ⟨A', c', rfl, _⟩ := own_src ho4
                  have hm2 : m + q = min (20 * (r + 1)) n := by have := Hq.out; omega
                  rw [rowV_app] at ho4
                  have HH := Lib.hid (show hopN X m ++ (sw M.1 0 1).take q = hopN X (m + q) from by
                    have := hops_more X n r (by have := HL.out; omega) HN4.out
                    rw [Hq.out.2.2.2.1, Hq.out.1, HE.out] at this
                    rw [HL.out.1, this, ← hm2, HL.out.1])
                  rw [HH.out] at ho4
                  have HO5 := Lib.hid ho4
                  have HM2 := Lib.hid hm2
                  clear ho4 hg4 hm2 R7 RO RB
                  go_roundw
                  case rel => exact ⟨r + 1, m + q, A', c', HM2, by rw [HE.out], by first | rfl | go_num, by rw [HE.out]; exact R75.out, HO5.out, RB5.out⟩
                  case measure => simp [slLen]; have := Hq.out; omega
              · have hq1 : ((a : Int) == (b : Int)) = false := by simp; omega
                have HE := Lib.hid (show st X (r + 1) = (M.1, M.2) from by
                  rw [HFX.out a b rfl rfl]
                  unfold fix
                  rw [if_neg (fun h => hab (HAA.out.symm.trans h.2))])
                clear hab HST HFX HDR
                go_wp2_with fail
                go_quiet (fail)
                have R7 := Lib.hid (S7.out.below (below_dr (Below.refl _ _) nq))
                have RO := Lib.hid (own_belowK SO.out (below_dr (Below.refl _ _) nq))
                have RB := Lib.hid (below_dr SB.out nq)
                clear S7 SO SB c0 ch f0
                generalize w3.drewN nq = w4 at R7 RO RB ⊢
                by_cases h20 : 20 ≤ n - m
                · have HQ := Lib.hid h20
                  obtain ⟨c2, hc2⟩ : ∃ c2, c2 = 20 := ⟨_, rfl⟩
                  have H20 := Lib.hid (show c2 = 20 ∧ c2 ≤ 20 ∧ m + c2 = min (20 * (r + 1)) n ∧ min 20 (n - 20 * r) = c2 ∧ 0 < c2 ∧ m + c2 ≤ 4096 from by have := HL.out; have := HQ.out; omega)
                  clear hc2
                  have l20 : ¬ (q : Int) < 20 := by have := HQ2.out; have := HQ.out; omega
                  replace h20 := Lib.hid h20
                  go_wp2_with (at_builtin; go_must (refine wpList_append_srcK rfl (.tmp 59) (.tmp 64) 33 rfl (g + 1) 3 (.int .i64 0) 1 8 (by omega) Tryd.underlying33 info_int rfl _ m (rowV (hopN X m)) rfl RO.out _ 20 20 (rowV ((M.1).take 20)) rfl (src_row R7.out 20 (HMG.out).len (by have := H20.out; omega)) (row_one _) (by have := H20.out; omega) (by have := H20.out; omega) (by have := R7.out.lt.2; omega) ?_); intro v4 w5 ho4 hg4)
                  have R75 := Lib.hid (R7.out.grown hg4 (own_ge RO.out (by omega)))
                  have RB5 := Lib.hid (below_grown0 RB.out (by have := R7.out.lt.2; omega) RO.out (by omega) hg4)
                  obtain ⟨A', c', rfl, _⟩ := own_src ho4
                  have hm2 : m + 20 = min (20 * (r + 1)) n := by have := H20.out; omega
                  rw [rowV_app] at ho4
                  have HH := Lib.hid (show hopN X m ++ (M.1).take 20 = hopN X (m + 20) from by
                    have := hops_more X n r (by have := HL.out; omega) HN4.out
                    rw [H20.out.2.2.2.1, H20.out.1, HE.out] at this
                    rw [HL.out.1, this, ← hm2, HL.out.1])
                  rw [HH.out] at ho4
                  have HO5 := Lib.hid ho4
                  have HM2 := Lib.hid hm2
                  clear ho4 hg4 hm2 R7 RO RB
                  go_roundw
                  case rel => exact ⟨r + 1, m + 20, A', c', HM2, by rw [HE.out], by first | rfl | go_num, by rw [HE.out]; exact R75.out, HO5.out, RB5.out⟩
                  case measure => simp [slLen]; have := H20.out; omega
                · have HQ := Lib.hid h20
                  obtain ⟨c2, hc2⟩ : ∃ c2, c2 = q := ⟨_, rfl⟩
                  have Hq := Lib.hid (show c2 = q ∧ c2 ≤ 20 ∧ m + c2 = min (20 * (r + 1)) n ∧ min 20 (n - 20 * r) = c2 ∧ 0 < c2 ∧ m + c2 ≤ 4096 from by have := HL.out; have := HQ.out; have := HQ2.out; omega)
                  clear hc2
                  have l20 : (q : Int) < 20 := by have := HQ2.out; have := HQ.out; omega
                  have l21 : (0 : Int) ≤ (q : Int) := by omega
                  have l22 : (q : Int) ≤ 20 := by omega
                  replace h20 := Lib.hid h20
                  go_wp2_with (at_builtin; go_must (refine wpList_append_srcK rfl (.tmp 59) (.tmp 64) 33 rfl (g + 1) 3 (.int .i64 0) 1 8 (by omega) Tryd.underlying33 info_int rfl _ m (rowV (hopN X m)) rfl RO.out _ q 20 (rowV ((M.1).take q)) rfl (src_row R7.out q (HMG.out).len (by have := Hq.out; omega)) (row_one _) (by have := Hq.out; omega) (by have := Hq.out; omega) (by have := R7.out.lt.2; omega) ?_); intro v4 w5 ho4 hg4)
                  have R75 := Lib.hid (R7.out.grown hg4 (own_ge RO.out (by omega)))
                  have RB5 := Lib.hid (below_grown0 RB.out (by have := R7.out.lt.2; omega) RO.out (by omega) hg4)
                  obtain ⟨A', c', rfl, _⟩ := own_src ho4
                  have hm2 : m + q = min (20 * (r + 1)) n := by have := Hq.out; omega
                  rw [rowV_app] at ho4
                  have HH := Lib.hid (show hopN X m ++ (M.1).take q = hopN X (m + q) from by
                    have := hops_more X n r (by have := HL.out; omega) HN4.out
                    rw [Hq.out.2.2.2.1, Hq.out.1, HE.out] at this
                    rw [HL.out.1, this, ← hm2, HL.out.1])
                  rw [HH.out] at ho4
                  have HO5 := Lib.hid ho4
                  have HM2 := Lib.hid hm2
                  clear ho4 hg4 hm2 R7 RO RB
                  go_roundw
                  case rel => exact ⟨r + 1, m + q, A', c', HM2, by rw [HE.out], by first | rfl | go_num, by rw [HE.out]; exact R75.out, HO5.out, RB5.out⟩
                  case measure => simp [slLen]; have := Hq.out; omega
          · have HMN := Lib.hid (show m = n from by have := HM.out; omega)
            have hge : decide ((m : Int) < (n : Int)) = false := decide_eq_false (by omega)
            have hge2 : ¬ (m : Int) < (n : Int) := by omega
            have hge3 : decide (m < n) = false := decide_eq_false hlt
            clear HM hlt n1 n2 hn
            go_wp2_with fail
            go_ret2
            have hmn := HMN.out
            subst hmn
            exact ⟨⟨A, c, rfl, by rw [HGG.out, HXE.out]; exact own_monoK HO.out (by omega)⟩, by rw [HGG.out]; exact HB.out⟩
end Go.Proofs.YtinocgngjhomcaaDoor.Rh
