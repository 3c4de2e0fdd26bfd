/- The law SupplyAsks. -/
import Derived.Test.YtpoijmncdicdkaaDoorSuF
import Derived.Test.YtpoijmncdicdkaaDoorSuB
import Derived.Test.YtpoijmncdicdkaaDoorAp
namespace Go.Proofs.YtpoijmncdicdkaaDoor.Su
open Go.ChangeShapes Go.WideShapes Go.ChangeAt Go.RowKit Own Ro

theorem run_bits (n : Nat) (w : World) : (callFunc 42 #[.float .f64 n]).run Tryd.prog w = .ok (.value (.int .u64 n)) w :=
  run_callFunc_extern (e := Extern.MathFloatBits.float64bits) Tryd.func42 (by kernel_rfl) (by kernel_rfl) (by kernel_rfl) (by kernel_rfl) _ w
set_option maxRecDepth 100000 in
set_option maxHeartbeats 8000000 in
theorem bits_any (n : Nat) (w : World) : Calls Tryd.prog 14 #[.float .f64 n, .float .f64 n] w (fun e w' => e = .returned (.bool true) ∧ ∃ q, w' = w.drewN q) := by
  have HB := run_bits n
  go_enter Tryd.func14, Tryd.ntmps14
  go_wp2_with fail
  go_ret
  exact ⟨rfl, 0, rfl⟩
/-- The places on the way, or none. -/
def wn (i k : Int) : Nat := if okP i && okP k then wayN i k + 1 else 0
def we (i k : Int) : Int := if okP i && okP k then 0 else 1
def WayR (W : World) (i k : Int) (e : Ending) (w' : World) : Prop :=
  ∃ A c, e = .returned (.tuple #[.slice A (wn i k) c, .int .i64 (we i k)]) ∧ w'.ownsRow W.heap.size 3 1 (.slice A (wn i k) c) (wn i k) (wayV i k (wn i k)) ∧ Below W.heap.size W w'
theorem wayR_ok {W : World} {i k : Int} (h : (okP i && okP k) = true) {e : Ending} {w' : World} (hw : WayOk W i k e w') : WayR W i k e w' := by
  have e1 : wn i k = wayN i k + 1 := by unfold wn; rw [h]; rfl
  have e2 : we i k = 0 := by unfold we; rw [h]; rfl
  unfold WayR
  rw [e1, e2]
  exact hw
theorem wayR_bad {W : World} {i k : Int} (h : (okP i && okP k) = false) : WayR W i k (.returned (.tuple #[.slice none 0 0, .int .i64 1])) W := by
  have e1 : wn i k = 0 := by unfold wn; rw [h]; rfl
  have e2 : we i k = 1 := by unfold we; rw [h]; rfl
  unfold WayR
  rw [e1, e2]
  exact ⟨none, 0, rfl, own_nil _ _ _, Below.refl _ _⟩
theorem way_any (i k : Int) (w : World) : Calls Tryd.prog 21 #[.int .i64 i, .int .i64 k] w (fun e w' => WayR w i k e w') := by
  cases h : okP i && okP k with
  | false =>
    refine (way_bad i k w h).mono ?_
    rintro e w' ⟨rfl, rfl⟩
    exact wayR_bad h
  | true =>
    have h1 := h
    simp only [Bool.and_eq_true] at h1
    by_cases hd : k < i
    · exact (way_down i k w h1.1 h1.2 hd).mono fun e w' hw => wayR_ok h hw
    · exact (way_up i k w h1.1 h1.2 (by omega)).mono fun e w' hw => wayR_ok h hw
theorem refWay_any (i k : Int) (w : World) : Calls Tryd.prog 22 #[.int .i64 i, .int .i64 k] w (fun e w' => WayR w i k e w') := by
  cases h : okP i && okP k with
  | false =>
    refine (refWay_bad i k w h).mono ?_
    rintro e w' ⟨rfl, rfl⟩
    exact wayR_bad h
  | true =>
    have h1 := h
    simp only [Bool.and_eq_true] at h1
    by_cases hd : k < i
    · exact (refWay_down i k w h1.1 h1.2 hd).mono fun e w' hw => wayR_ok h hw
    · exact (refWay_up i k w h1.1 h1.2 (by omega)).mono fun e w' hw => wayR_ok h hw
theorem wn_le (i k : Int) : wn i k ≤ 24 := by
  unfold wn
  split
  · rename_i h
    simp only [Bool.and_eq_true] at h
    obtain ⟨a, b⟩ := okP_t h.1
    obtain ⟨c, d⟩ := okP_t h.2
    unfold wayN
    omega
  · omega
set_option maxRecDepth 100000 in
set_option maxHeartbeats 8000000 in
theorem ints_any (A B : Option Addr) (c d n : Nat) (i k : Int) (w : World) (hn : n ≤ 1000) (h1 : CellsIn w 1 A n (wayV i k n)) (h2 : CellsIn w 1 B n (wayV i k n)) :
    Calls Tryd.prog 23 #[.slice A n c, .slice B n d] w (fun e w' => e = .returned (.bool true) ∧ ∃ q, w' = w.drewN q) := by
  have G1 := Lib.hid h1
  have G2 := Lib.hid h2
  clear h1 h2
  go_enter Tryd.func23, Tryd.ntmps23
  go_wp2_with fail
  go_loopw [5] (fun v5 wr => ∃ (p : Nat), p ≤ n ∧ v5 = .int .i64 (p : Int) ∧ ∃ q, wr = w.drewN q) (fun v5 _ => n - (RowKit.intOf v5).toNat)
  case atStart => exact ⟨0, by omega, rfl, 0, rfl⟩
  case round =>
    obtain ⟨p, hp, rfl, q, rfl⟩ := hrel
    by_cases hlt : p < n
    · have l1 : (0 : Int) ≤ (p : Int) := by omega
      have l2 : (p : Int) < (n : Int) := by omega
      obtain ⟨b, o, rfl, _, hc1⟩ := G1.out.at (by omega)
      obtain ⟨b2, o2, rfl, _, hc2⟩ := G2.out.at (by omega)
      have hx : (wayV i k n)[p]? = some (.int .i64 (wat i k p)) := by
        unfold wayV
        rw [List.getElem?_map, List.getElem?_range hlt]
        rfl
      have e0 := hc1 p _ hx
      have e1 := hc2 p _ hx
      clear hc1 hc2 hx
      go_wp2_with fail
      go_region
      all_goals go_wp2_with fail
      all_goals go_roundw
      case rel => exact ⟨p + 1, by omega, by go_num, _, rfl⟩
      case measure => simp [RowKit.intOf]; omega
    · obtain rfl : n = p := by omega
      go_wp2_with fail
      go_ret
      exact ⟨rfl, _, rfl⟩
theorem keep_row {w w' : World} {E : TypeId} {k b n : Nat} {v : Value} {xs : List Value} {row : Option Nat} (ho : w.ownsRow b E k v n xs) (hg : w.grownBy w' row) (hne : ∀ g, v.ownBlock = some g → row ≠ some g) : w'.ownsRow b E k v n xs := by
  refine ho.kept hg ?_
  cases h : v.ownBlock with
  | none => exact .inl rfl
  | some g => exact .inr fun e => hne g h e.symm
set_option maxRecDepth 100000 in
set_option maxHeartbeats 8000000 in
theorem asks_any (i k : Int) (s : Nat) (m lo hi : Int) (w : World) (h : Tb w) (m0 : -9223372036854775808 ≤ m) (m1 : m ≤ 9223372036854775807) :
    Calls Tryd.prog 3 #[.agg #[.int .i64 i, .int .i64 k, .float .f64 s, .int .i64 m, .int .i64 lo, .int .i64 hi]] w (fun e w' => e = .returned (.bool true) ∧ Below w.heap.size w w') := by
  have HT := Lib.hid h
  clear h
  have HF := Lib.hid first_any
  unfold winV at HF
  have HW := Lib.hid (wn_le i k)
  go_enter Tryd.func3, Tryd.ntmps3
  go_wp2_with fail
  have HB0 := Lib.hid (grows' w (.cells #[.int .i64 i, .int .i64 k, .float .f64 s, .int .i64 m, .int .i64 lo, .int .i64 hi] 24))
  have HT0 := Lib.hid (Tb.alloc HT.out (.cells #[.int .i64 i, .int .i64 k, .float .f64 s, .int .i64 m, .int .i64 lo, .int .i64 hi] 24))
  have HX := Lib.hid (range_new w 24 [.int .i64 i, .int .i64 k, .float .f64 s, .int .i64 m, .int .i64 lo, .int .i64 hi])
  replace HX := Lib.hid (show (w.alloc (.cells #[.int .i64 i, .int .i64 k, .float .f64 s, .int .i64 m, .int .i64 lo, .int .i64 hi] 24)).rangeAt w.heap.size 0 [.int .i64 i, .int .i64 k, .float .f64 s, .int .i64 m, .int .i64 lo, .int .i64 hi] from HX.out)
  have hgs : w.heap.size < (w.alloc (.cells #[.int .i64 i, .int .i64 k, .float .f64 s, .int .i64 m, .int .i64 lo, .int .i64 hi] 24)).heap.size := by simp
  generalize w.alloc (.cells #[.int .i64 i, .int .i64 k, .float .f64 s, .int .i64 m, .int .i64 lo, .int .i64 hi] 24) = W at HB0 HT0 HX hgs ⊢
  generalize w.heap.size = g at HX hgs ⊢
  have HXB := Lib.hid (fun V (hV : Below W.heap.size W V) => show V.cell? ⟨g, 0, none⟩ = some (.int .i64 i) ∧ V.cell? ⟨g, 1, none⟩ = some (.int .i64 k) ∧ V.cell? ⟨g, 2, none⟩ = some (.float .f64 s) ∧ V.cell? ⟨g, 3, none⟩ = some (.int .i64 m) ∧ V.cell? ⟨g, 4, none⟩ = some (.int .i64 lo) ∧ V.cell? ⟨g, 5, none⟩ = some (.int .i64 hi) from by
    refine ⟨?_, ?_, ?_, ?_, ?_, ?_⟩
    all_goals rw [hV.cell hgs]
    · exact HX.out 0 _ rfl
    · exact HX.out 1 _ rfl
    · exact HX.out 2 _ rfl
    · exact HX.out 3 _ rfl
    · exact HX.out 4 _ rfl
    · exact HX.out 5 _ rfl)
  have HR0 := Lib.hid (Below.refl W.heap.size W)
  obtain ⟨x0, x1, x2, x3, x4, x5⟩ := HXB.out W HR0.out
  go_wp2_with fail
  refine (micro_any i _ (Tb.below HT0.out HR0.out)).mono ?_
  rintro e v ⟨rfl, hv⟩
  rw [hv]
  clear hv v
  go_wp2_with fail
  refine (refMicro_any i _).mono ?_
  rintro e v ⟨rfl, hv⟩
  rw [hv]
  clear hv v
  go_wp2_with fail
  refine (volts_any i _ (Tb.below HT0.out HR0.out)).mono ?_
  rintro e v ⟨rfl, hv⟩
  rw [hv]
  clear hv v
  go_wp2_with fail
  refine (refVolts_any i _).mono ?_
  rintro e v ⟨rfl, hv⟩
  rw [hv]
  clear hv v
  go_wp2_with fail
  refine (bits_any _ _).mono ?_
  rintro e v0 ⟨rfl, q, rfl⟩
  clear x0 x1 x2 x3 x4 x5
  replace HR0 := Lib.hid (below_dr HR0.out q)
  generalize World.drewN _ q = W1 at HR0 ⊢
  obtain ⟨x0, x1, x2, x3, x4, x5⟩ := HXB.out W1 HR0.out
  go_wp2_with fail
  refine (HF.out lo hi _ (Tb.below HT0.out HR0.out)).mono ?_
  rintro e W2 ⟨rfl, hb⟩
  clear x0 x1 x2 x3 x4 x5
  replace HR0 := Lib.hid (bt HR0.out hb)
  clear hb
  obtain ⟨x0, x1, x2, x3, x4, x5⟩ := HXB.out W2 HR0.out
  go_wp2_with fail
  refine (refFirst_any lo hi _).mono ?_
  rintro e v1 ⟨rfl, q, rfl⟩
  clear x0 x1 x2 x3 x4 x5
  replace HR0 := Lib.hid (below_dr HR0.out q)
  generalize World.drewN _ q = W3 at HR0 ⊢
  obtain ⟨x0, x1, x2, x3, x4, x5⟩ := HXB.out W3 HR0.out
  go_wp2_with fail
  refine (ramp_any i k s _ (Tb.below HT0.out HR0.out)).mono ?_
  rintro e v2 ⟨rfl, q, rfl⟩
  clear x0 x1 x2 x3 x4 x5
  replace HR0 := Lib.hid (below_dr HR0.out q)
  generalize World.drewN _ q = W4 at HR0 ⊢
  obtain ⟨x0, x1, x2, x3, x4, x5⟩ := HXB.out W4 HR0.out
  go_wp2_with fail
  refine (refRamp_any i k s _).mono ?_
  rintro e v3 ⟨rfl, q, rfl⟩
  clear x0 x1 x2 x3 x4 x5
  replace HR0 := Lib.hid (below_dr HR0.out q)
  generalize World.drewN _ q = W5 at HR0 ⊢
  obtain ⟨x0, x1, x2, x3, x4, x5⟩ := HXB.out W5 HR0.out
  go_wp2_with fail
  refine (bits_any _ _).mono ?_
  rintro e v4 ⟨rfl, q, rfl⟩
  clear x0 x1 x2 x3 x4 x5
  replace HR0 := Lib.hid (below_dr HR0.out q)
  generalize World.drewN _ q = W6 at HR0 ⊢
  obtain ⟨x0, x1, x2, x3, x4, x5⟩ := HXB.out W6 HR0.out
  go_wp2_with fail
  refine (code_any m _ m0 m1).mono ?_
  rintro e v ⟨rfl, hv⟩
  rw [hv]
  clear hv v
  have HCV := Lib.hid (refCode_any m W6 m0 m1)
  unfold codeV at HCV ⊢
  generalize cl (nst m) = cn at HCV ⊢
  generalize decide (cn = nst m) = cb at HCV ⊢
  go_wp2_with fail
  refine HCV.out.mono ?_
  rintro e v ⟨rfl, hv⟩
  rw [hv]
  clear hv v HCV
  have hWv : W.heap.size ≤ W6.heap.size := HR0.out.size
  have hgw : g < W6.heap.size := Nat.lt_of_lt_of_le hgs HR0.out.size
  go_wp2_with fail
  refine (way_any i k W6).mono ?_
  rintro e W7 ⟨A, ca, rfl, oa, hb⟩
  have h67 := hb.size
  clear x0 x1 x2 x3 x4 x5
  replace HR0 := Lib.hid (bt HR0.out hb)
  have OA := Lib.hid oa
  clear oa hb
  obtain ⟨x0, x1, x2, x3, x4, x5⟩ := HXB.out W7 HR0.out
  go_wp2_with fail
  refine (refWay_any i k W7).mono ?_
  rintro e W8 ⟨B, cb2, rfl, ob, hb⟩
  clear x0 x1 x2 x3 x4 x5
  have h78 := hb.size
  replace HR0 := Lib.hid (bt HR0.out hb)
  have OB := Lib.hid ob
  have HLA := Lib.hid (fun g2 hg2 => (OA.out.lt g2 hg2).2)
  replace OA := Lib.hid (own_belowK OA.out hb)
  clear ob hb
  obtain ⟨x0, x1, x2, x3, x4, x5⟩ := HXB.out W8 HR0.out
  go_wp2_with fail
  refine (way_any i k W8).mono ?_
  rintro e W9 ⟨C, cc, rfl, oc, hb⟩
  have h89 := hb.size
  clear x0 x1 x2 x3 x4 x5
  replace HR0 := Lib.hid (bt HR0.out hb)
  have OC := Lib.hid oc
  replace OA := Lib.hid (own_belowK OA.out hb)
  replace OB := Lib.hid (own_belowK OB.out hb)
  clear oc hb
  go_wp2_with fail
  refine (ints_any A B ca cb2 _ i k _ (by have := HW.out; omega) (own_cells OA.out) (own_cells OB.out)).mono ?_
  rintro e V ⟨rfl, q, rfl⟩
  replace HR0 := Lib.hid (below_dr HR0.out q)
  have HLB := Lib.hid (fun g2 hg2 => OB.out.lt g2 hg2)
  have HLC := Lib.hid (fun g2 hg2 => OC.out.lt g2 hg2)
  replace OA := Lib.hid (own_belowK OA.out (below_dr (Below.refl _ _) q))
  replace OB := Lib.hid (own_belowK OB.out (below_dr (Below.refl _ _) q))
  replace OC := Lib.hid (own_belowK OC.out (below_dr (Below.refl _ _) q))
  have hsV : W9.heap.size = (W9.drewN q).heap.size := rfl
  generalize W9.drewN q = V at HR0 OA OB OC hsV ⊢
  generalize wn i k = n at *
  have hn24 : n ≤ 24 := HW.out
  clear HX HXB HF HW HT
  go_wp2_with fail
  go_loopw [21] (fun v21 wr => ∃ p zs, p ≤ n ∧ v21 = .int .i64 (p : Nat) ∧ Below W.heap.size W wr ∧ V.heap.size ≤ wr.heap.size ∧ wr.ownsRow W6.heap.size 3 1 (.slice A n ca) n zs ∧ wr.ownsRow W7.heap.size 3 1 (.slice B n cb2) n (wayV i k n) ∧ wr.ownsRow W8.heap.size 3 1 (.slice C n cc) n (wayV i k n)) (fun v21 _ => n - (RowKit.intOf v21).toNat)
  case atStart => exact ⟨0, _, by omega, rfl, HR0.out, Nat.le_refl _, OA.out, OB.out, OC.out⟩
  case round =>
    clear HR0 OA OB OC
    obtain ⟨p, zs, hp, rfl, hr, hs, oa, ob, oc⟩ := hrel
    have HR := Lib.hid hr
    have OA := Lib.hid oa
    have OB := Lib.hid ob
    have OC := Lib.hid oc
    clear hr oa ob oc
    by_cases hlt : p < n
    · have l1 : (0 : Int) ≤ (p : Int) := by omega
      have l2 : (p : Int) < (n : Int) := by omega
      obtain ⟨ga, rfl, hg1, hg2⟩ := own_shapeK OA.out (by omega)
      obtain ⟨u, hu⟩ : ∃ u, zs[p]? = some u := ⟨_, List.getElem?_eq_getElem (by rw [OA.out.1]; omega)⟩
      have c0 : wr.cell? ⟨ga, p, none⟩ = some u := by rw [OA.out.cellAt p (by omega)]; exact hu
      have z0 := OA.out.frozenAt p
      have hga : ga < W7.heap.size := HLA.out ga rfl
      go_wp2_with fail
      go_roundw
      case rel =>
        have hst := set_grown wr ⟨ga, p, none⟩ (.int .i64 (-1))
        refine ⟨p + 1, _, by omega, by go_num, HR.out.setCell (p := ⟨ga, p, none⟩) (by show W.heap.size ≤ ga; omega) _, by simpa using hs, (OA.out.stored p _).1, own_keptNe OB.out hst (fun e => ?_), own_keptNe OC.out hst (fun e => ?_)⟩
        · have := (HLB.out ga e).1; omega
        · have := (HLC.out ga e).1; omega
      case measure => simp [RowKit.intOf]; omega
    · obtain rfl : n = p := by omega
      clear hlt hp
      go_wp2_with fail
      go_loopw [17, 22] (fun v17 v22 wy => ∃ j zs, j ≤ 30 ∧ v22 = .int .i64 (j : Nat) ∧ Below W.heap.size W wy ∧ V.heap.size ≤ wy.heap.size ∧ wy.ownsRow W7.heap.size 3 1 (.slice B n cb2) n (wayV i k n) ∧ wy.ownsRow W8.heap.size 3 1 (.slice C n cc) n (wayV i k n) ∧ (∃ sa sc, v17 = .slice sa (n + j) sc ∧ wy.ownsRow W6.heap.size 3 1 (.slice sa (n + j) sc) (n + j) zs ∧ ∀ g2, (Value.slice sa (n + j) sc).ownBlock = some g2 → (Value.slice A n ca).ownBlock = some g2 ∨ V.heap.size ≤ g2)) (fun _ v22 _ => 30 - (RowKit.intOf v22).toNat)
      case atStart => exact ⟨0, zs, by omega, rfl, HR.out, hs, OB.out, OC.out, A, ca, rfl, OA.out, fun g2 hg2 => .inl hg2⟩
      case round =>
        clear HR OA OB OC hs
        obtain ⟨j, ys, hj, rfl, hr, hs, ob, oc, sa, sc, rfl, oa, hd⟩ := hrel
        have HR := Lib.hid hr
        have OA := Lib.hid oa
        have OB := Lib.hid ob
        have OC := Lib.hid oc
        have HD := Lib.hid hd
        clear hr oa ob oc hd
        by_cases hlj : j < 30
        · have k1 : (0 : Int) ≤ (j : Int) := by omega
          have k2 : (j : Int) < 30 := by omega
          have hvs : W6.heap.size ≤ wr.heap.size := by omega
          go_wp2_with (at_builtin; go_must (refine wpList_append_apartK rfl (.tmp 190) (.tmp 191) 40 rfl W6.heap.size 3 (.int .i64 0) 1 8 (by omega) Tryd.underlying40 info_int rfl _ (n + j) ys rfl (own_belowK OA.out (grows' wr _)) ⟨wr.heap.size, 0, none⟩ 1 1 [.int .i64 (-2)] rfl (by omega) rfl (fun j u hu => by rw [Ro.add_plain, World.cell?_alloc_at _ _ _ _ rfl, Nat.zero_add]; simpa using hu) (by intro u hu; simp at hu; subst hu; rfl) (by omega) (by omega) (by simp; omega) ?_); intro v' w' ho hg hf)
          go_roundw
          case rel =>
            obtain ⟨sa', sc', rfl, _⟩ := own_src ho
            refine ⟨j + 1, _, by omega, by go_num, below_grown' HR.out HR.out.size OA.out hWv hg, by have := hg.size; simp at this; omega, ?_, ?_, sa', sc', rfl, ho, fun g2 h2 => ?_⟩
            · refine keep_row (own_belowK OB.out (grows' wr _)) hg fun g2 h2 e => ?_
              have h3 := HLB.out g2 h2
              rcases HD.out g2 e with h4 | h4
              · have := HLA.out g2 h4; omega
              · omega
            · refine keep_row (own_belowK OC.out (grows' wr _)) hg fun g2 h2 e => ?_
              have h3 := HLC.out g2 h2
              rcases HD.out g2 e with h4 | h4
              · have := HLA.out g2 h4; omega
              · omega
            · rcases hf with h3 | h3
              · exact HD.out g2 (h3.symm.trans h2)
              · have := h3 g2 h2
                exact .inr (by simp at this; omega)
          case measure => simp [RowKit.intOf]; omega
        · obtain rfl : j = 30 := by omega
          go_wp2_with fail
          have HI := Lib.hid (ints_any C B cc cb2 n i k wr (by omega) (own_cells OC.out) (own_cells OB.out))
          refine HI.out.mono ?_
          rintro e V2 ⟨rfl, q2, rfl⟩
          have HR2 := Lib.hid (below_dr HR.out q2)
          generalize World.drewN wr q2 = V2 at HR2 ⊢
          go_wp2_with fail
          refine (awake_any V2 (Tb.below HT0.out HR2.out)).mono ?_
          rintro e V3 ⟨rfl, hv⟩
          rw [hv]
          clear hv V3
          go_wp2_with fail
          go_ret
          exact ⟨rfl, bt HB0.out HR2.out⟩
end Go.Proofs.YtpoijmncdicdkaaDoor.Su
