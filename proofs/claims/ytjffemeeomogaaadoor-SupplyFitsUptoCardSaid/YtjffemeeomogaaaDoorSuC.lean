/- Meet (P9.2): the program's and the document's. -/
import Derived.Test.YtjffemeeomogaaaDoorSuB
import Derived.Laws.ResultCell
namespace Go.Proofs.YtjffemeeomogaaaDoor.Su
open Go.ChangeShapes Go.WideShapes Go.ChangeAt Go.RowKit Own Ro

abbrev Pr := Int × Int
def prV (p : Pr) : List Value := [.int .i64 p.1, .int .i64 p.2]
def prsV (l : List Pr) : List Value := l.flatMap prV
theorem prV_len (p : Pr) : (prV p).length = 2 := rfl
theorem prs_len (l : List Pr) : (prsV l).length = l.length * 2 := flat_len _ _ prV_len l
theorem prs_at (l : List Pr) (i j : Nat) (hi : i < l.length) (hj : j < 2) : (prsV l)[i * 2 + j]? = (prV (l.getD i (0, 0)))[j]? := by
  unfold prsV
  rw [flat_at _ _ prV_len l i j hj, some_at l (0, 0) i hi]
  rfl
def maxI (a b : Int) : Int := if a < b then b else a
def minI (a b : Int) : Int := if b < a then b else a
def loF (l : List Pr) : Int := l.foldl (fun a p => maxI a p.1) 0
def hiF (l : List Pr) : Int := l.foldl (fun a p => minI a p.2) 1099511627776
theorem loF_take (l : List Pr) (k : Nat) (h : k < l.length) : loF (l.take (k + 1)) = maxI (loF (l.take k)) (l.getD k (0, 0)).1 := by
  unfold loF
  rw [takeS l (0, 0) k h, List.foldl_append]
  rfl
theorem hiF_take (l : List Pr) (k : Nat) (h : k < l.length) : hiF (l.take (k + 1)) = minI (hiF (l.take k)) (l.getD k (0, 0)).2 := by
  unfold hiF
  rw [takeS l (0, 0) k h, List.foldl_append]
  rfl
def mayAll (l : List Pr) : Prop := ∀ i, i < l.length → mayW (l.getD i (0, 0)).1 (l.getD i (0, 0)).2 = true
open Classical in
/-- What the windows have in common, and what is told of it. -/
noncomputable def mt (l : List Pr) : Int × Int × Int :=
  if mayAll l then (if hiF l < loF l then (0, 0, 6) else (loF l, hiF l, 0)) else (0, 0, 1)
theorem mt_bad {l : List Pr} {k : Nat} (hk : k < l.length) (h : mayW (l.getD k (0, 0)).1 (l.getD k (0, 0)).2 = false) : mt l = (0, 0, 1) := by
  unfold mt
  rw [if_neg fun ha => by have := ha k hk; rw [h] at this; cases this]
theorem mt_none {l : List Pr} (ha : mayAll l) (h : hiF l < loF l) : mt l = (0, 0, 6) := by
  unfold mt
  rw [if_pos ha, if_pos h]
theorem mt_some {l : List Pr} (ha : mayAll l) (h : ¬ hiF l < loF l) : mt l = (loF l, hiF l, 0) := by
  unfold mt
  rw [if_pos ha, if_neg h]
theorem mayW_bd {lo hi : Int} (h : mayW lo hi = true) : 0 ≤ lo ∧ lo ≤ hi ∧ hi ≤ 1099511627776 := by
  unfold mayW at h
  simp at h
  omega
/-- Two cells of a block of one's own. -/
def there2 (w : World) (g : Nat) : Prop := w.there g 0 2
def cells2 (w : World) (g : Nat) (x y : Value) : Prop := w.cell? ⟨g, 0, none⟩ = some x ∧ w.cell? ⟨g, 1, none⟩ = some y
theorem there2_new (w : World) (x y : Value) (t : TypeId) : there2 (w.alloc (.cells #[x, y] t)) w.heap.size := fun j hj => by
  rw [Nat.zero_add]
  refine ⟨?_, World.frozen?_alloc_new w _ _ _⟩
  rw [World.cell?_alloc_at _ _ _ _ rfl]
  rcases j with _ | _ | j
  · rfl
  · rfl
  · omega
theorem cells2_new (w : World) (x y : Value) (t : TypeId) : cells2 (w.alloc (.cells #[x, y] t)) w.heap.size x y :=
  ⟨by rw [World.cell?_alloc_at _ _ _ _ rfl]; rfl, by rw [World.cell?_alloc_at _ _ _ _ rfl]; rfl⟩
theorem there2_below {w w' : World} {g : Nat} (h : there2 w g) (hb : Below w.heap.size w w') : there2 w' g := fun j hj => by
  obtain ⟨h1, h2⟩ := h j hj
  obtain ⟨u, hu⟩ := Option.isSome_iff_exists.1 h1
  have hlt := cell_lt hu
  exact ⟨by rw [hb.cell hlt]; exact h1, by rw [hb.frozen hlt]; exact h2⟩
theorem cells2_below {w w' : World} {g : Nat} {x y : Value} (h : cells2 w g x y) (hb : Below w.heap.size w w') : cells2 w' g x y :=
  ⟨by rw [hb.cell (cell_lt h.1)]; exact h.1, by rw [hb.cell (cell_lt h.2)]; exact h.2⟩
theorem there2_set {w : World} {g g' : Nat} (h : there2 w g) (x y : Value) : there2 ((w.setCell ⟨g', 0, none⟩ x).setCell ⟨g', 1, none⟩ y) g :=
  World.there_setCells h g' 0 [x, y]
theorem cells2_set {w : World} {g : Nat} (h : there2 w g) (x y : Value) : cells2 ((w.setCell ⟨g, 0, none⟩ x).setCell ⟨g, 1, none⟩ y) g x y := by
  have := World.rangeAt_setCells_same w g 0 [x, y] h
  exact ⟨this 0 x rfl, this 1 y rfl⟩
theorem there2_z {w : World} {g : Nat} (h : there2 w g) : (w.frozen? ⟨g, 0, none⟩ = false ∧ w.frozen? ⟨g, 1, none⟩ = false) ∧ ∃ x y, cells2 w g x y := by
  obtain ⟨h1, h2⟩ := h 0 (by omega)
  obtain ⟨h3, h4⟩ := h 1 (by omega)
  obtain ⟨u, hu⟩ := Option.isSome_iff_exists.1 h1
  obtain ⟨v, hv⟩ := Option.isSome_iff_exists.1 h3
  exact ⟨⟨h2, h4⟩, u, v, hu, hv⟩
/-- A result that is a row of a block of one's own, and a number. -/
theorem results_row_tmp {P : Program} {fn : Func} {p u : Tmp} {ty : TypeId} (h : fn.results = #[.cell p ty, .tmp u]) (tmps : Array Value) (w : World) (g : Nat) (cs : List Value) (d : TypeDesc)
    (hp : tmps.getD p undef = .pointer (some ⟨g, 0, none⟩)) (hc : w.rangeAt g 0 cs)
    (hu : P.underlying ty = some d) (hd : d.isRow = true) (hi : (P.info? ty).map (·.size) = some cs.length) :
    (results fn tmps).run P w = .ok (.tuple #[.agg cs.toArray, tmps.getD u undef]) w := by
  rw [results_cell_tmp h, hp]
  simp [asAddr, run_loadVar_mid w g 0 ty cs d hc hu hd hi, Result.andThen]
theorem cells2_range {w : World} {g : Nat} {x y : Value} (h : cells2 w g x y) : w.rangeAt g 0 [x, y] := fun j v hv => by
  rcases j with _ | _ | j
  · injection hv with hv; subst hv; exact h.1
  · injection hv with hv; subst hv; exact h.2
  · simp at hv
theorem bt0 {y w9 : World} (h9 : Below y.heap.size y w9) (q : Nat) : Below y.heap.size y (w9.drewN q) := below_dr h9 q
set_option maxRecDepth 100000 in
set_option maxHeartbeats 8000000 in
theorem meet_any (A : Option Addr) (c n : Nat) (l : List Pr) (w : World) (hn : n = l.length) (hb : n ≤ 9223372036854775807) (hs : CellsIn w 2 A n (prsV l)) :
    Calls Tryd.prog 25 #[.slice A n c] w (fun e w' => e = .returned (.tuple #[winV (mt l).1 (mt l).2.1, .int .i64 (mt l).2.2]) ∧ Below w.heap.size w w') := by
  have HN := Lib.hid hn
  have GA := Lib.hid hs
  have HIW := Lib.hid isWindow_any
  unfold winV at HIW ⊢
  clear hn hs
  go_enter Tryd.func25, Tryd.ntmps25
  go_wp2_with fail
  have HB0 := Lib.hid (show Below w.heap.size w ((w.alloc (.cells #[.int .i64 0, .int .i64 0] 55)).alloc (.cells #[.int .i64 0, .int .i64 1099511627776] 55)) from bt (grows' _ _) (grows' _ _))
  have HT2 := Lib.hid (there2_below (there2_new w (.int .i64 0) (.int .i64 0) 55) (grows' (w.alloc (.cells #[.int .i64 0, .int .i64 0] 55)) (.cells #[.int .i64 0, .int .i64 1099511627776] 55)))
  have HT4 := Lib.hid (there2_new (w.alloc (.cells #[.int .i64 0, .int .i64 0] 55)) (.int .i64 0) (.int .i64 1099511627776) 55)
  have HC4 := Lib.hid (cells2_new (w.alloc (.cells #[.int .i64 0, .int .i64 0] 55)) (.int .i64 0) (.int .i64 1099511627776) 55)
  have hs1 : (w.alloc (.cells #[.int .i64 0, .int .i64 0] 55)).heap.size = w.heap.size + 1 := by simp
  rw [hs1] at HT4 HC4
  generalize ((w.alloc (.cells #[.int .i64 0, .int .i64 0] 55)).alloc (.cells #[.int .i64 0, .int .i64 1099511627776] 55)) = W0 at HB0 HT2 HT4 HC4 ⊢
  obtain ⟨g4, hg4⟩ : ∃ g, g = w.heap.size + 1 := ⟨_, rfl⟩
  rw [← hg4] at HT4 HC4 ⊢
  obtain ⟨g2, hg2⟩ : ∃ g, g = w.heap.size := ⟨_, rfl⟩
  rw [← hg2] at HT2 ⊢
  have hne : g2 ≠ g4 := by omega
  have hl2 : w.heap.size ≤ g2 := by omega
  have hl4 : w.heap.size ≤ g4 := by omega
  clear hg2 hg4 hs1
  go_loopw [10] (fun v10 wr => ∃ (k : Nat), k ≤ n ∧ v10 = .int .i64 (k : Int) ∧ (∀ i, i < k → mayW (l.getD i (0, 0)).1 (l.getD i (0, 0)).2 = true) ∧ Below w.heap.size w wr ∧ there2 wr g2 ∧ there2 wr g4 ∧ cells2 wr g4 (.int .i64 (loF (l.take k))) (.int .i64 (hiF (l.take k)))) (fun v10 _ => n - (RowKit.intOf v10).toNat)
  case atStart => exact ⟨0, by omega, rfl, fun i h => absurd h (by omega), HB0.out, HT2.out, HT4.out, HC4.out⟩
  case round =>
    obtain ⟨k, hk, rfl, hm, hbr, ht2, ht4, hc4⟩ := hrel
    have HM := Lib.hid hm
    have HBR := Lib.hid hbr
    have T2 := Lib.hid ht2
    have T4 := Lib.hid ht4
    have C4 := Lib.hid hc4
    clear hm hbr ht2 ht4 hc4 HB0 HT2 HT4 HC4
    by_cases hlt : k < n
    · have l1 : (0 : Int) ≤ (k : Int) := by omega
      have l2 : (k : Int) < (n : Int) := by omega
      have HL1 := Lib.hid (loF_take l k (by rw [← HN.out]; exact hlt))
      have HL2 := Lib.hid (hiF_take l k (by rw [← HN.out]; exact hlt))
      have HMS := Lib.hid (fun (h : mayW (l.getD k (0, 0)).1 (l.getD k (0, 0)).2 = true) => show ∀ i, i < k + 1 → mayW (l.getD i (0, 0)).1 (l.getD i (0, 0)).2 = true from fun i hi => by
        by_cases e : i = k
        · rw [e]; exact h
        · exact HM.out i (by omega))
      have HMB := Lib.hid (fun (h : mayW (l.getD k (0, 0)).1 (l.getD k (0, 0)).2 = false) => mt_bad (by rw [← HN.out]; exact hlt) h)
      obtain ⟨b, o, rfl, hbs, hc1⟩ := GA.out.at (by omega)
      have e0 : w.cell? ⟨b, o + k * 2, none⟩ = _ := hc1 (k * 2 + 0) _ (prs_at l k 0 (by rw [← HN.out]; exact hlt) (by decide))
      have e1 : w.cell? ⟨b, o + k * 2 + 1, none⟩ = _ := hc1 (k * 2 + 1) _ (prs_at l k 1 (by rw [← HN.out]; exact hlt) (by decide))
      clear hc1
      generalize loF (l.take k) = lo at HL1 C4 ⊢
      generalize hiF (l.take k) = hi at HL2 C4 ⊢
      generalize l.getD k (0, 0) = s at e0 e1 HL1 HL2 HMS HMB
      obtain ⟨sa, sb⟩ := s
      replace e0 : w.cell? ⟨b, o + k * 2, none⟩ = some (.int .i64 sa) := e0
      replace e1 : w.cell? ⟨b, o + k * 2 + 1, none⟩ = some (.int .i64 sb) := e1
      have f0 : wr.cell? ⟨b, o + k * 2, none⟩ = some (.int .i64 sa) := by rw [HBR.out.cell (cell_lt e0)]; exact e0
      have f1 : wr.cell? ⟨b, o + k * 2 + 1, none⟩ = some (.int .i64 sb) := by rw [HBR.out.cell (cell_lt e1)]; exact e1
      clear e0 e1
      go_wp2_with fail
      refine (HIW.out sa sb _).mono ?_
      rintro e w3 ⟨rfl, hb3⟩
      have B3 := Lib.hid (bt (grows' wr (.cells #[.int .i64 sa, .int .i64 sb] 55)) hb3)
      have C6 := Lib.hid (cells2_below (cells2_new wr (.int .i64 sa) (.int .i64 sb) 55) hb3)
      clear hb3 f0 f1
      have HB3 := Lib.hid (bt HBR.out B3.out)
      have T23 := Lib.hid (there2_below T2.out B3.out)
      have T43 := Lib.hid (there2_below T4.out B3.out)
      have C43 := Lib.hid (cells2_below C4.out B3.out)
      have hg6 : w.heap.size ≤ wr.heap.size := HBR.out.size
      clear T2 T4 C4
      generalize wr.heap.size = g6 at C6 hg6 ⊢
      cases hm : mayW sa sb with
      | false =>
        have HMM := Lib.hid hm
        clear hm
        obtain ⟨⟨z0, z1⟩, u0, u1, y0, y1⟩ := there2_z T23.out
        go_wp2_with fail
        have HQ := Lib.hid (cells2_set T23.out (.int .i64 0) (.int .i64 0))
        have HB9 := Lib.hid ((HB3.out.setCell hl2 (p := ⟨g2, 0, none⟩) (.int .i64 0)).setCell hl2 (p := ⟨g2, 1, none⟩) (.int .i64 0))
        generalize ((w3.setCell ⟨g2, 0, none⟩ (.int .i64 0)).setCell ⟨g2, 1, none⟩ (.int .i64 0)) = W9 at HQ HB9 ⊢
        (try simp only [Exit.inBlock, Exit.then])
        refine bodyPost_ret (results_row_tmp rfl _ _ g2 [.int .i64 0, .int .i64 0] _ rfl (cells2_range HQ.out) Tryd.underlying55 (by kernel_rfl) (by kernel_rfl)) rfl ?_
        exact ⟨by rw [HMB.out HMM.out]; rfl, HB9.out⟩
      | true =>
        obtain ⟨b1, b2, b3⟩ := mayW_bd hm
        have HMM := Lib.hid hm
        clear hm
        obtain ⟨c0, c1⟩ := C43.out
        obtain ⟨d0, d1⟩ := C6.out
        obtain ⟨⟨z0, z1⟩, _⟩ := there2_z T43.out
        go_wp2_with fail
        all_goals go_roundw
        case rel => exact ⟨k + 1, by omega, by go_num, HMS.out HMM.out, (HB3.out.setCell hl4 _).setCell hl4 _, there2_set T23.out _ _, there2_set T43.out _ _, by rw [HL1.out, HL2.out]; exact cells2_set T43.out _ _⟩
        case measure => simp [RowKit.intOf]; omega
    · obtain rfl : n = k := by omega
      have HAL := Lib.hid (show mayAll l from fun i hi => HM.out i (by rw [HN.out]; exact hi))
      rw [List.take_of_length_le (by rw [← HN.out]; exact Nat.le_refl _)] at C4
      obtain ⟨⟨z0, z1⟩, u0, u1, y0, y1⟩ := there2_z T2.out
      obtain ⟨c0, c1⟩ := C4.out
      by_cases hlh : hiF l < loF l
      · have HME := Lib.hid (mt_none HAL.out hlh)
        have d1 : decide (hiF l < loF l) = true := decide_eq_true hlh
        clear C4 hlh
        generalize hiF l = hv at HME d1 c1
        generalize loF l = lv at HME d1 c0
        go_wp2_with fail
        have HQ := Lib.hid (cells2_set T2.out (.int .i64 0) (.int .i64 0))
        have HB9 := Lib.hid ((HBR.out.setCell hl2 (p := ⟨g2, 0, none⟩) (.int .i64 0)).setCell hl2 (p := ⟨g2, 1, none⟩) (.int .i64 0))
        generalize ((wr.setCell ⟨g2, 0, none⟩ (.int .i64 0)).setCell ⟨g2, 1, none⟩ (.int .i64 0)) = W9 at HQ HB9 ⊢
        (try simp only [Exit.inBlock, Exit.then])
        refine bodyPost_ret (results_row_tmp rfl _ _ g2 [.int .i64 0, .int .i64 0] _ rfl (cells2_range HQ.out) Tryd.underlying55 (by kernel_rfl) (by kernel_rfl)) rfl ?_
        exact ⟨by rw [HME.out]; rfl, HB9.out⟩
      · have HME := Lib.hid (mt_some HAL.out hlh)
        have d1 : decide (hiF l < loF l) = false := decide_eq_false hlh
        clear C4 hlh
        generalize hiF l = hv at HME d1 c1
        generalize loF l = lv at HME d1 c0
        go_wp2_with fail
        have HQ := Lib.hid (cells2_set T2.out (.int .i64 lv) (.int .i64 hv))
        have HB9 := Lib.hid ((HBR.out.setCell hl2 (p := ⟨g2, 0, none⟩) (.int .i64 lv)).setCell hl2 (p := ⟨g2, 1, none⟩) (.int .i64 hv))
        generalize ((wr.setCell ⟨g2, 0, none⟩ (.int .i64 lv)).setCell ⟨g2, 1, none⟩ (.int .i64 hv)) = W9 at HQ HB9 ⊢
        (try simp only [Exit.inBlock, Exit.then])
        refine bodyPost_ret (results_row_tmp rfl _ _ g2 [.int .i64 lv, .int .i64 hv] _ rfl (cells2_range HQ.out) Tryd.underlying55 (by kernel_rfl) (by kernel_rfl)) rfl ?_
        exact ⟨by rw [HME.out]; rfl, HB9.out⟩
end Go.Proofs.YtjffemeeomogaaaDoor.Su
