/- The registry's helpers: kept, has. -/
import Derived.Test.YtmlfnihicocilaaKrM
import Derived.Deep.DeepCutAuto
namespace Go.Proofs.Ytmlfnihicocilaa.Kr
open Go.ChangeShapes Go.WideShapes Go.ChangeAt Go.RowKit Own Ro wordsNames Kc

theorem below_none {w w' : World} (h : w.grownBy w' (Value.slice none 0 0).ownBlock) : Below w.heap.size w w' := ⟨h.os, h.tape, h.output, h.size, fun k hk => h.block k hk (by simp [Value.ownBlock])⟩
set_option maxRecDepth 100000 in
set_option maxHeartbeats 8000000 in
theorem kept_any (a : Cd) (r : Sl) (w : World) (hm : MildC 1099511627776 a) (hr : r.2.1 = a.compat.length) (hne : Neat r) (hs : CellsIn w 1 r.1 r.2.1 (strs a.compat)) :
    Calls Try.prog 31 #[cardV a r] w (MadeC a w) := by
  have HS := Lib.hid fun (W : World) (hW : Below w.heap.size w W) => (hs.below hW).src (c := r.2.2) hne
  have hrb : r.2.1 ≤ 1099511627776 := by have := hm.2.2.2.1; omega
  have HRL := Lib.hid hr
  clear hr hne hs hm
  unfold cardV cells7
  obtain ⟨nm, fm, lv, cp, sc, qk, en⟩ := a
  obtain ⟨ra, rn, rc⟩ := r
  simp only [slV] at HS hrb HRL ⊢
  generalize hS1 : str nm = S1
  generalize hS2 : str fm = S2
  generalize hS3 : str qk = S3
  have HS1 := Lib.hid hS1
  have HS2 := Lib.hid hS2
  have HS3 := Lib.hid hS3
  clear hS1 hS2 hS3
  go_enter Try.func31, Try.ntmps31
  have c0 : ((w.alloc (.cells #[.string S1, .string S2, .int .u8 lv, .slice ra rn rc, .int .i8 sc, .string S3, .int .i16 en] 34)).alloc (.cells #[.string ⟨#[]⟩, .string ⟨#[]⟩, .int .u8 0, .slice none 0 0, .int .i8 0, .string ⟨#[]⟩, .int .i16 0] 34)).cell? ⟨w.heap.size, 0, none⟩ = some (.string S1) := by rw [World.cell?_alloc2_first]; rfl
  have d0 : ((w.alloc (.cells #[.string S1, .string S2, .int .u8 lv, .slice ra rn rc, .int .i8 sc, .string S3, .int .i16 en] 34)).alloc (.cells #[.string ⟨#[]⟩, .string ⟨#[]⟩, .int .u8 0, .slice none 0 0, .int .i8 0, .string ⟨#[]⟩, .int .i16 0] 34)).cell? ⟨w.heap.size + 1, 0, none⟩ = some (.string ⟨#[]⟩) := by rw [World.cell?_alloc2_new]; rfl
  have c1 : ((w.alloc (.cells #[.string S1, .string S2, .int .u8 lv, .slice ra rn rc, .int .i8 sc, .string S3, .int .i16 en] 34)).alloc (.cells #[.string ⟨#[]⟩, .string ⟨#[]⟩, .int .u8 0, .slice none 0 0, .int .i8 0, .string ⟨#[]⟩, .int .i16 0] 34)).cell? ⟨w.heap.size, 1, none⟩ = some (.string S2) := by rw [World.cell?_alloc2_first]; rfl
  have d1 : ((w.alloc (.cells #[.string S1, .string S2, .int .u8 lv, .slice ra rn rc, .int .i8 sc, .string S3, .int .i16 en] 34)).alloc (.cells #[.string ⟨#[]⟩, .string ⟨#[]⟩, .int .u8 0, .slice none 0 0, .int .i8 0, .string ⟨#[]⟩, .int .i16 0] 34)).cell? ⟨w.heap.size + 1, 1, none⟩ = some (.string ⟨#[]⟩) := by rw [World.cell?_alloc2_new]; rfl
  have c2 : ((w.alloc (.cells #[.string S1, .string S2, .int .u8 lv, .slice ra rn rc, .int .i8 sc, .string S3, .int .i16 en] 34)).alloc (.cells #[.string ⟨#[]⟩, .string ⟨#[]⟩, .int .u8 0, .slice none 0 0, .int .i8 0, .string ⟨#[]⟩, .int .i16 0] 34)).cell? ⟨w.heap.size, 2, none⟩ = some (.int .u8 lv) := by rw [World.cell?_alloc2_first]; rfl
  have d2 : ((w.alloc (.cells #[.string S1, .string S2, .int .u8 lv, .slice ra rn rc, .int .i8 sc, .string S3, .int .i16 en] 34)).alloc (.cells #[.string ⟨#[]⟩, .string ⟨#[]⟩, .int .u8 0, .slice none 0 0, .int .i8 0, .string ⟨#[]⟩, .int .i16 0] 34)).cell? ⟨w.heap.size + 1, 2, none⟩ = some (.int .u8 0) := by rw [World.cell?_alloc2_new]; rfl
  have c3 : ((w.alloc (.cells #[.string S1, .string S2, .int .u8 lv, .slice ra rn rc, .int .i8 sc, .string S3, .int .i16 en] 34)).alloc (.cells #[.string ⟨#[]⟩, .string ⟨#[]⟩, .int .u8 0, .slice none 0 0, .int .i8 0, .string ⟨#[]⟩, .int .i16 0] 34)).cell? ⟨w.heap.size, 3, none⟩ = some (.slice ra rn rc) := by rw [World.cell?_alloc2_first]; rfl
  have d3 : ((w.alloc (.cells #[.string S1, .string S2, .int .u8 lv, .slice ra rn rc, .int .i8 sc, .string S3, .int .i16 en] 34)).alloc (.cells #[.string ⟨#[]⟩, .string ⟨#[]⟩, .int .u8 0, .slice none 0 0, .int .i8 0, .string ⟨#[]⟩, .int .i16 0] 34)).cell? ⟨w.heap.size + 1, 3, none⟩ = some (.slice none 0 0) := by rw [World.cell?_alloc2_new]; rfl
  have c4 : ((w.alloc (.cells #[.string S1, .string S2, .int .u8 lv, .slice ra rn rc, .int .i8 sc, .string S3, .int .i16 en] 34)).alloc (.cells #[.string ⟨#[]⟩, .string ⟨#[]⟩, .int .u8 0, .slice none 0 0, .int .i8 0, .string ⟨#[]⟩, .int .i16 0] 34)).cell? ⟨w.heap.size, 4, none⟩ = some (.int .i8 sc) := by rw [World.cell?_alloc2_first]; rfl
  have d4 : ((w.alloc (.cells #[.string S1, .string S2, .int .u8 lv, .slice ra rn rc, .int .i8 sc, .string S3, .int .i16 en] 34)).alloc (.cells #[.string ⟨#[]⟩, .string ⟨#[]⟩, .int .u8 0, .slice none 0 0, .int .i8 0, .string ⟨#[]⟩, .int .i16 0] 34)).cell? ⟨w.heap.size + 1, 4, none⟩ = some (.int .i8 0) := by rw [World.cell?_alloc2_new]; rfl
  have c5 : ((w.alloc (.cells #[.string S1, .string S2, .int .u8 lv, .slice ra rn rc, .int .i8 sc, .string S3, .int .i16 en] 34)).alloc (.cells #[.string ⟨#[]⟩, .string ⟨#[]⟩, .int .u8 0, .slice none 0 0, .int .i8 0, .string ⟨#[]⟩, .int .i16 0] 34)).cell? ⟨w.heap.size, 5, none⟩ = some (.string S3) := by rw [World.cell?_alloc2_first]; rfl
  have d5 : ((w.alloc (.cells #[.string S1, .string S2, .int .u8 lv, .slice ra rn rc, .int .i8 sc, .string S3, .int .i16 en] 34)).alloc (.cells #[.string ⟨#[]⟩, .string ⟨#[]⟩, .int .u8 0, .slice none 0 0, .int .i8 0, .string ⟨#[]⟩, .int .i16 0] 34)).cell? ⟨w.heap.size + 1, 5, none⟩ = some (.string ⟨#[]⟩) := by rw [World.cell?_alloc2_new]; rfl
  have c6 : ((w.alloc (.cells #[.string S1, .string S2, .int .u8 lv, .slice ra rn rc, .int .i8 sc, .string S3, .int .i16 en] 34)).alloc (.cells #[.string ⟨#[]⟩, .string ⟨#[]⟩, .int .u8 0, .slice none 0 0, .int .i8 0, .string ⟨#[]⟩, .int .i16 0] 34)).cell? ⟨w.heap.size, 6, none⟩ = some (.int .i16 en) := by rw [World.cell?_alloc2_first]; rfl
  have d6 : ((w.alloc (.cells #[.string S1, .string S2, .int .u8 lv, .slice ra rn rc, .int .i8 sc, .string S3, .int .i16 en] 34)).alloc (.cells #[.string ⟨#[]⟩, .string ⟨#[]⟩, .int .u8 0, .slice none 0 0, .int .i8 0, .string ⟨#[]⟩, .int .i16 0] 34)).cell? ⟨w.heap.size + 1, 6, none⟩ = some (.int .i16 0) := by rw [World.cell?_alloc2_new]; rfl
  have f3 : ((w.alloc (.cells #[.string S1, .string S2, .int .u8 lv, .slice ra rn rc, .int .i8 sc, .string S3, .int .i16 en] 34)).alloc (.cells #[.string ⟨#[]⟩, .string ⟨#[]⟩, .int .u8 0, .slice none 0 0, .int .i8 0, .string ⟨#[]⟩, .int .i16 0] 34)).frozen? ⟨w.heap.size, 3, none⟩ = false := by rw [World.frozen?_alloc2_first]
  have g0 : ((w.alloc (.cells #[.string S1, .string S2, .int .u8 lv, .slice ra rn rc, .int .i8 sc, .string S3, .int .i16 en] 34)).alloc (.cells #[.string ⟨#[]⟩, .string ⟨#[]⟩, .int .u8 0, .slice none 0 0, .int .i8 0, .string ⟨#[]⟩, .int .i16 0] 34)).frozen? ⟨w.heap.size + 1, 0, none⟩ = false := by rw [World.frozen?_alloc2_new]
  have g1 : ((w.alloc (.cells #[.string S1, .string S2, .int .u8 lv, .slice ra rn rc, .int .i8 sc, .string S3, .int .i16 en] 34)).alloc (.cells #[.string ⟨#[]⟩, .string ⟨#[]⟩, .int .u8 0, .slice none 0 0, .int .i8 0, .string ⟨#[]⟩, .int .i16 0] 34)).frozen? ⟨w.heap.size + 1, 1, none⟩ = false := by rw [World.frozen?_alloc2_new]
  have g2 : ((w.alloc (.cells #[.string S1, .string S2, .int .u8 lv, .slice ra rn rc, .int .i8 sc, .string S3, .int .i16 en] 34)).alloc (.cells #[.string ⟨#[]⟩, .string ⟨#[]⟩, .int .u8 0, .slice none 0 0, .int .i8 0, .string ⟨#[]⟩, .int .i16 0] 34)).frozen? ⟨w.heap.size + 1, 2, none⟩ = false := by rw [World.frozen?_alloc2_new]
  have g3 : ((w.alloc (.cells #[.string S1, .string S2, .int .u8 lv, .slice ra rn rc, .int .i8 sc, .string S3, .int .i16 en] 34)).alloc (.cells #[.string ⟨#[]⟩, .string ⟨#[]⟩, .int .u8 0, .slice none 0 0, .int .i8 0, .string ⟨#[]⟩, .int .i16 0] 34)).frozen? ⟨w.heap.size + 1, 3, none⟩ = false := by rw [World.frozen?_alloc2_new]
  have g4 : ((w.alloc (.cells #[.string S1, .string S2, .int .u8 lv, .slice ra rn rc, .int .i8 sc, .string S3, .int .i16 en] 34)).alloc (.cells #[.string ⟨#[]⟩, .string ⟨#[]⟩, .int .u8 0, .slice none 0 0, .int .i8 0, .string ⟨#[]⟩, .int .i16 0] 34)).frozen? ⟨w.heap.size + 1, 4, none⟩ = false := by rw [World.frozen?_alloc2_new]
  have g5 : ((w.alloc (.cells #[.string S1, .string S2, .int .u8 lv, .slice ra rn rc, .int .i8 sc, .string S3, .int .i16 en] 34)).alloc (.cells #[.string ⟨#[]⟩, .string ⟨#[]⟩, .int .u8 0, .slice none 0 0, .int .i8 0, .string ⟨#[]⟩, .int .i16 0] 34)).frozen? ⟨w.heap.size + 1, 5, none⟩ = false := by rw [World.frozen?_alloc2_new]
  have g6 : ((w.alloc (.cells #[.string S1, .string S2, .int .u8 lv, .slice ra rn rc, .int .i8 sc, .string S3, .int .i16 en] 34)).alloc (.cells #[.string ⟨#[]⟩, .string ⟨#[]⟩, .int .u8 0, .slice none 0 0, .int .i8 0, .string ⟨#[]⟩, .int .i16 0] 34)).frozen? ⟨w.heap.size + 1, 6, none⟩ = false := by rw [World.frozen?_alloc2_new]
  have hz : w.heap.size + 1 < ((w.alloc (.cells #[.string S1, .string S2, .int .u8 lv, .slice ra rn rc, .int .i8 sc, .string S3, .int .i16 en] 34)).alloc (.cells #[.string ⟨#[]⟩, .string ⟨#[]⟩, .int .u8 0, .slice none 0 0, .int .i8 0, .string ⟨#[]⟩, .int .i16 0] 34)).heap.size := by simp
  have BW := Lib.hid (bal (bal (Below.refl w.heap.size w) rfl (.cells #[.string S1, .string S2, .int .u8 lv, .slice ra rn rc, .int .i8 sc, .string S3, .int .i16 en] 34)) rfl (.cells #[.string ⟨#[]⟩, .string ⟨#[]⟩, .int .u8 0, .slice none 0 0, .int .i8 0, .string ⟨#[]⟩, .int .i16 0] 34))
  go_upto_region 1 with (fail)
  generalize ((w.alloc (.cells #[.string S1, .string S2, .int .u8 lv, .slice ra rn rc, .int .i8 sc, .string S3, .int .i16 en] 34)).alloc (.cells #[.string ⟨#[]⟩, .string ⟨#[]⟩, .int .u8 0, .slice none 0 0, .int .i8 0, .string ⟨#[]⟩, .int .i16 0] 34)) = W2 at c0 c1 c2 c3 c4 c5 c6 d0 d1 d2 d3 d4 d5 d6 f3 g0 g1 g2 g3 g4 g5 g6 hz BW ⊢
  have hz1 : w.heap.size < W2.heap.size := by omega
  go_wp2_with (first
    | (at_builtin; (refine wpList_append_srcK (o := ⟨some 5, _, _, _, _, _⟩) rfl (.const (.slice none 0 0)) (.tmp 4) 30 rfl W2.heap.size 9 (.string ⟨#[]⟩) 1 16 (by omega) Try.underlying30 info_str rfl _ 0 [] rfl (own_nilK W2 W2.heap.size 9 1) ra rn rc (strs cp) rfl (HS.out _ BW.out) (one_strs cp) (by omega) (by omega) (Nat.le_refl _) ?_); intro v2 w2 ho2 hg2; rw [Nat.zero_add, List.nil_append] at ho2; obtain ⟨B2, d2', rfl, _⟩ := own_srcK ho2; have hb := below_none hg2; have HB2 := Lib.hid (bt BW.out hb); have HO2 := Lib.hid ho2; have hz2 := hb.size; replace c0 := (hb.cell (p := ⟨w.heap.size, 0, none⟩) hz1).trans c0; replace c1 := (hb.cell (p := ⟨w.heap.size, 1, none⟩) hz1).trans c1; replace c2 := (hb.cell (p := ⟨w.heap.size, 2, none⟩) hz1).trans c2; replace c3 := (hb.cell (p := ⟨w.heap.size, 3, none⟩) hz1).trans c3; replace c4 := (hb.cell (p := ⟨w.heap.size, 4, none⟩) hz1).trans c4; replace c5 := (hb.cell (p := ⟨w.heap.size, 5, none⟩) hz1).trans c5; replace c6 := (hb.cell (p := ⟨w.heap.size, 6, none⟩) hz1).trans c6; replace d0 := (hb.cell (p := ⟨w.heap.size + 1, 0, none⟩) hz).trans d0; replace d1 := (hb.cell (p := ⟨w.heap.size + 1, 1, none⟩) hz).trans d1; replace d2 := (hb.cell (p := ⟨w.heap.size + 1, 2, none⟩) hz).trans d2; replace d3 := (hb.cell (p := ⟨w.heap.size + 1, 3, none⟩) hz).trans d3; replace d4 := (hb.cell (p := ⟨w.heap.size + 1, 4, none⟩) hz).trans d4; replace d5 := (hb.cell (p := ⟨w.heap.size + 1, 5, none⟩) hz).trans d5; replace d6 := (hb.cell (p := ⟨w.heap.size + 1, 6, none⟩) hz).trans d6; replace f3 := (hb.frozen (p := ⟨w.heap.size, 3, none⟩) hz1).trans f3; replace g0 := (hb.frozen (p := ⟨w.heap.size + 1, 0, none⟩) hz).trans g0; replace g1 := (hb.frozen (p := ⟨w.heap.size + 1, 1, none⟩) hz).trans g1; replace g2 := (hb.frozen (p := ⟨w.heap.size + 1, 2, none⟩) hz).trans g2; replace g3 := (hb.frozen (p := ⟨w.heap.size + 1, 3, none⟩) hz).trans g3; replace g4 := (hb.frozen (p := ⟨w.heap.size + 1, 4, none⟩) hz).trans g4; replace g5 := (hb.frozen (p := ⟨w.heap.size + 1, 5, none⟩) hz).trans g5; replace g6 := (hb.frozen (p := ⟨w.heap.size + 1, 6, none⟩) hz).trans g6; clear hb ho2 hg2))
  have HZ : Hid (w.heap.size < W2.heap.size ∧ w.heap.size + 1 < W2.heap.size) := Lib.hid ⟨hz1, hz⟩
  refine bodyPost_ret (v := .agg #[.string S1, .string S2, .int .u8 lv, .slice B2 rn d2', .int .i8 sc, .string S3, .int .i16 en]) (by simp [results, Try.results31, go_sem, *]) rfl ⟨B2, d2', rn, ?_, HRL.out, ?_, ?_⟩
  · unfold cardV cells7
    rw [HS1.out, HS2.out, HS3.out]
    rfl
  · exact own_monoK (own_set (own_set (own_set (own_set (own_set (own_set (own_set (own_set HO2.out HZ.out.1) HZ.out.2) HZ.out.2) HZ.out.2) HZ.out.2) HZ.out.2) HZ.out.2) HZ.out.2) (by have := HZ.out.1; omega)
  · exact below_set (below_set (below_set (below_set (below_set (below_set (below_set (below_set HB2.out (Nat.le_refl _) _) (Nat.le_succ _) _) (Nat.le_succ _) _) (Nat.le_succ _) _) (Nat.le_succ _) _) (Nat.le_succ _) _) (Nat.le_succ _) _) (Nat.le_succ _) _
set_option maxRecDepth 100000 in
set_option maxHeartbeats 8000000 in
theorem hasF_any (d : Cd) (r : Sl) (x : List UInt8) (bx : Nat) (w : World) (hx : w.cell? ⟨bx, 0, none⟩ = some (.string (str x))) :
    Calls Try.prog 30 #[cardV d r, .pointer (some ⟨bx, 0, none⟩)] w fun e w' => e = .returned (.bool (decide (d.name = x))) ∧ Below w.heap.size w w' := by
  have c0 := box7s w d r 34 0 (.string (str d.name)) rfl
  have HB := Lib.hid (grows' w (.cells (cells7 d r) 34))
  have q1 := eq_lists d.name x
  have d0 := (HB.out.cell (p := ⟨bx, 0, none⟩) (cell_lt hx)).trans hx
  unfold cardV
  unfold cells7 at c0 d0 HB ⊢
  obtain ⟨nm, fm, lv, cp, sc, qk, en⟩ := d
  obtain ⟨ra, rn, rc⟩ := r
  simp only [slV] at c0 d0 HB q1 ⊢
  generalize decide (nm = x) = g1 at q1 ⊢
  generalize str nm = S1 at c0 d0 HB q1 ⊢
  generalize str x = X at d0 hx q1
  clear hx
  go_enter Try.func30, Try.ntmps30
  go_wp2_with fail
  go_ret
  exact ⟨rfl, HB.out⟩
def SomeIx (g : Bool) (w : World) (e : Ending) (w' : World) : Prop := ∃ z : Int, e = .returned (.int .i64 z) ∧ decide (0 ≤ z) = g ∧ Below w.heap.size w w'
set_option maxRecDepth 100000 in
set_option maxHeartbeats 8000000 in
theorem index_any (b o n c bx : Nat) (C : Cs) (x : List UInt8) (g : Bool) (w : World) (_hn : n ≤ C.length) (hn64 : n ≤ 64) (hb : b < w.heap.size) (hc : ∀ i j u, i < n → (KC.row (C.getD i zc))[j]? = some u → w.cell? ⟨b, o + i * 7 + j, none⟩ = some u)
    (hx : w.cell? ⟨bx, 0, none⟩ = some (.string (str x))) (hg : g = true ↔ ∃ i, i < n ∧ (C.getD i zc).1.name = x) :
    Calls Try.prog 35 #[.slice (some ⟨b, o, none⟩) n c, .func (.func 30) #[] #[.pointer (some ⟨bx, 0, none⟩)]] w (SomeIx g w) := by
  have HC := Lib.hid hc
  have HG := Lib.hid hg
  have HF := Lib.hid fun (d : Cd) (r : Sl) (W : World) (hW : Below w.heap.size w W) => hasF_any d r x bx W ((hW.cell (p := ⟨bx, 0, none⟩) (cell_lt hx)).trans hx)
  clear hc hg hx
  go_enter Try.func35, Try.ntmps35
  go_wp2_with fail
  go_loopw [8] (fun v8 wr => ∃ (k : Nat), k ≤ n ∧ v8 = .int .i64 k ∧ Below w.heap.size w wr ∧ Hid (∀ i, i < k → (C.getD i zc).1.name ≠ x)) (fun v8 _ => n - (RowKit.intOf v8).toNat)
  case atStart => exact ⟨0, by omega, rfl, Below.refl _ _, Lib.hid fun i hi => by omega⟩
  case round =>
    obtain ⟨k, hk, rfl, hbw, HK⟩ := hrel
    have HB := Lib.hid hbw
    clear hbw
    by_cases hlt : k < n
    · have L : ∀ j u, (KC.row (C.getD k zc))[j]? = some u → wr.cell? ⟨b, o + k * 7 + j, none⟩ = some u := fun j u hu => (HB.out.cell (p := ⟨b, o + k * 7 + j, none⟩) hb).trans (HC.out k j u hlt hu)
      have e0 := L 0 _ rfl
      have e1 := L 1 _ rfl
      have e2 := L 2 _ rfl
      have e3 := L 3 _ rfl
      have e4 := L 4 _ rfl
      have e5 := L 5 _ rfl
      have e6 := L 6 _ rfl
      replace e0 : wr.cell? ⟨b, o + k * 7, none⟩ = some (.string (str (C.getD k zc).1.name)) := e0
      replace e1 : wr.cell? ⟨b, o + k * 7 + 1, none⟩ = some (.string (str (C.getD k zc).1.fam)) := e1
      replace e2 : wr.cell? ⟨b, o + k * 7 + 2, none⟩ = some (.int .u8 (C.getD k zc).1.level) := e2
      replace e3 : wr.cell? ⟨b, o + k * 7 + 3, none⟩ = some (slV (C.getD k zc).2) := e3
      replace e4 : wr.cell? ⟨b, o + k * 7 + 4, none⟩ = some (.int .i8 (C.getD k zc).1.score) := e4
      replace e5 : wr.cell? ⟨b, o + k * 7 + 5, none⟩ = some (.string (str (C.getD k zc).1.quirk)) := e5
      replace e6 : wr.cell? ⟨b, o + k * 7 + 6, none⟩ = some (.int .i16 (C.getD k zc).1.entry) := e6
      have HFK := Lib.hid (HF.out (C.getD k zc).1 (C.getD k zc).2 wr HB.out)
      have HD : Hid (decide ((C.getD k zc).1.name = x) = true ↔ (C.getD k zc).1.name = x) := Lib.hid decide_eq_true_iff
      have HT : Hid ((C.getD k zc).1.name = x → g = true) := Lib.hid fun h => HG.out.2 ⟨k, hlt, h⟩
      have k1 : (0 : Int) ≤ (k : Int) := by omega
      have k2 : (k : Int) < (n : Int) := by omega
      clear L
      have HDK : Hid (decide ((C.getD k zc).1.name = x) = false → (C.getD k zc).1.name ≠ x) := Lib.hid fun h => of_decide_eq_false h
      generalize decide ((C.getD k zc).1.name = x) = gx at HFK HD HDK
      generalize C.getD k zc = d at e0 e1 e2 e3 e4 e5 e6 HFK HD HT
      obtain ⟨⟨nm, fm, lv, cp, sc, qk, en⟩, ⟨ra, rn, rc⟩⟩ := d
      simp only [slV, cardV, cells7] at e0 e1 e2 e3 e4 e5 e6 HFK HD HT
      generalize str nm = S1 at e0 HFK
      generalize str fm = S2 at e1 HFK
      generalize str qk = S3 at e5 HFK
      cases gx with
      | true =>
        have HTT := Lib.hid (HT.out (HD.out.1 rfl))
        go_wp2_with (go_at_call 30; refine HFK.out.mono ?_; rintro e w5 ⟨rfl, b5⟩; have B5 := Lib.hid (bt HB.out b5); clear b5)
        go_ret
        exact ⟨_, rfl, by rw [HTT.out]; exact decide_eq_true (by omega), B5.out⟩
      | false =>
        have HNX := Lib.hid (HDK.out rfl)
        go_wp2_with (go_at_call 30; refine HFK.out.mono ?_; rintro e w5 ⟨rfl, b5⟩; have B5 := Lib.hid (bt HB.out b5); clear b5)
        go_roundw
        case rel => exact ⟨k + 1, by omega, by go_num, B5.out, Lib.hid fun i hi => by
          by_cases hik : i = k
          · rw [hik]; exact HNX.out
          · exact HK.out i (by omega)⟩
        case measure => simp [RowKit.intOf]; omega
    · obtain rfl : n = k := by omega
      have HGF : Hid (g = false) := Lib.hid (Bool.eq_false_iff.2 fun e => by
        obtain ⟨i, hi, he⟩ := HG.out.1 e
        exact HK.out i hi he)
      go_wp2_with fail
      go_ret
      exact ⟨_, rfl, by rw [HGF.out]; rfl, HB.out⟩
set_option maxRecDepth 100000 in
set_option maxHeartbeats 8000000 in
theorem contains_any (b o n c bx : Nat) (C : Cs) (x : List UInt8) (g : Bool) (w : World) (hn : n ≤ C.length) (hn64 : n ≤ 64) (hb : b < w.heap.size) (hc : ∀ i j u, i < n → (KC.row (C.getD i zc))[j]? = some u → w.cell? ⟨b, o + i * 7 + j, none⟩ = some u)
    (hx : w.cell? ⟨bx, 0, none⟩ = some (.string (str x))) (hg : g = true ↔ ∃ i, i < n ∧ (C.getD i zc).1.name = x) :
    Calls Try.prog 29 #[.slice (some ⟨b, o, none⟩) n c, .func (.func 30) #[] #[.pointer (some ⟨bx, 0, none⟩)]] w fun e w' => e = .returned (.bool g) ∧ Below w.heap.size w w' := by
  have H := Lib.hid (index_any b o n c bx C x g w hn hn64 hb hc hx hg)
  clear hn hn64 hb hc hx hg
  go_enter Try.func29, Try.ntmps29
  go_wp2_with (go_at_call 35; refine H.out.mono ?_; rintro e w5 ⟨z, rfl, tz, b5⟩; have B5 := Lib.hid b5; clear b5)
  go_ret
  exact ⟨rfl, B5.out⟩
set_option maxRecDepth 100000 in
set_option maxHeartbeats 8000000 in
/-- Has a card of the shelf that name? -/
theorem has_any (g off : Nat) (pre post : List Value) (C : Cs) (x : List UInt8) (gh : Bool) (w : World) (hW : Blk w g (pre ++ (roomV C ++ post))) (hpre : pre.length = off) (_hoff : off ≤ 4096) (h64 : C.length ≤ 64) (hg : gh = true ↔ ∃ i, i < C.length ∧ (C.getD i zc).1.name = x) :
    Calls Try.prog 22 #[.pointer (some ⟨g, off, none⟩), .string (str x)] w fun e w' => e = .returned (.bool gh) ∧ Below w.heap.size w w' := by
  have held : w.cell? ⟨g, off + 448, none⟩ = some (.int .i64 (C.length : Int)) := hW.cell (by rw [app_at' _ _ off 448 hpre]; exact app_in _ (room_held h64))
  have hgs := hW.lt
  have HC : Hid (∀ W, Below w.heap.size w W → ∀ i j u, i < C.length → (KC.row (C.getD i zc))[j]? = some u → W.cell? ⟨g, off + i * 7 + j, none⟩ = some u) := Lib.hid fun W hb i j u hi hu => by
    have hj : j < 7 := by rw [← rowC_len (C.getD i zc)]; exact (List.getElem?_eq_some_iff.1 hu).1
    refine (hb.cell (p := ⟨g, off + i * 7 + j, none⟩) hgs).trans (hW.cell ?_)
    rw [Nat.add_assoc, app_at' _ _ off _ hpre]
    exact app_in _ (app_in _ ((roomC_at C i j hi hj).trans hu))
  have HG := Lib.hid hg
  have bX := Lib.hid (grows' w (.cells #[.string (str x)] 9))
  have hX : (w.alloc (.cells #[.string (str x)] 9)).cell? ⟨w.heap.size, 0, none⟩ = some (.string (str x)) := by rw [Lib.cell_of_heap (heap_alloc_new w _)]; rfl
  have HK := Lib.hid fun (W : World) (hW : Below (w.alloc (.cells #[.string (str x)] 9)).heap.size (w.alloc (.cells #[.string (str x)] 9)) W) => contains_any g off C.length 64 w.heap.size C x gh W (Nat.le_refl _) h64 (Nat.lt_of_lt_of_le hgs (bt bX.out hW).size) (HC.out W (bt bX.out hW)) ((hW.cell (p := ⟨w.heap.size, 0, none⟩) (by simp)).trans hX) HG.out
  have heldY := (bX.out.cell (p := ⟨g, off + 448, none⟩) hgs).trans held
  have hn := Lib.hid (rfl : C.length = C.length)
  generalize C.length = n at held heldY h64 HK hn
  generalize str x = X at bX hX HK heldY ⊢
  clear held hg hW hpre HG HC
  have n1 : (0 : Int) ≤ (n : Int) := by omega
  have n2 : (n : Int) ≤ 64 := by omega
  go_enter Try.func22, Try.ntmps22
  go_upto_region 1 with (fail)
  generalize w.alloc (.cells #[.string X] 9) = y at bX hX HK heldY ⊢
  have HE : Hid (∀ W : World, Below y.heap.size y W → W.cell? ⟨g, off + 448, none⟩ = some (.int .i64 (n : Int)) ∧ Below y.heap.size y W) := Lib.hid fun W hW => ⟨(hW.cell (p := ⟨g, off + 448, none⟩) (Nat.lt_of_lt_of_le hgs bX.out.size)).trans heldY, hW⟩
  clear hX heldY
  refine wp_region_noPanic ?_
  refine wp_region_held_drew (S := fun w' => w'.cell? ⟨g, off + 448, none⟩ = some (.int .i64 (n : Int)) ∧ Below y.heap.size y w') (by kernel_rfl) (HE.out _ (below_dr (Below.refl _ _) 1)) (fun hHeld => ?_)
  first | (refine skipH (i := 0) (dst := some 5) rfl rfl (by kernel_rfl) (by kernel_rfl) (by kernel_rfl) (fun _ _ _ h => h) (by rfl) hHeld ?_) | (refine' takeH (i := 0) (dst := some 5) (v := _) rfl rfl (by kernel_rfl) (by kernel_rfl) (by kernel_rfl) (fun _ _ _ h => h) (by rfl) ?hy hHeld ?_; case hy => (intro w hSw; clear hSw; (first | done | go_simp); try with_reducible rfl)) | fail
  try simp only [Act.put, List.setIfInBounds_toArray, List.set_cons_zero, List.set_cons_succ]
  first | (refine skipH (i := 1) (dst := some 6) rfl rfl (by kernel_rfl) (by kernel_rfl) (by kernel_rfl) (fun _ _ _ h => h) (by rfl) hHeld ?_) | (refine' takeH (i := 1) (dst := some 6) (v := _) rfl rfl (by kernel_rfl) (by kernel_rfl) (by kernel_rfl) (fun _ _ _ h => h) (by rfl) ?hy hHeld ?_; case hy => (intro w hSw; clear hSw; (first | done | go_simp); try with_reducible rfl)) | fail
  try simp only [Act.put, List.setIfInBounds_toArray, List.set_cons_zero, List.set_cons_succ]
  first | (refine skipH (i := 2) (dst := some 7) rfl rfl (by kernel_rfl) (by kernel_rfl) (by kernel_rfl) (fun _ _ _ h => h) (by rfl) hHeld ?_) | (refine' takeH (i := 2) (dst := some 7) (v := _) rfl rfl (by kernel_rfl) (by kernel_rfl) (by kernel_rfl) (fun _ _ _ h => h) (by rfl) ?hy hHeld ?_; case hy => (intro w hSw; clear hSw; (first | done | go_simp); try with_reducible rfl)) | fail
  try simp only [Act.put, List.setIfInBounds_toArray, List.set_cons_zero, List.set_cons_succ]
  first | (refine skipH (i := 3) (dst := some 8) rfl rfl (by kernel_rfl) (by kernel_rfl) (by kernel_rfl) (fun _ _ _ h => h) (by rfl) hHeld ?_) | (refine' takeH (i := 3) (dst := some 8) (v := _) rfl rfl (by kernel_rfl) (by kernel_rfl) (by kernel_rfl) (fun _ _ _ h => h) (by rfl) ?hy hHeld ?_; case hy => (intro w hSw; clear hSw; (first | done | go_simp); try with_reducible rfl)) | fail
  try simp only [Act.put, List.setIfInBounds_toArray, List.set_cons_zero, List.set_cons_succ]
  first | (refine skipH (i := 4) (dst := some 9) rfl rfl (by kernel_rfl) (by kernel_rfl) (by kernel_rfl) (fun _ _ _ h => h) (by rfl) hHeld ?_) | (refine' takeH (i := 4) (dst := some 9) (v := _) rfl rfl (by kernel_rfl) (by kernel_rfl) (by kernel_rfl) (fun _ _ _ h => h) (by rfl) ?hy hHeld ?_; case hy => (intro w hSw; clear hSw; (first | done | go_simp); try with_reducible rfl)) | fail
  try simp only [Act.put, List.setIfInBounds_toArray, List.set_cons_zero, List.set_cons_succ]
  first | (refine skipH (i := 5) (dst := some 10) rfl rfl (by kernel_rfl) (by kernel_rfl) (by kernel_rfl) (fun _ _ _ h => h) (by rfl) hHeld ?_) | (refine' takeH (i := 5) (dst := some 10) (v := _) rfl rfl (by kernel_rfl) (by kernel_rfl) (by kernel_rfl) (fun _ _ _ h => h) (by rfl) ?hy hHeld ?_; case hy => (intro w hSw; clear hSw; (first | done | go_simp); try with_reducible rfl)) | fail
  try simp only [Act.put, List.setIfInBounds_toArray, List.set_cons_zero, List.set_cons_succ]
  first | (refine skipH (i := 6) (dst := some 11) rfl rfl (by kernel_rfl) (by kernel_rfl) (by kernel_rfl) (fun _ _ _ h => h) (by rfl) hHeld ?_) | (refine' takeH (i := 6) (dst := some 11) (v := _) rfl rfl (by kernel_rfl) (by kernel_rfl) (by kernel_rfl) (fun _ _ _ h => h) (by rfl) ?hy hHeld ?_; case hy => (intro w hSw; obtain ⟨_, _⟩ := hSw; (first | done | go_simp); try with_reducible rfl)) | fail
  try simp only [Act.put, List.setIfInBounds_toArray, List.set_cons_zero, List.set_cons_succ]
  first | (refine skipH (i := 7) (dst := some 12) rfl rfl (by kernel_rfl) (by kernel_rfl) (by kernel_rfl) (fun _ _ _ h => h) (by rfl) hHeld ?_) | (refine' takeH (i := 7) (dst := some 12) (v := _) rfl rfl (by kernel_rfl) (by kernel_rfl) (by kernel_rfl) (fun _ _ _ h => h) (by rfl) ?hy hHeld ?_; case hy => (intro w hSw; clear hSw; (first | done | go_simp); try with_reducible rfl)) | fail
  try simp only [Act.put, List.setIfInBounds_toArray, List.set_cons_zero, List.set_cons_succ]
  first | (refine skipH (i := 8) (dst := some 13) rfl rfl (by kernel_rfl) (by kernel_rfl) (by kernel_rfl) (fun _ _ _ h => h) (by rfl) hHeld ?_) | (refine' takeH (i := 8) (dst := some 13) (v := _) rfl rfl (by kernel_rfl) (by kernel_rfl) (by kernel_rfl) (fun _ _ _ h => h) (by rfl) ?hy hHeld ?_; case hy => (intro w hSw; clear hSw; (first | done | go_simp); try with_reducible rfl)) | fail
  try simp only [Act.put, List.setIfInBounds_toArray, List.set_cons_zero, List.set_cons_succ]
  refine wpAnyH_ready (rs := [9]) (by kernel_rfl) (by simp) ?_
  refine AllReadyH.cons (i := 9) (o := ⟨some 14, .call _, _, _, _, _⟩) rfl (fun K hK => ?_) AllReadyH.nil
  go_simp
  refine (HK.out _ hHeld.2).mono ?_
  rintro e w5 ⟨rfl, b5⟩
  have hH := HE.out _ (bt hHeld.2 b5)
  clear b5
  refine hK.out _ _ hH (fun _ => ?_)
  clear hK K hHeld
  have hHeld := hH
  clear hH
  try simp only [Act.put, List.setIfInBounds_toArray, List.set_cons_zero, List.set_cons_succ]
  first | (refine skipH (i := 10) (dst := some 4) rfl rfl (by kernel_rfl) (by kernel_rfl) (by kernel_rfl) (fun _ _ _ h => h) (by rfl) hHeld ?_) | (refine' takeH (i := 10) (dst := some 4) (v := _) rfl rfl (by kernel_rfl) (by kernel_rfl) (by kernel_rfl) (fun _ _ _ h => h) (by rfl) ?hy hHeld ?_; case hy => (intro w hSw; clear hSw; (first | done | go_simp); try with_reducible rfl)) | fail
  try simp only [Act.put, List.setIfInBounds_toArray, List.set_cons_zero, List.set_cons_succ]
  refine wpAnyH_done (by kernel_rfl) (NoPanic.normal ?_) _
  have B5 := Lib.hid (bt bX.out hHeld.2)
  clear hHeld
  go_wp2_with fail
  go_ret
  exact ⟨rfl, B5.out⟩
end Go.Proofs.Ytmlfnihicocilaa.Kr
