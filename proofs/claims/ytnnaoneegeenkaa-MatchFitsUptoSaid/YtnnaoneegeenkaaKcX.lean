/- Copies of cards: Twin, Twins; SameAll. -/
import Derived.Test.YtnnaoneegeenkaaKcW
import Derived.Deep.DeepCutAuto
namespace Go.Proofs.Ytnnaoneegeenkaa.Kc
open Go.ChangeShapes Go.WideShapes Go.ChangeAt Go.RowKit Own Ro wordsNames

theorem info_str : (Try.prog.info? 9).map (fun i => (i.zero, i.size, i.bytes)) = some (some (.string ⟨#[]⟩), 1, 16) := by kernel_rfl
/-- A card in memory of the call's own. -/
def MadeC (a : Cd) (w : World) (e : Ending) (w' : World) : Prop :=
  ∃ A c n, e = .returned (cardV a (A, n, c)) ∧ n = a.compat.length ∧ w'.ownsRow w.heap.size 9 1 (.slice A n c) n (strs a.compat) ∧ Below w.heap.size w w'
theorem own_set {w : World} {b' : Nat} {E : TypeId} {k m : Nat} {v : Value} {xs : List Value} {p : Addr} {u : Value} (h : w.ownsRow b' E k v m xs) (hp : p.block < b') : (w.setCell p u).ownsRow b' E k v m xs := own_keptLow h (set_grown w p u) hp
set_option maxRecDepth 100000 in
set_option maxHeartbeats 8000000 in
theorem twin_any (a : Cd) (r : Sl) (w : World) (hm : MildC 1099511627776 a) (hr : r.2.1 = a.compat.length) (hne : Neat r) (hs : CellsIn w 1 r.1 r.2.1 (strs a.compat)) :
    Calls Try.prog 17 #[cardV a r] w (MadeC a w) := by
  have HS := Lib.hid fun (W : World) (hW : Below w.heap.size w W) => (hs.below hW).src (c := r.2.2) hne
  have hrb : r.2.1 ≤ 1099511627776 := by have := hm.2.2.2.1; omega
  have HRL := Lib.hid hr
  clear hr hne hs hm
  unfold cardV cells7
  obtain ⟨nm, fm, lv, cp, sc, qk, en⟩ := a
  obtain ⟨ra, rn, rc⟩ := r
  simp only [slV] at HS hrb HRL ⊢
  generalize hS1 : str nm = S1
  generalize hS2 : str fm = S2
  generalize hS3 : str qk = S3
  have HS1 := Lib.hid hS1
  have HS2 := Lib.hid hS2
  have HS3 := Lib.hid hS3
  clear hS1 hS2 hS3
  go_enter Try.func17, Try.ntmps17
  have c0 : ((w.alloc (.cells #[.string S1, .string S2, .int .u8 lv, .slice ra rn rc, .int .i8 sc, .string S3, .int .i16 en] 37)).alloc (.cells #[.string ⟨#[]⟩, .string ⟨#[]⟩, .int .u8 0, .slice none 0 0, .int .i8 0, .string ⟨#[]⟩, .int .i16 0] 37)).cell? ⟨w.heap.size, 0, none⟩ = some (.string S1) := by rw [World.cell?_alloc2_first]; rfl
  have d0 : ((w.alloc (.cells #[.string S1, .string S2, .int .u8 lv, .slice ra rn rc, .int .i8 sc, .string S3, .int .i16 en] 37)).alloc (.cells #[.string ⟨#[]⟩, .string ⟨#[]⟩, .int .u8 0, .slice none 0 0, .int .i8 0, .string ⟨#[]⟩, .int .i16 0] 37)).cell? ⟨w.heap.size + 1, 0, none⟩ = some (.string ⟨#[]⟩) := by rw [World.cell?_alloc2_new]; rfl
  have c1 : ((w.alloc (.cells #[.string S1, .string S2, .int .u8 lv, .slice ra rn rc, .int .i8 sc, .string S3, .int .i16 en] 37)).alloc (.cells #[.string ⟨#[]⟩, .string ⟨#[]⟩, .int .u8 0, .slice none 0 0, .int .i8 0, .string ⟨#[]⟩, .int .i16 0] 37)).cell? ⟨w.heap.size, 1, none⟩ = some (.string S2) := by rw [World.cell?_alloc2_first]; rfl
  have d1 : ((w.alloc (.cells #[.string S1, .string S2, .int .u8 lv, .slice ra rn rc, .int .i8 sc, .string S3, .int .i16 en] 37)).alloc (.cells #[.string ⟨#[]⟩, .string ⟨#[]⟩, .int .u8 0, .slice none 0 0, .int .i8 0, .string ⟨#[]⟩, .int .i16 0] 37)).cell? ⟨w.heap.size + 1, 1, none⟩ = some (.string ⟨#[]⟩) := by rw [World.cell?_alloc2_new]; rfl
  have c2 : ((w.alloc (.cells #[.string S1, .string S2, .int .u8 lv, .slice ra rn rc, .int .i8 sc, .string S3, .int .i16 en] 37)).alloc (.cells #[.string ⟨#[]⟩, .string ⟨#[]⟩, .int .u8 0, .slice none 0 0, .int .i8 0, .string ⟨#[]⟩, .int .i16 0] 37)).cell? ⟨w.heap.size, 2, none⟩ = some (.int .u8 lv) := by rw [World.cell?_alloc2_first]; rfl
  have d2 : ((w.alloc (.cells #[.string S1, .string S2, .int .u8 lv, .slice ra rn rc, .int .i8 sc, .string S3, .int .i16 en] 37)).alloc (.cells #[.string ⟨#[]⟩, .string ⟨#[]⟩, .int .u8 0, .slice none 0 0, .int .i8 0, .string ⟨#[]⟩, .int .i16 0] 37)).cell? ⟨w.heap.size + 1, 2, none⟩ = some (.int .u8 0) := by rw [World.cell?_alloc2_new]; rfl
  have c3 : ((w.alloc (.cells #[.string S1, .string S2, .int .u8 lv, .slice ra rn rc, .int .i8 sc, .string S3, .int .i16 en] 37)).alloc (.cells #[.string ⟨#[]⟩, .string ⟨#[]⟩, .int .u8 0, .slice none 0 0, .int .i8 0, .string ⟨#[]⟩, .int .i16 0] 37)).cell? ⟨w.heap.size, 3, none⟩ = some (.slice ra rn rc) := by rw [World.cell?_alloc2_first]; rfl
  have d3 : ((w.alloc (.cells #[.string S1, .string S2, .int .u8 lv, .slice ra rn rc, .int .i8 sc, .string S3, .int .i16 en] 37)).alloc (.cells #[.string ⟨#[]⟩, .string ⟨#[]⟩, .int .u8 0, .slice none 0 0, .int .i8 0, .string ⟨#[]⟩, .int .i16 0] 37)).cell? ⟨w.heap.size + 1, 3, none⟩ = some (.slice none 0 0) := by rw [World.cell?_alloc2_new]; rfl
  have c4 : ((w.alloc (.cells #[.string S1, .string S2, .int .u8 lv, .slice ra rn rc, .int .i8 sc, .string S3, .int .i16 en] 37)).alloc (.cells #[.string ⟨#[]⟩, .string ⟨#[]⟩, .int .u8 0, .slice none 0 0, .int .i8 0, .string ⟨#[]⟩, .int .i16 0] 37)).cell? ⟨w.heap.size, 4, none⟩ = some (.int .i8 sc) := by rw [World.cell?_alloc2_first]; rfl
  have d4 : ((w.alloc (.cells #[.string S1, .string S2, .int .u8 lv, .slice ra rn rc, .int .i8 sc, .string S3, .int .i16 en] 37)).alloc (.cells #[.string ⟨#[]⟩, .string ⟨#[]⟩, .int .u8 0, .slice none 0 0, .int .i8 0, .string ⟨#[]⟩, .int .i16 0] 37)).cell? ⟨w.heap.size + 1, 4, none⟩ = some (.int .i8 0) := by rw [World.cell?_alloc2_new]; rfl
  have c5 : ((w.alloc (.cells #[.string S1, .string S2, .int .u8 lv, .slice ra rn rc, .int .i8 sc, .string S3, .int .i16 en] 37)).alloc (.cells #[.string ⟨#[]⟩, .string ⟨#[]⟩, .int .u8 0, .slice none 0 0, .int .i8 0, .string ⟨#[]⟩, .int .i16 0] 37)).cell? ⟨w.heap.size, 5, none⟩ = some (.string S3) := by rw [World.cell?_alloc2_first]; rfl
  have d5 : ((w.alloc (.cells #[.string S1, .string S2, .int .u8 lv, .slice ra rn rc, .int .i8 sc, .string S3, .int .i16 en] 37)).alloc (.cells #[.string ⟨#[]⟩, .string ⟨#[]⟩, .int .u8 0, .slice none 0 0, .int .i8 0, .string ⟨#[]⟩, .int .i16 0] 37)).cell? ⟨w.heap.size + 1, 5, none⟩ = some (.string ⟨#[]⟩) := by rw [World.cell?_alloc2_new]; rfl
  have c6 : ((w.alloc (.cells #[.string S1, .string S2, .int .u8 lv, .slice ra rn rc, .int .i8 sc, .string S3, .int .i16 en] 37)).alloc (.cells #[.string ⟨#[]⟩, .string ⟨#[]⟩, .int .u8 0, .slice none 0 0, .int .i8 0, .string ⟨#[]⟩, .int .i16 0] 37)).cell? ⟨w.heap.size, 6, none⟩ = some (.int .i16 en) := by rw [World.cell?_alloc2_first]; rfl
  have d6 : ((w.alloc (.cells #[.string S1, .string S2, .int .u8 lv, .slice ra rn rc, .int .i8 sc, .string S3, .int .i16 en] 37)).alloc (.cells #[.string ⟨#[]⟩, .string ⟨#[]⟩, .int .u8 0, .slice none 0 0, .int .i8 0, .string ⟨#[]⟩, .int .i16 0] 37)).cell? ⟨w.heap.size + 1, 6, none⟩ = some (.int .i16 0) := by rw [World.cell?_alloc2_new]; rfl
  have f3 : ((w.alloc (.cells #[.string S1, .string S2, .int .u8 lv, .slice ra rn rc, .int .i8 sc, .string S3, .int .i16 en] 37)).alloc (.cells #[.string ⟨#[]⟩, .string ⟨#[]⟩, .int .u8 0, .slice none 0 0, .int .i8 0, .string ⟨#[]⟩, .int .i16 0] 37)).frozen? ⟨w.heap.size, 3, none⟩ = false := by rw [World.frozen?_alloc2_first]
  have g0 : ((w.alloc (.cells #[.string S1, .string S2, .int .u8 lv, .slice ra rn rc, .int .i8 sc, .string S3, .int .i16 en] 37)).alloc (.cells #[.string ⟨#[]⟩, .string ⟨#[]⟩, .int .u8 0, .slice none 0 0, .int .i8 0, .string ⟨#[]⟩, .int .i16 0] 37)).frozen? ⟨w.heap.size + 1, 0, none⟩ = false := by rw [World.frozen?_alloc2_new]
  have g1 : ((w.alloc (.cells #[.string S1, .string S2, .int .u8 lv, .slice ra rn rc, .int .i8 sc, .string S3, .int .i16 en] 37)).alloc (.cells #[.string ⟨#[]⟩, .string ⟨#[]⟩, .int .u8 0, .slice none 0 0, .int .i8 0, .string ⟨#[]⟩, .int .i16 0] 37)).frozen? ⟨w.heap.size + 1, 1, none⟩ = false := by rw [World.frozen?_alloc2_new]
  have g2 : ((w.alloc (.cells #[.string S1, .string S2, .int .u8 lv, .slice ra rn rc, .int .i8 sc, .string S3, .int .i16 en] 37)).alloc (.cells #[.string ⟨#[]⟩, .string ⟨#[]⟩, .int .u8 0, .slice none 0 0, .int .i8 0, .string ⟨#[]⟩, .int .i16 0] 37)).frozen? ⟨w.heap.size + 1, 2, none⟩ = false := by rw [World.frozen?_alloc2_new]
  have g3 : ((w.alloc (.cells #[.string S1, .string S2, .int .u8 lv, .slice ra rn rc, .int .i8 sc, .string S3, .int .i16 en] 37)).alloc (.cells #[.string ⟨#[]⟩, .string ⟨#[]⟩, .int .u8 0, .slice none 0 0, .int .i8 0, .string ⟨#[]⟩, .int .i16 0] 37)).frozen? ⟨w.heap.size + 1, 3, none⟩ = false := by rw [World.frozen?_alloc2_new]
  have g4 : ((w.alloc (.cells #[.string S1, .string S2, .int .u8 lv, .slice ra rn rc, .int .i8 sc, .string S3, .int .i16 en] 37)).alloc (.cells #[.string ⟨#[]⟩, .string ⟨#[]⟩, .int .u8 0, .slice none 0 0, .int .i8 0, .string ⟨#[]⟩, .int .i16 0] 37)).frozen? ⟨w.heap.size + 1, 4, none⟩ = false := by rw [World.frozen?_alloc2_new]
  have g5 : ((w.alloc (.cells #[.string S1, .string S2, .int .u8 lv, .slice ra rn rc, .int .i8 sc, .string S3, .int .i16 en] 37)).alloc (.cells #[.string ⟨#[]⟩, .string ⟨#[]⟩, .int .u8 0, .slice none 0 0, .int .i8 0, .string ⟨#[]⟩, .int .i16 0] 37)).frozen? ⟨w.heap.size + 1, 5, none⟩ = false := by rw [World.frozen?_alloc2_new]
  have g6 : ((w.alloc (.cells #[.string S1, .string S2, .int .u8 lv, .slice ra rn rc, .int .i8 sc, .string S3, .int .i16 en] 37)).alloc (.cells #[.string ⟨#[]⟩, .string ⟨#[]⟩, .int .u8 0, .slice none 0 0, .int .i8 0, .string ⟨#[]⟩, .int .i16 0] 37)).frozen? ⟨w.heap.size + 1, 6, none⟩ = false := by rw [World.frozen?_alloc2_new]
  have hz : w.heap.size + 1 < ((w.alloc (.cells #[.string S1, .string S2, .int .u8 lv, .slice ra rn rc, .int .i8 sc, .string S3, .int .i16 en] 37)).alloc (.cells #[.string ⟨#[]⟩, .string ⟨#[]⟩, .int .u8 0, .slice none 0 0, .int .i8 0, .string ⟨#[]⟩, .int .i16 0] 37)).heap.size := by simp
  have BW := Lib.hid (bal (bal (Below.refl w.heap.size w) rfl (.cells #[.string S1, .string S2, .int .u8 lv, .slice ra rn rc, .int .i8 sc, .string S3, .int .i16 en] 37)) rfl (.cells #[.string ⟨#[]⟩, .string ⟨#[]⟩, .int .u8 0, .slice none 0 0, .int .i8 0, .string ⟨#[]⟩, .int .i16 0] 37))
  go_upto_region 1 with (fail)
  generalize ((w.alloc (.cells #[.string S1, .string S2, .int .u8 lv, .slice ra rn rc, .int .i8 sc, .string S3, .int .i16 en] 37)).alloc (.cells #[.string ⟨#[]⟩, .string ⟨#[]⟩, .int .u8 0, .slice none 0 0, .int .i8 0, .string ⟨#[]⟩, .int .i16 0] 37)) = W2 at c0 c1 c2 c3 c4 c5 c6 d0 d1 d2 d3 d4 d5 d6 f3 g0 g1 g2 g3 g4 g5 g6 hz BW ⊢
  have hz1 : w.heap.size < W2.heap.size := by omega
  have c3a : (W2.alloc (.cells #[] 9)).cell? ⟨w.heap.size, 3, none⟩ = some (.slice ra rn rc) := ((grows' W2 _).cell (p := ⟨w.heap.size, 3, none⟩) (by show w.heap.size < _; omega)).trans c3
  go_wp2_with (first
    | (at_builtin; (refine wpList_append_srcK (o := ⟨some 6, _, _, _, _, _⟩) rfl (.tmp 3) (.tmp 5) 23 rfl W2.heap.size 9 (.string ⟨#[]⟩) 1 16 (by omega) Try.underlying23 info_str rfl _ 0 [] rfl (own_emptyK W2 9 1) ra rn rc (strs cp) rfl (HS.out _ (bt BW.out (grows' W2 _))) (one_strs cp) (by omega) (by omega) (by simp) ?_); intro v2 w2 ho2 hg2; rw [Nat.zero_add, List.nil_append] at ho2; obtain ⟨B2, d2', rfl, _⟩ := own_srcK ho2; have hb := below_first hg2; have HB2 := Lib.hid (bt BW.out hb); have HO2 := Lib.hid ho2; have hz2 := hb.size; replace c0 := (hb.cell (p := ⟨w.heap.size, 0, none⟩) hz1).trans c0; replace c1 := (hb.cell (p := ⟨w.heap.size, 1, none⟩) hz1).trans c1; replace c2 := (hb.cell (p := ⟨w.heap.size, 2, none⟩) hz1).trans c2; replace c3 := (hb.cell (p := ⟨w.heap.size, 3, none⟩) hz1).trans c3; replace c4 := (hb.cell (p := ⟨w.heap.size, 4, none⟩) hz1).trans c4; replace c5 := (hb.cell (p := ⟨w.heap.size, 5, none⟩) hz1).trans c5; replace c6 := (hb.cell (p := ⟨w.heap.size, 6, none⟩) hz1).trans c6; replace d0 := (hb.cell (p := ⟨w.heap.size + 1, 0, none⟩) hz).trans d0; replace d1 := (hb.cell (p := ⟨w.heap.size + 1, 1, none⟩) hz).trans d1; replace d2 := (hb.cell (p := ⟨w.heap.size + 1, 2, none⟩) hz).trans d2; replace d3 := (hb.cell (p := ⟨w.heap.size + 1, 3, none⟩) hz).trans d3; replace d4 := (hb.cell (p := ⟨w.heap.size + 1, 4, none⟩) hz).trans d4; replace d5 := (hb.cell (p := ⟨w.heap.size + 1, 5, none⟩) hz).trans d5; replace d6 := (hb.cell (p := ⟨w.heap.size + 1, 6, none⟩) hz).trans d6; replace f3 := (hb.frozen (p := ⟨w.heap.size, 3, none⟩) hz1).trans f3; replace g0 := (hb.frozen (p := ⟨w.heap.size + 1, 0, none⟩) hz).trans g0; replace g1 := (hb.frozen (p := ⟨w.heap.size + 1, 1, none⟩) hz).trans g1; replace g2 := (hb.frozen (p := ⟨w.heap.size + 1, 2, none⟩) hz).trans g2; replace g3 := (hb.frozen (p := ⟨w.heap.size + 1, 3, none⟩) hz).trans g3; replace g4 := (hb.frozen (p := ⟨w.heap.size + 1, 4, none⟩) hz).trans g4; replace g5 := (hb.frozen (p := ⟨w.heap.size + 1, 5, none⟩) hz).trans g5; replace g6 := (hb.frozen (p := ⟨w.heap.size + 1, 6, none⟩) hz).trans g6; clear hb ho2 hg2))
  have HZ : Hid (w.heap.size < W2.heap.size ∧ w.heap.size + 1 < W2.heap.size) := Lib.hid ⟨hz1, hz⟩
  refine bodyPost_ret (v := .agg #[.string S1, .string S2, .int .u8 lv, .slice B2 rn d2', .int .i8 sc, .string S3, .int .i16 en]) (by simp [results, Try.results17, go_sem, *]) rfl ⟨B2, d2', rn, ?_, HRL.out, ?_, ?_⟩
  · unfold cardV cells7
    rw [HS1.out, HS2.out, HS3.out]
    rfl
  · exact own_monoK (own_set (own_set (own_set (own_set (own_set (own_set (own_set (own_set HO2.out HZ.out.1) HZ.out.2) HZ.out.2) HZ.out.2) HZ.out.2) HZ.out.2) HZ.out.2) HZ.out.2) (by have := HZ.out.1; omega)
  · exact below_set (below_set (below_set (below_set (below_set (below_set (below_set (below_set HB2.out (Nat.le_refl _) _) (Nat.le_succ _) _) (Nat.le_succ _) _) (Nat.le_succ _) _) (Nat.le_succ _) _) (Nat.le_succ _) _) (Nat.le_succ _) _) (Nat.le_succ _) _
end Go.Proofs.Ytnnaoneegeenkaa.Kc
