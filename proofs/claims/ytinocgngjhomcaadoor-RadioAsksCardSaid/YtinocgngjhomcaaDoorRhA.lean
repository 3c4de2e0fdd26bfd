/- Twenty places mixed: the program's (P12.2). -/
import Derived.Test.YtinocgngjhomcaaDoorRhM
import Derived.Test.YtinocgngjhomcaaDoorRaA
import Derived.Deep.CutBlock
import Derived.Laws.ResultCell
namespace Go.Proofs.YtinocgngjhomcaaDoor.Rh
open Go.ChangeShapes Go.WideShapes Go.ChangeAt Go.RowKit Own Ro Go.Sort

def enc (n : Nat) : Value := .int .i64 (n : Int)
def rowV (l : List Nat) : List Value := l.map enc
theorem rowV_len (l : List Nat) : (rowV l).length = l.length := by simp [rowV]
theorem rowV_at (l : List Nat) (i : Nat) (h : i < l.length) : (rowV l)[i]? = some (.int .i64 (l.getD i 0 : Nat)) := by
  unfold rowV enc
  rw [List.getElem?_map, List.getElem?_eq_getElem h, List.getD_eq_getElem?_getD, List.getElem?_eq_getElem h]
  rfl
theorem rowV_sw (l : List Nat) (i j : Nat) : ((rowV l).set i (.int .i64 (l.getD j 0 : Nat))).set j (.int .i64 (l.getD i 0 : Nat)) = rowV (sw l i j) := by
  unfold rowV sw
  rw [List.map_set, List.map_set]
  rfl
theorem rowV_one (l : List Nat) : (rowV l).toArray.all (·.oneCell') = true := all_oneCell_toArray fun v hv => by
  unfold rowV enc at hv
  rw [List.mem_map] at hv
  obtain ⟨n, _, rfl⟩ := hv
  rfl
/-- The next number: what the three steps are. -/
theorem next_ex (X : Nat) (hX : X < 18446744073709551616) : ∃ A B : Nat, A < 18446744073709551616 ∧ B < 18446744073709551616 ∧
    bits .xor .u64 (X : Int) (IntKind.u64.wrap ((X : Int) * 8192)) = (A : Int) ∧ bits .xor .u64 (A : Int) ((A : Int) / 128) = (B : Int) ∧
    bits .xor .u64 (B : Int) (IntKind.u64.wrap ((B : Int) * 131072)) = (xorNextN X : Nat) := by
  obtain ⟨A, hA⟩ : ∃ A : Nat, A = X ^^^ (X * 8192 % 18446744073709551616) := ⟨_, rfl⟩
  obtain ⟨B, hB⟩ : ∃ B : Nat, B = A ^^^ (A / 128) := ⟨_, rfl⟩
  obtain ⟨C, hC⟩ : ∃ C : Nat, C = B ^^^ (B * 131072 % 18446744073709551616) := ⟨_, rfl⟩
  have lA : A < 18446744073709551616 := by rw [hA]; exact Nat.xor_lt_two_pow (n := 64) (by omega) (by omega)
  have lB : B < 18446744073709551616 := by rw [hB]; exact Nat.xor_lt_two_pow (n := 64) (by omega) (by omega)
  have hv : xorNextN X = C := by unfold xorNextN; simp only []; rw [← hA, ← hB, ← hC]
  refine ⟨A, B, lA, lB, ?_, ?_, ?_⟩
  · rw [IntKind.wrap_u64, show ((X : Int) * 8192 % 18446744073709551616) = ((X * 8192 % 18446744073709551616 : Nat) : Int) by omega, bits_xor_u64_nat _ _ hX (by omega), hA]
  · rw [show ((A : Int) / 128) = ((A / 128 : Nat) : Int) by omega, bits_xor_u64_nat _ _ lA (by omega), hB]
  · rw [IntKind.wrap_u64, show ((B : Int) * 131072 % 18446744073709551616) = ((B * 131072 % 18446744073709551616 : Nat) : Int) by omega, bits_xor_u64_nat _ _ lB (by omega), hv, hC]
/-- A result that is a row of a block of one's own, and a number. -/
theorem results_row_tmp {P : Program} {fn : Func} {p u : Tmp} {ty : TypeId} (h : fn.results = #[.cell p ty, .tmp u]) (tmps : Array Value) (w : World) (g : Nat) (cs : List Value) (d : TypeDesc)
    (hp : tmps.getD p undef = .pointer (some ⟨g, 0, none⟩)) (hc : w.rangeAt g 0 cs)
    (hu : P.underlying ty = some d) (hd : d.isRow = true) (hi : (P.info? ty).map (·.size) = some cs.length) :
    (results fn tmps).run P w = .ok (.tuple #[.agg cs.toArray, tmps.getD u undef]) w := by
  rw [results_cell_tmp h, hp]
  simp [asAddr, run_loadVar_mid w g 0 ty cs d hc hu hd hi, Result.andThen]
theorem bsc {B : Nat} {a : World} (b : Nat) (hb : B ≤ b) : ∀ (vs : List Value) (o : Nat) {w : World}, Below B a w → Below B a (w.setCells b o vs)
  | [], _, _, h => h
  | v :: r, o, _, h => bsc b hb r (o + 1) (h.setCell (p := ⟨b, o, none⟩) hb v)
/-- A row of twenty in a block of its own. -/
def RowAt (b g : Nat) (l : List Value) (w : World) : Prop := w.ownsRow b 70 1 (.slice (some ⟨g, 0, none⟩) 20 20) 20 l
theorem RowAt.new (w : World) (c : Array Value) (b : Nat) (hb : b ≤ w.heap.size) (hc : c.size = 20) : RowAt b w.heap.size c.toList (w.alloc (.cells c 70)) :=
  World.ownsRow_lit (base := b) (e := 70) (size := 1) w c 20 hb (by unfold maxLen; omega) (by omega)
theorem RowAt.there {b g : Nat} {l : List Value} {w : World} (h : RowAt b g l w) : w.there g 0 20 := fun j hj => by
  refine ⟨?_, h.frozenAt _⟩
  rw [Nat.zero_add, h.cellAt j (by omega), Option.isSome_iff_exists]
  exact ⟨_, List.getElem?_eq_getElem (by rw [h.1]; omega)⟩
theorem RowAt.range {b g : Nat} {l : List Value} {w : World} (h : RowAt b g l w) : w.rangeAt g 0 l := fun j v hv => by
  rw [Nat.zero_add, h.cellAt j (by have := (List.getElem?_eq_some_iff.1 hv).1; have h1 := h.1; omega)]
  exact hv
theorem RowAt.lt {b g : Nat} {l : List Value} {w : World} (h : RowAt b g l w) : b ≤ g ∧ g < w.heap.size := by
  obtain ⟨g', hg, h1, h2⟩ := own_shapeK h (by omega)
  injection hg with hg
  injection hg with hg
  subst hg
  exact ⟨h1, h2⟩
theorem RowAt.set {b g : Nat} {l : List Value} {w : World} (h : RowAt b g l w) (i : Nat) (v : Value) : RowAt b g (l.set i v) (w.setCell ⟨g, i, none⟩ v) := (h.stored i v).1
theorem RowAt.setNe {b g g' : Nat} {l : List Value} {w : World} (h : RowAt b g l w) (hne : g ≠ g') (i : Nat) (v : Value) : RowAt b g l (w.setCell ⟨g', i, none⟩ v) :=
  own_keptNe h (set_grown w ⟨g', i, none⟩ v) (fun e => hne (Option.some.inj e))
theorem RowAt.below {b g : Nat} {l : List Value} {w w' : World} (h : RowAt b g l w) (hb : Below w.heap.size w w') : RowAt b g l w' := own_belowK h hb
theorem RowAt.drew {b g : Nat} {l : List Value} {w : World} (h : RowAt b g l w) : RowAt b g l w.drew := h.below (below_dr (Below.refl _ _) 1)
theorem bdr {B : Nat} {w w' : World} (h : Below B w w') : Below B w w'.drew := below_dr h 1
theorem mixS_succ (k : Nat) (l : List Nat) (x : Nat) : mixS (k + 1) (l, x) = mixS k (sw l (k + 1) (xorNextN x % (k + 2)), xorNextN x) := rfl
set_option maxRecDepth 100000 in
set_option maxHeartbeats 16000000 in
theorem mixed_any (l : List Nat) (x : Nat) (hl : Good l) (hx : x < 18446744073709551616) (w : World) :
    Calls Tryd.prog 37 #[.agg (rowV l).toArray, .int .u64 x] w (fun e w' => e = .returned (.tuple #[.agg (rowV (mixS 19 (l, x)).1).toArray, .int .u64 ((mixS 19 (l, x)).2 : Nat)]) ∧ Below w.heap.size w w') := by
  have HG := Lib.hid hl
  have HS := Lib.hid (show (rowV l).toArray.size = 20 by rw [List.size_toArray, rowV_len, hl.len])
  clear hl
  generalize hM : mixS 19 (l, x) = M
  have HM := Lib.hid hM
  clear hM
  go_enter Tryd.func37, Tryd.ntmps37
  go_wp2_with fail
  have H2 := Lib.hid ((RowAt.new w (rowV l).toArray w.heap.size (Nat.le_refl _) HS.out).below (grows' _ (.cells #[.int .i64 0, .int .i64 0, .int .i64 0, .int .i64 0, .int .i64 0, .int .i64 0, .int .i64 0, .int .i64 0, .int .i64 0, .int .i64 0, .int .i64 0, .int .i64 0, .int .i64 0, .int .i64 0, .int .i64 0, .int .i64 0, .int .i64 0, .int .i64 0, .int .i64 0, .int .i64 0] 70)))
  have H4 := Lib.hid (RowAt.new (w.alloc (.cells (rowV l).toArray 70)) #[.int .i64 0, .int .i64 0, .int .i64 0, .int .i64 0, .int .i64 0, .int .i64 0, .int .i64 0, .int .i64 0, .int .i64 0, .int .i64 0, .int .i64 0, .int .i64 0, .int .i64 0, .int .i64 0, .int .i64 0, .int .i64 0, .int .i64 0, .int .i64 0, .int .i64 0, .int .i64 0] w.heap.size (by simp) rfl)
  have HB := Lib.hid (bt (grows' w (.cells (rowV l).toArray 70)) (grows' (w.alloc (.cells (rowV l).toArray 70)) (.cells #[.int .i64 0, .int .i64 0, .int .i64 0, .int .i64 0, .int .i64 0, .int .i64 0, .int .i64 0, .int .i64 0, .int .i64 0, .int .i64 0, .int .i64 0, .int .i64 0, .int .i64 0, .int .i64 0, .int .i64 0, .int .i64 0, .int .i64 0, .int .i64 0, .int .i64 0, .int .i64 0] 70)))
  rw [show (w.alloc (.cells (rowV l).toArray 70)).heap.size = w.heap.size + 1 by simp] at H4
  rw [List.toList_toArray] at H2
  generalize (w.alloc (.cells (rowV l).toArray 70)).alloc (.cells #[.int .i64 0, .int .i64 0, .int .i64 0, .int .i64 0, .int .i64 0, .int .i64 0, .int .i64 0, .int .i64 0, .int .i64 0, .int .i64 0, .int .i64 0, .int .i64 0, .int .i64 0, .int .i64 0, .int .i64 0, .int .i64 0, .int .i64 0, .int .i64 0, .int .i64 0, .int .i64 0] 70) = W at H2 H4 HB ⊢
  clear HS
  obtain ⟨l0, hl0⟩ : ∃ l0, l0 = l := ⟨_, rfl⟩
  rw [← hl0] at H2 HG HM
  clear hl0
  generalize hg0 : w.heap.size = g at H2 H4 HB ⊢
  have HGG := Lib.hid hg0
  clear hg0
  go_loopw [1, 6, 7] (fun v1 v6 _ wr => ∃ (k x' : Nat) (l' : List Nat), k ≤ 19 ∧ x' < 18446744073709551616 ∧ v1 = .int .u64 (x' : Int) ∧ v6 = .int .i64 (k : Int) ∧ Good l' ∧ mixS k (l', x') = M ∧ RowAt g g (rowV l') wr ∧ RowAt g (g + 1) (List.replicate 20 (.int .i64 0)) wr ∧ Below g w wr) (fun _ v6 _ _ => (RowKit.intOf v6).toNat)
  case atStart => exact ⟨19, x, l0, by omega, hx, rfl, rfl, HG.out, HM.out, H2.out, H4.out, HB.out⟩
  case round =>
    obtain ⟨k, x', l', hk, hx', rfl, rfl, hgd, hmx, h2, h4, hb⟩ := hrel
    clear H2 H4 HB HM HG hx
    have H2 := Lib.hid h2
    have H4 := Lib.hid h4
    have HB := Lib.hid hb
    have HM := Lib.hid hmx
    have HG := Lib.hid hgd
    have hgs := h2.lt.2
    clear h2 h4 hb hmx hgd
    by_cases hlt : 0 < k
    · obtain ⟨A, B, lA, lB, e1, e2, e3⟩ := next_ex x' hx'
      have HN := Lib.hid (xorNextN_lt x' hx')
      have HM' := Lib.hid (show mixS (k - 1) (sw l' k (xorNextN x' % (k + 1)), xorNextN x') = M from by
        have := HM.out
        rw [show k = k - 1 + 1 by omega, mixS_succ] at this
        rwa [show k - 1 + 1 = k by omega, show k - 1 + 2 = k + 1 by omega] at this)
      clear HM
      generalize xorNextN x' = N at e3 HN HM'
      obtain ⟨i, hi⟩ : ∃ i, N % (k + 1) = i := ⟨_, rfl⟩
      have hi1 : i < 20 := by have := Nat.mod_lt N (show 0 < k + 1 by omega); omega
      have e4 : Int.tmod (N : Int) ((k : Int) + 1) = (i : Int) := by
        rw [Int.tmod_eq_emod_of_nonneg (by omega), show (k : Int) + 1 = ((k + 1 : Nat) : Int) by simp, ← Int.natCast_emod, hi]
      have e5 : (N : Int) % ((k : Int) + 1) = (i : Int) := by
        rw [show (k : Int) + 1 = ((k + 1 : Nat) : Int) by simp, ← Int.natCast_emod, hi]
      rw [hi] at HM'
      have hll := HG.out.len
      have k2 : k < 20 := by omega
      have ci := H2.out.cellAt i (by omega)
      have ck := H2.out.cellAt k (by omega)
      rw [rowV_at l' i (by omega)] at ci
      rw [rowV_at l' k (by omega)] at ck
      have fi := H2.out.frozenAt i
      have fk := H2.out.frozenAt k
      have ci2 := (H2.out.set k (.int .i64 (l'.getD i 0 : Nat))).cellAt i (by omega)
      have fi2 := (H2.out.set k (.int .i64 (l'.getD i 0 : Nat))).frozenAt i
      obtain ⟨u, hu⟩ : ∃ u, ((rowV l').set k (.int .i64 (l'.getD i 0 : Nat)))[i]? = some u := ⟨_, List.getElem?_eq_getElem (by rw [List.length_set, rowV_len]; omega)⟩
      rw [hu] at ci2
      have S2 := Lib.hid ((H2.out.set k (.int .i64 (l'.getD i 0 : Nat))).set i (.int .i64 (l'.getD k 0 : Nat)))
      rw [rowV_sw] at S2
      have S4 := Lib.hid ((H4.out.setNe (by omega : g + 1 ≠ g) k (.int .i64 (l'.getD i 0 : Nat))).setNe (by omega : g + 1 ≠ g) i (.int .i64 (l'.getD k 0 : Nat)))
      have SB := Lib.hid ((HB.out.setCell (p := ⟨g, k, none⟩) (Nat.le_refl _) (.int .i64 (l'.getD i 0 : Nat))).setCell (p := ⟨g, i, none⟩) (Nat.le_refl _) (.int .i64 (l'.getD k 0 : Nat)))
      have SG := Lib.hid (HG.out.sw k2 hi1)
      clear hi hu hll H2 H4 HB HG
      generalize l'.getD i 0 = vi at *
      generalize l'.getD k 0 = vk at *
      have b1 : (0 : Int) ≤ (i : Int) := by omega
      have b2 : (i : Int) < 20 := by omega
      have b3 : (0 : Int) ≤ (k : Int) := by omega
      have b4 : (k : Int) < 20 := by omega
      go_upto_region 8 with fail
      go_big_region
      have T2 := Lib.hid S2.out.drew
      have T4 := Lib.hid S4.out.drew
      have TB := Lib.hid (bdr SB.out)
      clear S2 S4 SB ci ck fi fk ci2 fi2
      generalize ((wr.setCell ⟨g, k, none⟩ (.int .i64 (vi : Int))).setCell ⟨g, i, none⟩ (.int .i64 (vk : Int))).drew = w2 at T2 T4 TB ⊢
      go_wp2_with fail
      go_roundw
      case rel => exact ⟨k - 1, N, _, by omega, HN.out, by go_num, by go_num, SG.out, HM'.out, T2.out, T4.out, TB.out⟩
      case measure => simp [RowKit.intOf]; omega
    · obtain rfl : k = 0 := by omega
      have hML : mixS 0 (l', x') = M := HM.out
      rw [show mixS 0 (l', x') = (l', x') from rfl] at hML
      subst hML
      clear HM
      have HR := H2.out.range
      have HTH := H4.out.there
      have hsz : (rowV l').length = 20 := by rw [rowV_len, HG.out.len]
      go_upto_region 9 with fail
      go_wp2_with (first | refine Ra.wpList_load_row' rfl 70 (.tmp 2) rfl g rfl (rowV l') (.array 20 3) HR (by kernel_rfl) rfl (by rw [hsz]; kernel_rfl) ?_ | refine wpList_store_mid (op := ⟨none, .store 70 (.tmp 4) (.tmp 39), _, _, _, _⟩) rfl 70 (.tmp 4) (.tmp 39) rfl (g + 1) 0 (rowV l').toArray rfl rfl (by rw [List.size_toArray, hsz]; exact HTH) (by rw [List.size_toArray, hsz]; kernel_rfl) (rowV_one l') ?_)
      have HR4 := World.rangeAt_setCells_same wr (g + 1) 0 (rowV l') (by rw [hsz]; exact HTH)
      have HB4 := bsc (B := g) (a := w) (g + 1) (by omega) (rowV l') 0 HB.out
      generalize wr.setCells (g + 1) 0 (rowV l') = w4 at HR4 HB4 ⊢
      refine bodyPost_ret (results_row_tmp rfl _ _ (g + 1) (rowV l') _ rfl HR4 Tryd.underlying70 (by kernel_rfl) (by rw [hsz]; kernel_rfl)) rfl ?_
      exact ⟨rfl, by rw [HGG.out]; exact HB4⟩
end Go.Proofs.YtinocgngjhomcaaDoor.Rh
