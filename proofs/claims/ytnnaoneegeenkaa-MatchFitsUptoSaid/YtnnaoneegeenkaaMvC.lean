/- Which card fits, as the document has it: Fit. -/
import Derived.Test.YtnnaoneegeenkaaMvB
namespace Go.Proofs.Ytnnaoneegeenkaa.Mv
open Go.ChangeShapes Go.WideShapes Go.ChangeAt Go.RowKit Own Ro Kc wordsNames Go.Maps Go.WideMaps
open Mt

set_option maxRecDepth 100000 in
set_option maxHeartbeats 16000000 in
theorem refFit_any (A B : Option Addr) (c n d m : Nat) (L : List Cd) (R : List Sl) (ls : List Tx) (cd tx er : Int) (w : World) (hf : FitRel L ls cd tx er) (hm : MildL 1099511627776 L) (hnc : n ≤ c) (hs : Ro.RowsIn KC w A n L R)
    (hmn : m = ls.length) (hmb : m ≤ 1099511627776) (hB : CellsIn w 1 B m (Kc.strs ls)) :
    Calls Try.prog 6 #[.slice A n c, .slice B m d] w fun e w' => e = .returned (.tuple #[.agg #[.int .i64 cd, .int .i64 tx], .int .i64 er]) ∧ Below w.heap.size w w' := by
  have G1 := grows' w (.cells #[.int .i64 0, .int .i64 0] 26)
  obtain ⟨g, hg⟩ := bool_ex (AllOk L)
  have HCK := Lib.hid (cards_any A c n L R g _ hg hm hnc (hs.below G1))
  have HFA := Lib.hid (fun c9 t9 W (hW : Below w.heap.size w W) hr ho => fits_any A B c n d m L R ls c9 t9 W hr ho (hs.below hW) hmn hmb (hB.below hW))
  have HT := Lib.hid (there2_new w (.int .i64 0) (.int .i64 0) 26)
  have HGT := Lib.hid G1
  have HN := Lib.hid hs.1
  have HG := Lib.hid hg
  clear hm hnc hs hB G1 hmn hg
  go_enter Try.func6, Try.ntmps6
  go_upto_region 1 with (fail)
  generalize hw1 : w.alloc (.cells #[.int .i64 0, .int .i64 0] 26) = w1 at *
  clear hw1
  cases g with
  | false =>
    have HR : Hid (cd = 0 ∧ tx = 0 ∧ er = 70) := Lib.hid (by
      have hno : ¬ AllOk L := fun h => by have := HG.out.2 h; cases this
      rcases hf with ⟨_, h⟩ | ⟨h, _⟩ | ⟨h, _⟩
      · exact h
      · exact absurd h hno
      · exact absurd h hno)
    clear hf
    go_wp2_with fail
    refine HCK.out.mono ?_
    rintro e w2 ⟨rfl, hb2⟩
    have B2 := Lib.hid (bt HGT.out hb2)
    have T2 := Lib.hid (there2_below HT.out hb2)
    clear hb2 HCK HGT HT
    generalize hbe : w.heap.size = bx at *
    have HBE := Lib.hid hbe
    clear hbe
    obtain ⟨⟨z0, z1⟩, u0, u1, y0, y1⟩ := there2_z T2.out
    go_wp2_with fail
    have HQ := Lib.hid (cells2_set T2.out (.int .i64 0) (.int .i64 0))
    have HB9 := Lib.hid ((B2.out.setCell (Nat.le_refl _) (p := ⟨bx, 0, none⟩) (.int .i64 0)).setCell (Nat.le_refl _) (p := ⟨bx, 1, none⟩) (.int .i64 0))
    refine bodyPost_ret (results_row_tmp rfl _ _ bx [.int .i64 0, .int .i64 0] _ rfl (cells2_range HQ.out) Try.underlying26 (by kernel_rfl) (by kernel_rfl)) rfl ?_
    exact ⟨by rw [HR.out.1, HR.out.2.1, HR.out.2.2]; rfl, HBE.out ▸ HB9.out⟩
  | true =>
    have HOK : Hid (AllOk L) := Lib.hid (HG.out.1 rfl)
    have HF : Hid ((FitsR (best L n) ls (-1) 0 ∧ cd = 0 ∧ tx = 0 ∧ er = 6) ∨ (FitsR (best L n) ls cd tx ∧ 0 ≤ cd ∧ er = 0)) := Lib.hid (by
      rw [HN.out]
      rcases hf with ⟨h, _⟩ | ⟨_, h⟩ | ⟨_, h⟩
      · exact absurd HOK.out h
      · exact .inl h
      · exact .inr h)
    clear hf
    go_wp2_with fail
    refine HCK.out.mono ?_
    rintro e w2 ⟨rfl, hb2⟩
    have B2 := Lib.hid (bt HGT.out hb2)
    have T2 := Lib.hid (there2_below HT.out hb2)
    clear hb2 HCK HGT HT
    rcases HF.out with ⟨hfr, rfl, rfl, rfl⟩ | ⟨hfr, hge, rfl⟩
    · have HFB := Lib.hid (HFA.out (-1) 0 w2 B2.out hfr HOK.out)
      clear hfr HFA HF
      go_wp2_with fail
      refine HFB.out.mono ?_
      rintro e w4 ⟨rfl, hb4⟩
      have T4 := Lib.hid (there2_below T2.out hb4)
      have B4 := Lib.hid (bt B2.out hb4)
      clear hb4 HFB T2 B2
      have T5' := Lib.hid (there2_below T4.out (grows' w4 (.cells #[.int .i64 (-1), .int .i64 0] 26)))
      have B5' := Lib.hid (bt B4.out (grows' w4 (.cells #[.int .i64 (-1), .int .i64 0] 26)))
      go_upto_region 4 with (fail)
      have C5 := Lib.hid (cells2_new w4 (.int .i64 (-1)) (.int .i64 0) 26)
      generalize w4.alloc (.cells #[.int .i64 (-1), .int .i64 0] 26) = w5 at *
      generalize w4.heap.size = by_ at *
      obtain ⟨⟨z0, z1⟩, u0, u1, y0, y1⟩ := there2_z T5'.out
      have c0 := C5.out.1
      have c1 := C5.out.2
      go_wp2_with fail
      have HQ := Lib.hid (cells2_set T5'.out (.int .i64 0) (.int .i64 0))
      have HB9 := Lib.hid ((B5'.out.setCell (Nat.le_refl _) (p := ⟨w.heap.size, 0, none⟩) (.int .i64 0)).setCell (Nat.le_refl _) (p := ⟨w.heap.size, 1, none⟩) (.int .i64 0))
      refine bodyPost_ret (results_row_tmp rfl _ _ w.heap.size [.int .i64 0, .int .i64 0] _ rfl (cells2_range HQ.out) Try.underlying26 (by kernel_rfl) (by kernel_rfl)) rfl ?_
      exact ⟨rfl, HB9.out⟩
    · have HFB := Lib.hid (HFA.out cd tx w2 B2.out hfr HOK.out)
      have zn : ¬ cd < 0 := by omega
      clear hfr HFA HF hge
      go_wp2_with fail
      refine HFB.out.mono ?_
      rintro e w4 ⟨rfl, hb4⟩
      have T4 := Lib.hid (there2_below T2.out hb4)
      have B4 := Lib.hid (bt B2.out hb4)
      clear hb4 HFB T2 B2
      have T5' := Lib.hid (there2_below T4.out (grows' w4 (.cells #[.int .i64 cd, .int .i64 tx] 26)))
      have B5' := Lib.hid (bt B4.out (grows' w4 (.cells #[.int .i64 cd, .int .i64 tx] 26)))
      go_upto_region 4 with (fail)
      have C5 := Lib.hid (cells2_new w4 (.int .i64 cd) (.int .i64 tx) 26)
      generalize w4.alloc (.cells #[.int .i64 cd, .int .i64 tx] 26) = w5 at *
      generalize w4.heap.size = by_ at *
      obtain ⟨⟨z0, z1⟩, u0, u1, y0, y1⟩ := there2_z T5'.out
      have c0 := C5.out.1
      have c1 := C5.out.2
      go_wp2_with fail
      have HQ := Lib.hid (cells2_set T5'.out (.int .i64 cd) (.int .i64 tx))
      have HB9 := Lib.hid ((B5'.out.setCell (Nat.le_refl _) (p := ⟨w.heap.size, 0, none⟩) (.int .i64 cd)).setCell (Nat.le_refl _) (p := ⟨w.heap.size, 1, none⟩) (.int .i64 tx))
      refine bodyPost_ret (results_row_tmp rfl _ _ w.heap.size [.int .i64 cd, .int .i64 tx] _ rfl (cells2_range HQ.out) Try.underlying26 (by kernel_rfl) (by kernel_rfl)) rfl ?_
      exact ⟨rfl, HB9.out⟩
end Go.Proofs.Ytnnaoneegeenkaa.Mv
