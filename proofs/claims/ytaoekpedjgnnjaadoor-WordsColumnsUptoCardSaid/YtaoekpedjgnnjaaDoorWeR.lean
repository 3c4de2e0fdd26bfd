/- The contract of WriteRune at every rune. -/
import Derived.Test.YtaoekpedjgnnjaaDoorWdJ
import Derived.Test.YtaoekpedjgnnjaaDoorShelfB
namespace Go.Proofs.YtaoekpedjgnnjaaDoor.Wd
open Go.ChangeShapes Go.WideShapes Go.ChangeAt Go.RowKit Own Bld Go.Lib Nums

theorem ret_len {a b : Int} (h : a = b) : Ending.returned (.tuple #[.int .i64 a, .nilIface]) = .returned (.tuple #[.int .i64 b, .nilIface]) := by rw [h]
set_option maxHeartbeats 4000000 in
set_option maxRecDepth 100000 in
theorem writeAny_any (B b : Nat) (l q : List UInt8) (r : Nat) (w : World) (hr : r ≤ 1114111) (hq : encodeRune (r : Int) = q) (hq1 : 1 ≤ q.length) (hq4 : q.length ≤ 4) (h : Bd B b l w) (hlen : l.length + 4 ≤ 1073741824) (hBw : B ≤ w.heap.size) :
    Calls Tryd.prog 66 #[.pointer (some ⟨b, 0, none⟩), .int .i32 (r : Int)] w fun e w' => e = .returned (.tuple #[.int .i64 (q.length : Int), .nilIface]) ∧ Wrote B b (l ++ q) w w' := by
  have hbl := Lib.byteCells_length l
  unfold Bd at h
  generalize hbs : Lib.byteCells l = bs at h hbl
  have HBS := Lib.hid hbs
  have HRC : Hid (Lib.runeCells (r : Int) = Lib.byteCells q) := Lib.hid (by rw [← hq, byteCells_encodeRune])
  have HRL : Hid ((Lib.byteCells q).length = q.length) := Lib.hid (Lib.byteCells_length q)
  clear hbs hq
  go_enter Tryd.func66, Tryd.ntmps66
  go_wp2_with fail
  refine (check_any B b bs _ h).mono ?_
  rintro e w1 ⟨rfl, h1, hb1, hk1⟩
  obtain ⟨hB, v, hbk, hown, hne⟩ := h1
  obtain ⟨A, cap, hv⟩ := ownF_form hown
  subst hv
  have c0 : w1.cell? ⟨b, 0, none⟩ = some (.pointer (some ⟨b, 0, none⟩)) := by rw [Lib.cell_of_heap hbk]; rfl
  have c1 : w1.cell? ⟨b, 1, none⟩ = some (.slice A bs.length cap) := by rw [Lib.cell_of_heap hbk]; rfl
  have hs1 := hb1.size
  have HB1 := Lib.hid hb1
  have HK1 := Lib.hid hk1
  have HBK := Lib.hid hbk
  have HNE := Lib.hid hne
  have HOW := Lib.hid hown
  have hbn : bs.length + 4 ≤ 1073741824 := by omega
  clear hb1 hk1 hbk hne hbl h hown
  go_wp2_with fail
  refine (Tryd.utf8_AppendRune_row B _ bs.length bs (r : Int) (by omega) (by omega) _ HOW.out (by omega) (by omega)).mono ?_
  rw [HRC.out, HRL.out]
  rintro e w2 ⟨v', rfl, hown', o, hgrow⟩
  have hlt := Bld.lt_of_block HBK.out
  have hb2 : w2.heap[b]? = some (.cells #[.pointer (some ⟨b, 0, none⟩), .slice A bs.length cap] 41 (0, 0)) := by
    rw [hgrow.block b (by simp; omega) (fun e => HNE.out e.symm), Lib.alloc_old w1 _ b hlt]
    exact HBK.out
  have d0 : w2.cell? ⟨b, 0, none⟩ = some (.pointer (some ⟨b, 0, none⟩)) := by rw [Lib.cell_of_heap hb2]; rfl
  have d1 : w2.cell? ⟨b, 1, none⟩ = some (.slice A bs.length cap) := by rw [Lib.cell_of_heap hb2]; rfl
  have f1 : w2.frozen? ⟨b, 1, none⟩ = false := Lib.frozen_of_heap hb2 1
  obtain ⟨g, cap2, rfl⟩ : ∃ g cap2, v' = .slice (some ⟨g, 0, none⟩) (bs.length + q.length) cap2 := by
    rcases hown'.2 with ⟨_, h0⟩ | ⟨g, cap, cur, fz, hv, _⟩
    · omega
    · exact ⟨g, cap, hv⟩
  have HB2 := Lib.hid hb2
  have HO2 := Lib.hid hown'
  have HG2 := Lib.hid hgrow
  clear hb2 hown' hgrow
  go_wp2
  go_ret2
  refine ⟨ret_len (by omega), .inr ?_, ?_, ((HK1.out.alloc _).grown HG2.out (Lib.ownsRowF_kind (HOW.out.alloc _))).setCell ⟨b, 1, none⟩ rfl _⟩
  · rw [Lib.byteCells_append, HBS.out]
    exact Lib.BuilderAtF.put (T := 41) (e := 5) hB HB2.out (bs' := bs ++ Lib.byteCells q) (by rw [List.length_append, HRL.out]; exact HO2.out) (by decide)
  · exact ((HB1.out.alloc (by omega) _).grown HG2.out (by simp; omega) (fun k hk => (HOW.out.lt k hk).1)).setCell (p := ⟨b, 1, none⟩) hB _
end Go.Proofs.YtaoekpedjgnnjaaDoor.Wd
