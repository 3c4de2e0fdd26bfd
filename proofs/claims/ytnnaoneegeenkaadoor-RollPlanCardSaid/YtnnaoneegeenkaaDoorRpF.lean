/- An init function's plan against the document's. -/
import Derived.Test.YtnnaoneegeenkaaDoorRpA
import Derived.Test.YtnnaoneegeenkaaDoorRvD
import Derived.Deep.MidRow
namespace Go.Proofs.YtnnaoneegeenkaaDoor.Rp
open Go.ChangeShapes Go.WideShapes Go.ChangeAt Go.RowKit Own Ro Kc
open Kq (Fm FM rdV famRow fm0)

def stepR (at_ by_ : Int) (g : List UInt8) : List Value := if g = [] then [.int .u8 1, .string tableS, .int .i64 at_, .int .i64 by_, .string ⟨#[]⟩, .string ⟨#[]⟩, .int .i64 0] else [.int .u8 2, .string tableS, .int .i64 at_, .int .i64 0, .string (str g), .string tableS, .int .i64 by_]
theorem famArr (f : Fm) (r A : Sl) : (famRow f r A).toArray = #[.string (str f.name), .int .i64 (f.len : Int), .int .i64 f.base, .int .i64 f.step, slV r, .int .i64 (f.at0 : Int), .int .i64 (f.at1 : Int), .int .i64 f.by0, .int .i64 f.by1, .string (str f.g0), .string (str f.g1), slV A] := rfl
theorem fbox_ex (w : World) (f : Fm) (r A : Sl) : ∃ w1, w.alloc (.cells #[.string (str f.name), .int .i64 (f.len : Int), .int .i64 f.base, .int .i64 f.step, slV r, .int .i64 (f.at0 : Int), .int .i64 (f.at1 : Int), .int .i64 f.by0, .int .i64 f.by1, .string (str f.g0), .string (str f.g1), slV A] 76) = w1 ∧ w.heap.size < w1.heap.size ∧ Below w.heap.size w w1 ∧ ∀ j u, (famRow f r A)[j]? = some u → w1.cell? ⟨w.heap.size, j, none⟩ = some u :=
  ⟨_, rfl, by simp, grows' w _, fun j u hu => by
    rw [Lib.cell_of_heap (heap_alloc_new w _) j]
    simpa [famRow] using hu⟩
set_option maxRecDepth 100000 in
set_option maxHeartbeats 8000000 in
theorem sameInit_0 (b : Nat) (f : Fm) (r A : Sl) (w : World) (hlt : b < w.heap.size) (hg : f.g0 = []) (hs : ∀ j u, (stepR (f.at0 : Int) f.by0 f.g0)[j]? = some u → w.cell? ⟨b, j, none⟩ = some u) :
    Calls Tryd.prog 30 #[.slice (some ⟨b, 0, none⟩) 1 1, .agg (famRow f r A).toArray, .int .i64 0] w fun e w' => e = .returned (.bool true) ∧ Below w.heap.size w w' := by
  unfold stepR at hs
  rw [if_pos hg] at hs
  have qt : (tableS.toList == tableS.toList) = true := by simp
  have qg : ((str f.g0).toList == ([] : List UInt8)) = true := by rw [Lib.toList_data, str_list]; simp [hg]
  have qs : ((str f.g0).toList == (str f.g0).toList) = true := by simp
  rw [famArr]
  obtain ⟨w1, hw1, hlt1, hb1, hbx⟩ := fbox_ex w f r A
  have HB1 := Lib.hid hb1
  have HW1 := Lib.hid hw1
  have e0 := (hb1.cell (p := ⟨b, 0, none⟩) hlt).trans (hs 0 _ rfl)
  have e1 := (hb1.cell (p := ⟨b, 1, none⟩) hlt).trans (hs 1 _ rfl)
  have e2 := (hb1.cell (p := ⟨b, 2, none⟩) hlt).trans (hs 2 _ rfl)
  have e3 := (hb1.cell (p := ⟨b, 3, none⟩) hlt).trans (hs 3 _ rfl)
  have b1 := hbx 5 _ rfl
  have b2 := hbx 7 _ rfl
  have b3 := hbx 9 _ rfl
  clear hs hg hw1 hb1 hbx
  have sw : w.heap.size = w.heap.size := rfl
  go_enter Tryd.func30, Tryd.ntmps30
  go_upto_region 1 with (fail)
  rw [HW1.out]
  generalize hbxe : w.heap.size = bx at *
  generalize str f.g0 = G at *
  go_quiet (fail)
  go_wp2_with fail
  go_quiet (fail)
  go_wp2_with fail
  go_ret
  exact ⟨rfl, hbxe ▸ below_dr (below_dr HB1.out _) _⟩
set_option maxRecDepth 100000 in
set_option maxHeartbeats 8000000 in
theorem sameInit_1 (b : Nat) (f : Fm) (r A : Sl) (w : World) (hlt : b < w.heap.size) (hg : f.g1 = []) (hs : ∀ j u, (stepR (f.at1 : Int) f.by1 f.g1)[j]? = some u → w.cell? ⟨b, j, none⟩ = some u) :
    Calls Tryd.prog 30 #[.slice (some ⟨b, 0, none⟩) 1 1, .agg (famRow f r A).toArray, .int .i64 1] w fun e w' => e = .returned (.bool true) ∧ Below w.heap.size w w' := by
  unfold stepR at hs
  rw [if_pos hg] at hs
  have qt : (tableS.toList == tableS.toList) = true := by simp
  have qg : ((str f.g1).toList == ([] : List UInt8)) = true := by rw [Lib.toList_data, str_list]; simp [hg]
  have qs : ((str f.g1).toList == (str f.g1).toList) = true := by simp
  rw [famArr]
  obtain ⟨w1, hw1, hlt1, hb1, hbx⟩ := fbox_ex w f r A
  have HB1 := Lib.hid hb1
  have HW1 := Lib.hid hw1
  have e0 := (hb1.cell (p := ⟨b, 0, none⟩) hlt).trans (hs 0 _ rfl)
  have e1 := (hb1.cell (p := ⟨b, 1, none⟩) hlt).trans (hs 1 _ rfl)
  have e2 := (hb1.cell (p := ⟨b, 2, none⟩) hlt).trans (hs 2 _ rfl)
  have e3 := (hb1.cell (p := ⟨b, 3, none⟩) hlt).trans (hs 3 _ rfl)
  have b1 := hbx 6 _ rfl
  have b2 := hbx 8 _ rfl
  have b3 := hbx 10 _ rfl
  clear hs hg hw1 hb1 hbx
  have sw : w.heap.size = w.heap.size := rfl
  go_enter Tryd.func30, Tryd.ntmps30
  go_upto_region 1 with (fail)
  rw [HW1.out]
  generalize hbxe : w.heap.size = bx at *
  generalize str f.g1 = G at *
  go_quiet (fail)
  go_wp2_with fail
  go_quiet (fail)
  go_wp2_with fail
  go_ret
  exact ⟨rfl, hbxe ▸ below_dr (below_dr HB1.out _) _⟩
set_option maxRecDepth 100000 in
set_option maxHeartbeats 8000000 in
theorem sameInit_g (b : Nat) (f : Fm) (r A : Sl) (w : World) (hlt : b < w.heap.size) (hg : f.g1 ≠ []) (hs : ∀ j u, (stepR (f.at1 : Int) f.by1 f.g1)[j]? = some u → w.cell? ⟨b, j, none⟩ = some u) :
    Calls Tryd.prog 30 #[.slice (some ⟨b, 0, none⟩) 1 1, .agg (famRow f r A).toArray, .int .i64 1] w fun e w' => e = .returned (.bool true) ∧ Below w.heap.size w w' := by
  unfold stepR at hs
  rw [if_neg hg] at hs
  have qt : (tableS.toList == tableS.toList) = true := by simp
  have qg : ((str f.g1).toList == ([] : List UInt8)) = false := by rw [Lib.toList_data, str_list]; simp [hg]
  have qs : ((str f.g1).toList == (str f.g1).toList) = true := by simp
  rw [famArr]
  obtain ⟨w1, hw1, hlt1, hb1, hbx⟩ := fbox_ex w f r A
  have HB1 := Lib.hid hb1
  have HW1 := Lib.hid hw1
  have e0 := (hb1.cell (p := ⟨b, 0, none⟩) hlt).trans (hs 0 _ rfl)
  have e1 := (hb1.cell (p := ⟨b, 1, none⟩) hlt).trans (hs 1 _ rfl)
  have e2 := (hb1.cell (p := ⟨b, 2, none⟩) hlt).trans (hs 2 _ rfl)
  have e4 := (hb1.cell (p := ⟨b, 4, none⟩) hlt).trans (hs 4 _ rfl)
  have e5 := (hb1.cell (p := ⟨b, 5, none⟩) hlt).trans (hs 5 _ rfl)
  have e6 := (hb1.cell (p := ⟨b, 6, none⟩) hlt).trans (hs 6 _ rfl)
  have b1 := hbx 6 _ rfl
  have b2 := hbx 8 _ rfl
  have b3 := hbx 10 _ rfl
  clear hs hg hw1 hb1 hbx
  have sw : w.heap.size = w.heap.size := rfl
  go_enter Tryd.func30, Tryd.ntmps30
  go_upto_region 1 with (fail)
  rw [HW1.out]
  generalize hbxe : w.heap.size = bx at *
  generalize str f.g1 = G at *
  go_quiet (fail)
  go_wp2_with fail
  go_quiet (fail)
  go_wp2_with fail
  go_ret
  exact ⟨rfl, hbxe ▸ below_dr (below_dr HB1.out _) _⟩
end Go.Proofs.YtnnaoneegeenkaaDoor.Rp
