/- The contracts of readNumbers, read and Parse at the text that awake asks; awake. -/
import Derived.Test.YtomhfmcmjcghoaaGreatDoorClS
import Derived.Test.YtomhfmcmjcghoaaGreatDoorClT
import Derived.Test.YtomhfmcmjcghoaaGreatDoorClO
import Derived.Test.YtomhfmcmjcghoaaGreatDoorPu
import Derived.Test.YtomhfmcmjcghoaaGreatDoorShelf
import Derived.Shelf.Strings.SlTrimAscii
namespace Go.Proofs.YtomhfmcmjcghoaaGreatDoor.Cl
open Go.ChangeShapes Go.WideShapes Go.ChangeAt Go.RowKit Own Bld Nums

/-- What stands in the library's variables that are read. -/
structure Env (w : World) : Prop where
  mx : ∃ m, w.cell? ⟨0, 0, none⟩ = some (.int .i64 m)
  deb : w.cell? ⟨7, 15, none⟩ = some (.int .u8 4)
theorem Env.below {w w' : World} (h : Env w) (hb : Below w.heap.size w w') : Env w' := by
  obtain ⟨m, h1⟩ := h.mx
  refine ⟨⟨m, ?_⟩, ?_⟩
  · rw [hb.cell (World.block_lt_of_cell? _ _ h1)]; exact h1
  · rw [hb.cell (World.block_lt_of_cell? _ _ h.deb)]; exact h.deb

def tA : ByteArray := ⟨#[48, 120, 49]⟩
def tB : ByteArray := ⟨#[48, 120, 102, 102]⟩
def sAB : ByteArray := ⟨#[48, 120, 49, 32, 48, 120, 102, 102]⟩
def vAB : ByteArray := ⟨#[0, 0, 0, 1, 0, 0, 0, 255]⟩
def sAll : ByteArray := ⟨#[60, 48, 120, 49, 32, 48, 120, 102, 102, 62]⟩
theorem cnt1 : Lib.countB sAB ⟨#[32]⟩ = 1 := by decide +kernel
theorem spl1 : Lib.splitB ⟨#[32]⟩ 0 1 sAB = [tA, tB] := by decide +kernel
theorem trA : (⟨(Lib.trimPrefix tA.data.toList [48, 120]).toArray⟩ : ByteArray) = ⟨#[49]⟩ := by decide +kernel
theorem trB : (⟨(Lib.trimPrefix tB.data.toList [48, 120]).toArray⟩ : ByteArray) = ⟨#[102, 102]⟩ := by decide +kernel
theorem pA : parseM 4294967295 0 [49] = some 1 := by decide +kernel
theorem pB : parseM 4294967295 0 [102, 102] = some 255 := by decide +kernel

theorem readNumbers_awake (w : World) (he : Env w) :
    Calls Tryz.prog 48 #[.string sAB, .int .i64 32, .func (.func 37) #[] #[]] w fun e w' => e = .returned (.tuple #[.string vAB, .bool true]) ∧ Below w.heap.size w w' := by
  obtain ⟨m, hm⟩ := he.mx
  go_enter Tryz.func48, Tryz.ntmps48
  go_wp2_with fail
  refine (Tryz.strings_Split sAB ⟨#[32]⟩ m _ (by decide) hm (by decide)).mono ?_
  rw [cnt1, spl1]
  rintro e w1 ⟨rfl, rfl⟩
  clear hm he
  have b1 : Below w.heap.size w (w.alloc (.cells (([tA, tB].map Value.string).toArray) 9)) := (Below.refl _ _).alloc (Nat.le_refl _) _
  have h0 : (w.alloc (.cells (([tA, tB].map Value.string).toArray) 9)).cell? ⟨w.heap.size, 0, none⟩ = some (.string tA) := by rw [cell_heap (heap_alloc_new w _)]; rfl
  have h1 : (w.alloc (.cells (([tA, tB].map Value.string).toArray) 9)).cell? ⟨w.heap.size, 1, none⟩ = some (.string tB) := by rw [cell_heap (heap_alloc_new w _)]; rfl
  have hz : (w.alloc (.cells (([tA, tB].map Value.string).toArray) 9)).heap.size = w.heap.size + 1 := by simp
  generalize w.alloc (.cells (([tA, tB].map Value.string).toArray) 9) = wa at b1 h0 h1 hz
  have B1 := Lib.hid b1
  have HZ := Lib.hid hz
  have H1 := Lib.hid h1
  clear b1 hz h1
  go_wp2_with fail
  refine wp_loop_rounds 3 ?_
  rw [rounds_succ]
  go_wp2_with fail
  refine (Tryz.strings_TrimPrefix tA ⟨#[48, 120]⟩ _).mono ?_
  rintro e w1 ⟨rfl, rfl⟩
  rw [show (⟨(Lib.trimPrefix tA.data.toList (⟨#[48, 120]⟩ : ByteArray).data.toList).toArray⟩ : ByteArray) = ⟨#[49]⟩ from trA]
  go_wp2_with fail
  refine (parseUint32_ok ⟨#[49]⟩ (by decide) (by decide) _ 1 pA).mono ?_
  rintro e w2 ⟨rfl, b2⟩
  have B2 := Lib.hid (B1.out.trans (b2.mono B1.out.size))
  have h2 : w2.cell? ⟨w.heap.size, 1, none⟩ = some (.string tB) := by rw [b2.cell (p := ⟨w.heap.size, 1, none⟩) (by have := HZ.out; show w.heap.size < _; omega)]; exact H1.out
  have H2 := Lib.hid h2
  have hz2 : w.heap.size < w2.heap.size := by have := b2.size; have := HZ.out; omega
  clear b2 h2
  go_wp2_with fail
  refine (appendCell_any w2.heap.size (.slice none 0 0) 0 1 [] _ (by decide) (by decide) (Nat.le_refl _) (own_nil _ _ _)).mono ?_
  rintro e w3 ⟨v3, rfl, ho3, hg3⟩
  have O3 := Lib.hid ho3
  have b3 : Below w2.heap.size w2 w3 := below_of_grown hg3 (Nat.le_refl _) (fun k hk => by cases hk)
  have B3 := Lib.hid (B2.out.trans (b3.mono (by omega)))
  have h3 : w3.cell? ⟨w.heap.size, 1, none⟩ = some (.string tB) := by rw [b3.cell (p := ⟨w.heap.size, 1, none⟩) hz2]; exact H2.out
  have hz3 : w2.heap.size ≤ w3.heap.size := b3.size
  clear ho3 hg3 b3
  go_wp2_with fail
  rw [rounds_succ]
  go_wp2_with fail
  refine (Tryz.strings_TrimPrefix tB ⟨#[48, 120]⟩ _).mono ?_
  rintro e w1 ⟨rfl, rfl⟩
  rw [show (⟨(Lib.trimPrefix tB.data.toList (⟨#[48, 120]⟩ : ByteArray).data.toList).toArray⟩ : ByteArray) = ⟨#[102, 102]⟩ from trB]
  clear h3
  go_wp2_with fail
  refine (parseUint32_ok ⟨#[102, 102]⟩ (by decide) (by decide) _ 255 pB).mono ?_
  rintro e w4 ⟨rfl, b4⟩
  have B4 := Lib.hid (B3.out.trans (b4.mono (by omega)))
  have O4 := Lib.hid (own_below O3.out b4 (Nat.le_refl _))
  have hz4 : w2.heap.size ≤ w4.heap.size := Nat.le_trans hz3 b4.size
  clear b4
  go_wp2_with fail
  refine (appendCell_any w2.heap.size v3 4 255 _ _ (by decide) (by decide) hz4 O4.out).mono ?_
  rintro e w5 ⟨v5, rfl, ho5, hg5⟩
  have B5 := Lib.hid (B4.out.trans (below_of_grown hg5 (by omega) (fun k hk => by have := (own_int O4.out k hk).1; omega)))
  have hcv := conv_own ho5
  clear ho5 hg5
  have hvv : str ([] ++ be 1 4 ++ be 255 4) = vAB := by decide +kernel
  rw [hvv] at hcv
  clear hvv
  go_wp2_with fail
  rw [rounds_succ]
  go_wp2_with fail
  go_ret2
  exact ⟨rfl, B5.out⟩

theorem asc2 : ∀ (j : Nat) (b : UInt8), (⟨#[60, 62]⟩ : ByteArray).data.toList[j]? = some b → b.toNat < 128 := fun j b h => by
  have h2 : b ∈ [(60 : UInt8), 62] := List.mem_of_getElem? h
  simp at h2
  rcases h2 with rfl | rfl <;> decide
theorem hp1 : Lib.hasPrefix sAll.data.toList [34] = false := by decide +kernel
theorem hp2 : Lib.hasPrefix sAll.data.toList [60] = true := by decide +kernel
theorem tr1 : (⟨(Lib.trimS sAll.data.toList [60, 62]).toArray⟩ : ByteArray) = sAB := by decide +kernel
theorem ne1 : (sAll.toList == [45]) = false := by decide +kernel
theorem read_awake (w : World) (he : Env w) :
    Calls Tryz.prog 21 #[.string sAll] w fun e w' => e = .returned (.tuple #[.string vAB, .bool true]) ∧ Below w.heap.size w w' := by
  have HE := Lib.hid he
  clear he
  have hne := ne1
  go_enter Tryz.func21, Tryz.ntmps21
  go_wp2_with fail
  refine (Tryz.strings_HasPrefix sAll ⟨#[34]⟩ _).mono ?_
  rintro e w1 ⟨rfl, rfl⟩
  rw [show Lib.hasPrefix sAll.data.toList (⟨#[34]⟩ : ByteArray).data.toList = false from hp1]
  go_wp2_with fail
  refine (Tryz.strings_HasPrefix sAll ⟨#[60]⟩ _).mono ?_
  rintro e w1 ⟨rfl, rfl⟩
  rw [show Lib.hasPrefix sAll.data.toList (⟨#[60]⟩ : ByteArray).data.toList = true from hp2]
  go_wp2_with fail
  refine (Any.strings_Trim_laid Tryz.lays160 (by kernel_rfl) sAll ⟨#[60, 62]⟩ _ (by decide) (by decide) asc2).mono ?_
  rintro e w2 ⟨rfl, b2⟩
  rw [show (⟨(Lib.trimS sAll.data.toList (⟨#[60, 62]⟩ : ByteArray).data.toList).toArray⟩ : ByteArray) = sAB from tr1]
  have B2 := Lib.hid b2
  clear b2
  go_wp2_with fail
  refine (readNumbers_awake _ (HE.out.below B2.out)).mono ?_
  rintro e w3 ⟨rfl, b3⟩
  have B3 := Lib.hid (B2.out.trans (b3.mono B2.out.size))
  clear b3
  go_wp2_with fail
  go_ret2
  exact ⟨rfl, B3.out⟩

theorem lookAB : lookV vAB.data.toList = 2 := by decide +kernel
theorem cAB : c32 vAB.data.toList = [1, 255] := by decide +kernel
theorem showAB : str ([60] ++ jn [32] (fun i => cellT ((c32 vAB.data.toList).getD i 0)) (c32 vAB.data.toList).length ++ [62]) = sAll := by
  rw [cAB]
  decide +kernel
theorem parse_awake (w : World) (he : Env w) :
    Calls Tryz.prog 7 #[.string sAll] w fun e w' => e = .returned (.tuple #[.string vAB, .int .i64 0]) ∧ Below w.heap.size w w' := by
  have HE := Lib.hid he
  clear he
  go_enter Tryz.func7, Tryz.ntmps7
  go_wp2_with fail
  refine (read_awake _ HE.out).mono ?_
  rintro e w1 ⟨rfl, b1⟩
  have B1 := Lib.hid b1
  clear b1
  go_wp2_with fail
  refine (show2_any vAB _ (by decide) lookAB (HE.out.below B1.out).deb).mono ?_
  rw [showAB]
  rintro e w2 ⟨rfl, b2⟩
  have B2 := Lib.hid (B1.out.trans (b2.mono B1.out.size))
  clear b2
  go_wp2_with fail
  go_ret2
  exact ⟨rfl, B2.out⟩

def sU : ByteArray := ⟨#[0, 0, 0, 1, 255, 255, 255, 255]⟩
def sT : ByteArray := ⟨#[97, 98, 0, 99, 0]⟩
theorem cU : c32 sU.data.toList = [1, 4294967295] := by decide +kernel
theorem eU : e32 sU.data.toList = 0 := by decide +kernel
theorem xT : tx sT.data.toList = [⟨#[97, 98]⟩, ⟨#[99]⟩] := by decide +kernel
theorem eT : etx sT.data.toList = 0 := by decide +kernel
set_option maxHeartbeats 1000000 in
theorem awake_any (w : World) (he : Env w) :
    Calls Tryz.prog 10 #[] w fun e w' => e = .returned (.bool true) ∧ Below w.heap.size w w' := by
  have HE := Lib.hid he
  clear he
  go_enter Tryz.func10, Tryz.ntmps10
  go_wp2_with fail
  refine (prog32_any sU _ (by decide)).mono ?_
  rw [cU, eU]
  rintro e w1 ⟨A1, n1, c1, hn1, rfl, ho1, b1⟩
  obtain rfl : n1 = 2 := hn1
  have M1 := ho1
  have B1 := Lib.hid b1
  have HM1 := Lib.hid M1
  clear ho1 b1 M1
  go_wp2_with fail
  refine (progTexts_any sT _ (by decide)).mono ?_
  rw [xT, eT]
  rintro e w2 ⟨A2, n2, c2, hn2, rfl, ho2, b2⟩
  obtain rfl : n2 = 2 := hn2
  have HM2 := Lib.hid ho2
  have B2 := Lib.hid b2
  clear ho2 b2
  go_wp2_with fail
  refine (parse_awake _ ((HE.out.below B1.out).below B2.out)).mono ?_
  rintro e w3 ⟨rfl, b3⟩
  have B3 := Lib.hid b3
  clear b3
  have q1 := (made_src HM1.out (B2.out.trans (B3.out.mono B2.out.size))).1
  have q2 := (made_src HM2.out B3.out).1
  obtain ⟨g1, o1, rfl, _, k1⟩ := src_get q1 (by omega)
  obtain ⟨g2, o2, rfl, _, k2⟩ := src_get q2 (by omega)
  have d1 : w3.cell? ⟨g1, o1, none⟩ = some (.int .u32 1) := k1 0 _ rfl
  have d2 : w3.cell? ⟨g1, o1 + 1, none⟩ = some (.int .u32 4294967295) := k1 1 _ rfl
  have d3 : w3.cell? ⟨g2, o2, none⟩ = some (.string ⟨#[97, 98]⟩) := k2 0 _ rfl
  have d4 : w3.cell? ⟨g2, o2 + 1, none⟩ = some (.string ⟨#[99]⟩) := k2 1 _ rfl
  clear k1 k2 q1 q2
  have hv : (⟨#[0, 0, 0, 1, 0, 0, 0, 255]⟩ : ByteArray) = vAB := rfl
  rw [← hv]
  clear hv
  go_wp2_with fail
  go_ret
  exact ⟨rfl, B1.out.trans ((B2.out.trans (B3.out.mono B2.out.size)).mono B1.out.size)⟩
end Go.Proofs.YtomhfmcmjcghoaaGreatDoor.Cl
