/- The contract of works: what each of the outright statements on words asks first. -/
import Derived.Test.YtoepejokkfhiaaaGreatDoorWdQ
import Derived.Test.YtoepejokkfhiaaaGreatDoorNc
import Derived.Test.YtoepejokkfhiaaaGreatDoorNm2
namespace Go.Proofs.YtoepejokkfhiaaaGreatDoor.Wd
open Go.ChangeShapes Go.WideShapes Go.ChangeAt Go.RowKit Own Bld Go.Lib Nums

theorem clear_lit (l : List UInt8) (h : l.all (fun c => decide (32 ≤ c.toNat) && decide (c.toNat ≤ 126) && decide (c ≠ 92)) = true) : Clear (str l) := by
  intro i hi
  have h1 := List.all_eq_true.1 h (l[i]) (List.getElem_mem hi)
  simp only [Bool.and_eq_true, decide_eq_true_eq] at h1
  exact ⟨h1.1.1, h1.1.2, h1.2⟩
def line0 : ByteArray := ⟨#[97, 32, 34, 34, 32, 34, 98, 32, 99, 34, 32, 34, 100, 92, 34, 34]⟩
def words0 : List (List UInt8) := [[97], [], [98, 32, 99], [100, 34]]
theorem fields0 : fldR line0.data.toList = (words0, 0) := by decide +kernel
theorem cFields (W : World) (he : En W) : Calls Tryz.prog 14 #[.string ⟨#[97, 32, 34, 34, 32, 34, 98, 32, 99, 34, 32, 34, 100, 92, 34, 34]⟩] W (Made words0 0 W) := by
  have h := fields_any line0 W (by decide) he
  rw [fields0] at h
  exact h
theorem cFit (W : World) (h : U8 W) : Calls Tryz.prog 20 #[.string ⟨#[97, 98, 99]⟩, .int .i64 2] W fun e w' => e = .returned (.tuple #[.string ⟨#[97, 126]⟩, .int .i64 0]) ∧ Below W.heap.size W w' :=
  fitF_clear (str [97, 98, 99]) 2 W (by decide) (by omega) (by omega) (clear_lit _ (by decide)) h
theorem cNumber (W : World) (h : Vars W) : Calls Tryz.prog 24 #[.string ⟨#[45, 53]⟩] W fun e w' => e = .returned (.tuple #[.int .i64 (-5), .int .i64 0]) ∧ Below W.heap.size W w' := by
  have e : decS (-5) = ⟨#[45, 53]⟩ := by decide +kernel
  have h2 := number_yes (-5) (by omega) (by omega) (by rw [e]; decide) W h
  rw [e] at h2
  exact h2
theorem cShow (W : World) (h : U8 W) : Calls Tryz.prog 17 #[.string ⟨#[255, 194, 133]⟩] W fun e w' => e = .returned (.string ⟨#[92, 120, 102, 102, 92, 120, 99, 50, 92, 120, 56, 53]⟩) ∧ Below W.heap.size W w' := by
  have e : showW (⟨#[255, 194, 133]⟩ : ByteArray).data.toList = [92, 120, 102, 102, 92, 120, 99, 50, 92, 120, 56, 53] := by decide +kernel
  have h2 := show_any ⟨#[255, 194, 133]⟩ W (by decide) h
  rw [e] at h2
  exact h2
theorem cName (W : World) : Calls Tryz.prog 28 #[.string ⟨#[117, 97, 114, 116, 64, 102, 101, 48, 48]⟩] W fun e w' => e = .returned (.int .i64 0) ∧ W = w' := by
  have e : wordsNames.nameE (⟨#[117, 97, 114, 116, 64, 102, 101, 48, 48]⟩ : ByteArray).data.toList = 0 := by decide +kernel
  have h2 := wordsNames.name_any ⟨#[117, 97, 114, 116, 64, 102, 101, 48, 48]⟩ W (by decide)
  rw [e] at h2
  exact h2
theorem cNoName (W : World) : Calls Tryz.prog 28 #[.string ⟨#[65]⟩] W fun e w' => e = .returned (.int .i64 10) ∧ W = w' := by
  have e : wordsNames.nameE (⟨#[65]⟩ : ByteArray).data.toList = 10 := by decide +kernel
  have h2 := wordsNames.name_any ⟨#[65]⟩ W (by decide)
  rw [e] at h2
  exact h2
theorem src_row {w : World} {b : Nat} {t : TypeId} {n : Nat} {f : Nat → Value} {xs : List Value} (hn : n = xs.length) (h : w.rowIs b t n f) (hf : ∀ k u, xs[k]? = some u → f k = u) : Src w (some ⟨b, 0, none⟩) n n xs := by
  refine .inr ⟨_, rfl, hn.symm, fun j u hu => ?_⟩
  obtain ⟨hj, _⟩ := List.getElem?_eq_some_iff.1 hu
  have hc := h.cell (i := j) (by omega)
  rw [hf j u hu] at hc
  rw [add_none', Nat.zero_add]
  exact hc
theorem src_cells (w : World) (cs : Array Value) (t : TypeId) : Src (w.alloc (.cells cs t)) (some ⟨w.heap.size, 0, none⟩) cs.size cs.size cs.toList :=
  src_row (f := fun k => cs.getD k (.bool false)) (by simp) (World.rowIs_alloc w cs t _ (fun i hi => by simp [hi])) (fun k u hu => by
    have h : cs[k]? = some u := by simpa using hu
    simp [h])
theorem grows (w : World) (o : Obj) : Below w.heap.size w (w.alloc o) := (Below.refl _ _).alloc (Nat.le_refl _) _
def rows0 (w : World) : World := (((w.alloc (.cells #[.string ⟨#[97]⟩, .string ⟨#[98, 98]⟩] 9)).alloc (.cells #[.string ⟨#[99, 99, 99]⟩] 9)).alloc
  (.cells #[.slice (some ⟨w.heap.size, 0, none⟩) 2 2, .slice (some ⟨w.heap.size + 1, 0, none⟩) 1 1] 33)).alloc (.cells #[.int .i64 2, .int .i64 3] 3)
theorem rows0_below (w : World) : Below w.heap.size w (rows0 w) :=
  ((((Below.refl _ _).alloc (Nat.le_refl _) _).alloc (by simp) _).alloc (by simp; omega) _).alloc (by simp; omega) _
theorem rows0_a (w : World) : Src (rows0 w) (some ⟨w.heap.size, 0, none⟩) 2 2 (strs [[97], [98, 98]]) :=
  (src_cells w #[.string ⟨#[97]⟩, .string ⟨#[98, 98]⟩] 9).below ((((Below.refl _ _).alloc (Nat.le_refl _) _).alloc (by simp) _).alloc (by simp) _)
theorem rows0_b (w : World) : Src (rows0 w) (some ⟨w.heap.size + 1, 0, none⟩) 1 1 (strs [[99, 99, 99]]) := by
  have h := src_cells (w.alloc (.cells #[.string ⟨#[97]⟩, .string ⟨#[98, 98]⟩] 9)) #[.string ⟨#[99, 99, 99]⟩] 9
  have e : (w.alloc (.cells #[.string ⟨#[97]⟩, .string ⟨#[98, 98]⟩] 9)).heap.size = w.heap.size + 1 := by simp
  rw [e] at h
  exact h.below (((Below.refl _ _).alloc (Nat.le_refl _) _).alloc (by simp) _)
theorem rows0_c (w : World) : Src (rows0 w) (some ⟨w.heap.size + 1 + 1, 0, none⟩) 2 2 (slcs [(some ⟨w.heap.size, 0, none⟩, 2, 2), (some ⟨w.heap.size + 1, 0, none⟩, 1, 1)]) := by
  have h := src_cells ((w.alloc (.cells #[.string ⟨#[97]⟩, .string ⟨#[98, 98]⟩] 9)).alloc (.cells #[.string ⟨#[99, 99, 99]⟩] 9)) #[.slice (some ⟨w.heap.size, 0, none⟩) 2 2, .slice (some ⟨w.heap.size + 1, 0, none⟩) 1 1] 33
  have e : ((w.alloc (.cells #[.string ⟨#[97]⟩, .string ⟨#[98, 98]⟩] 9)).alloc (.cells #[.string ⟨#[99, 99, 99]⟩] 9)).heap.size = w.heap.size + 1 + 1 := by simp
  rw [e] at h
  exact h.below ((Below.refl _ _).alloc (Nat.le_refl _) _)
theorem rows0_d (w : World) : Src (rows0 w) (some ⟨w.heap.size + 1 + 1 + 1, 0, none⟩) 2 2 ([2, 3].map fun (x : Nat) => Value.int .i64 (x : Int)) := by
  have h := src_cells (((w.alloc (.cells #[.string ⟨#[97]⟩, .string ⟨#[98, 98]⟩] 9)).alloc (.cells #[.string ⟨#[99, 99, 99]⟩] 9)).alloc (.cells #[.slice (some ⟨w.heap.size, 0, none⟩) 2 2, .slice (some ⟨w.heap.size + 1, 0, none⟩) 1 1] 33)) #[.int .i64 2, .int .i64 3] 3
  have e : (((w.alloc (.cells #[.string ⟨#[97]⟩, .string ⟨#[98, 98]⟩] 9)).alloc (.cells #[.string ⟨#[99, 99, 99]⟩] 9)).alloc (.cells #[.slice (some ⟨w.heap.size, 0, none⟩) 2 2, .slice (some ⟨w.heap.size + 1, 0, none⟩) 1 1] 33)).heap.size = w.heap.size + 1 + 1 + 1 := by simp
  rw [e] at h
  exact h
def cols0 : List (List UInt8) := [[97, 32, 32, 98, 98], [99, 126]]
theorem cols0_eq : ∀ k u, (strs cols0)[k]? = some u → (Value.string (str (lineW (([[[97], [98, 98]], [[99, 99, 99]]] : List (List (List UInt8))).getD k []) [2, 3]))) = u := by
  intro k u hu
  match k, hu with
  | 0, hu =>
    have e : lineW [[97], [98, 98]] [2, 3] = [97, 32, 32, 98, 98] := by decide +kernel
    obtain rfl := Option.some.inj hu
    show Value.string (str (lineW [[97], [98, 98]] [2, 3])) = Value.string (str [97, 32, 32, 98, 98])
    rw [e]
  | 1, hu =>
    have e : lineW [[99, 99, 99]] [2, 3] = [99, 126] := by decide +kernel
    obtain rfl := Option.some.inj hu
    show Value.string (str (lineW [[99, 99, 99]] [2, 3])) = Value.string (str [99, 126])
    rw [e]
  | k + 2, hu => exact absurd hu (by simp [strs, cols0])
theorem row_ok0 (w : World) : RowOk (rows0 w) 2 (some ⟨w.heap.size, 0, none⟩, 2, 2) [[97], [98, 98]] :=
  ⟨rfl, Nat.le_refl _, rows0_a w, fun k hk => match k, hk with
    | 0, _ => ⟨clear_lit [97] (by decide), by decide⟩
    | 1, _ => ⟨clear_lit [98, 98] (by decide), by decide⟩⟩
theorem row_ok1 (w : World) : RowOk (rows0 w) 2 (some ⟨w.heap.size + 1, 0, none⟩, 1, 1) [[99, 99, 99]] :=
  ⟨rfl, (by decide : 1 ≤ 2), rows0_b w, fun k hk => match k, hk with
    | 0, _ => ⟨clear_lit [99, 99, 99] (by decide), by decide⟩⟩
theorem cColumns (w : World) (h : U8 w) : Calls Tryz.prog 23 #[.slice (some ⟨w.heap.size + 1 + 1, 0, none⟩) 2 2, .slice (some ⟨w.heap.size + 1 + 1 + 1, 0, none⟩) 2 2] (rows0 w)
    fun e w' => ∃ B, e = .returned (.tuple #[.slice (some ⟨B, 0, none⟩) 2 2, .int .i64 0]) ∧ Src w' (some ⟨B, 0, none⟩) 2 2 (strs cols0) ∧ Below w.heap.size w w' := by
  refine (columns_any _ _ 2 2 2 2 [(some ⟨w.heap.size, 0, none⟩, 2, 2), (some ⟨w.heap.size + 1, 0, none⟩, 1, 1)] [[[97], [98, 98]], [[99, 99, 99]]] [2, 3] _ rfl rfl (by omega) (by omega) ?_ ?_ (rows0_c w) (rows0_d w) (h.below (rows0_below w))).mono ?_
  · intro k hk
    match k, hk with
    | 0, _ => exact ⟨by decide, by decide⟩
    | 1, _ => exact ⟨by decide, by decide⟩
  · intro k hk
    match k, hk with
    | 0, _ => exact row_ok0 w
    | 1, _ => exact row_ok1 w
  · rintro e w' ⟨rfl, hr, hb⟩
    exact ⟨_, rfl, src_row rfl hr cols0_eq, (rows0_below w).trans (hb.mono (rows0_below w).size)⟩

theorem below_drewN' {B : Nat} {a w : World} (h : Below B a w) (q : Nat) : Below B a (w.drewN q) := ⟨h.os, h.tape, h.output, h.size, h.block⟩
theorem cSame0 (A : Option Addr) (c : Nat) (w : World) {B : Nat} (h : w.ownsRow B 9 1 (.slice A 4 c) 4 (strs words0)) : Calls Tryz.prog 16 #[.slice A 4 c, .slice (some ⟨w.heap.size, 0, none⟩) 4 4]
    (w.alloc (.cells #[.string ⟨#[97]⟩, .string ⟨#[]⟩, .string ⟨#[98, 32, 99]⟩, .string ⟨#[100, 34]⟩] 9)) fun e w' => e = .returned (.bool true) ∧ Below w.heap.size w w' := by
  obtain ⟨A', c', hv, hs⟩ := own_src h
  injection hv with h1 h2 h3
  subst h1 h3
  refine (sameTexts_any A (some ⟨w.heap.size, 0, none⟩) c 4 4 words0 _ rfl (by omega) (hs.below (grows w _)) (src_cells w _ _)).mono ?_
  rintro e w' ⟨rfl, q, rfl⟩
  exact ⟨rfl, below_drewN' (grows w _) q⟩
theorem cSame1 (B : Nat) (w : World) (h : Src w (some ⟨B, 0, none⟩) 2 2 (strs cols0)) : Calls Tryz.prog 16 #[.slice (some ⟨B, 0, none⟩) 2 2, .slice (some ⟨w.heap.size, 0, none⟩) 2 2]
    (w.alloc (.cells #[.string ⟨#[97, 32, 32, 98, 98]⟩, .string ⟨#[99, 126]⟩] 9)) fun e w' => e = .returned (.bool true) ∧ Below w.heap.size w w' := by
  refine (sameTexts_any _ (some ⟨w.heap.size, 0, none⟩) 2 2 2 cols0 _ rfl (by omega) (h.below (grows w _)) (src_cells w _ _)).mono ?_
  rintro e w' ⟨rfl, q, rfl⟩
  exact ⟨rfl, below_drewN' (grows w _) q⟩

set_option maxRecDepth 100000 in
set_option maxHeartbeats 4000000 in
theorem works_any (w : World) (he : En w) (hv : Vars w) :
    Calls Tryz.prog 9 #[] w fun e w' => e = .returned (.bool true) ∧ Below w.heap.size w w' := by
  have HE := Lib.hid he
  have HV := Lib.hid hv
  clear he hv
  go_enter Tryz.func9, Tryz.ntmps9
  go_wp2_with fail
  refine (cFields _ HE.out).mono ?_
  rintro e w1 ⟨A, n, c, hn, rfl, ho, b1⟩
  obtain rfl : n = 4 := hn
  have HO := Lib.hid ho
  have B1 := Lib.hid b1
  clear ho b1
  go_wp2_with fail
  refine (cFit _ (HE.out.u8.below B1.out)).mono ?_
  rintro e w2 ⟨rfl, b2⟩
  have B2 := Lib.hid (B1.out.trans (b2.mono B1.out.size))
  have HO2 := Lib.hid (own_below HO.out b2 (Nat.le_refl _))
  clear b2 HO B1
  have hz2 := B2.out.size
  go_wp2_with fail
  refine (cColumns _ (HE.out.u8.below B2.out)).mono ?_
  rintro e w3 ⟨B, rfl, hs, b3⟩
  have HC3 := Lib.hid hs
  have B3 := Lib.hid (B2.out.trans (b3.mono B2.out.size))
  have HO3 := Lib.hid (own_below HO2.out b3 (Nat.le_refl _))
  clear b3 hs HO2 B2 hz2
  go_wp2_with fail
  refine (cNumber _ (HV.out.below B3.out)).mono ?_
  rintro e w4 ⟨rfl, b4⟩
  have B4 := Lib.hid (B3.out.trans (b4.mono B3.out.size))
  have HO4 := Lib.hid (own_below HO3.out b4 (Nat.le_refl _))
  have HC4 := Lib.hid (HC3.out.below b4)
  clear b4 HC3 HO3 B3
  go_wp2_with fail
  refine (cSame0 A c _ HO4.out).mono ?_
  rintro e w5 ⟨rfl, b5⟩
  have B5 := Lib.hid (B4.out.trans (b5.mono B4.out.size))
  have HC5 := Lib.hid (HC4.out.below b5)
  clear b5 HC4 HO4 B4
  go_wp2_with fail
  refine (cSame1 B _ HC5.out).mono ?_
  rintro e w6 ⟨rfl, b6⟩
  have B6 := Lib.hid (B5.out.trans (b6.mono B5.out.size))
  clear b6 HC5 B5
  go_wp2_with fail
  refine (cShow _ (HE.out.u8.below B6.out)).mono ?_
  rintro e w7 ⟨rfl, b7⟩
  have B7 := Lib.hid (B6.out.trans (b7.mono B6.out.size))
  clear b7 B6
  go_wp2_with fail
  refine (cName _).mono ?_
  rintro e w8 ⟨rfl, rfl⟩
  go_wp2_with fail
  refine (cNoName _).mono ?_
  rintro e w9 ⟨rfl, rfl⟩
  go_wp2_with fail
  go_ret
  exact ⟨rfl, B7.out⟩
end Go.Proofs.YtoepejokkfhiaaaGreatDoor.Wd
