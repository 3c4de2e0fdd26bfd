/- bus.lined: the numbers of a list in a new one, in order, of like ones those ahead that stood ahead. -/
import Derived.Test.YtjffemeeomogaaaDoorStV
import Derived.Test.YtjffemeeomogaaaDoorRo
import Derived.Laws.MakeOwn
import Derived.Laws.CopyOwn
namespace Go.Proofs.YtjffemeeomogaaaDoor.St
open Go.ChangeShapes Go.WideShapes Go.ChangeAt Go.RowKit Go.Sort Go.Shelf Own Ro
variable {α : Type} [Inhabited α]

theorem below_sort (e : α → Value) {B blk off m : Nat} {dk : Array α} {os : Array Obj} (w0 : World) (hB : B ≤ blk) (hB2 : B ≤ w0.heap.size) : Below B w0 (sortWorld e w0 blk off m dk os) := by
  refine ⟨rfl, rfl, rfl, ?_, fun k hk => ?_⟩
  · unfold sortWorld
    rw [size_grow, size_putRow]
    exact Nat.le_add_right _ _
  · unfold sortWorld putRow mapBlock grow Sort.ahead
    simp only
    rw [Array.getElem?_append_left (by simp; omega), Array.getElem?_modify, if_neg (by omega)]
theorem sw_below {e : α → Value} {B blk off : Nat} {dk : Array α} {w0 W : World} (h : SW e w0 blk off dk W) (hB : B ≤ blk) (hB2 : B ≤ w0.heap.size) : Below B w0 W := by
  obtain ⟨m, os, rfl⟩ := h
  exact below_sort e w0 hB hB2
theorem sw_block {e : α → Value} {blk : Nat} {dk : Array α} {w0 W : World} {cur : Array Value} {t : TypeId} (h : SW e w0 blk 0 dk W) (hc : w0.heap[blk]? = some (.cells cur t (0, 0))) (hs : cur.size = dk.size) : W.heap[blk]? = some (.cells (dk.toList.map e).toArray t (0, 0)) := by
  obtain ⟨m, os, rfl⟩ := h
  have hlt : blk < w0.heap.size := by
    by_cases c : blk < w0.heap.size
    · exact c
    · rw [Array.getElem?_eq_none (by omega)] at hc
      cases hc
  unfold sortWorld putRow mapBlock grow Sort.ahead
  simp only
  rw [Array.getElem?_append_left (by simp; exact hlt), Array.getElem?_modify, if_pos rfl, hc]
  show some (Obj.cells (putCells e 0 dk cur) t (0, 0)) = _
  congr 2
  refine Array.ext (by simp [putCells, hs]) fun i h1 h2 => ?_
  have hi : i < dk.size := by simpa using h2
  simp [putCells, hi]
theorem holds_of {num : α → Int} {L : List α} {w : World} {blk : Nat} {t : TypeId} (h : w.heap[blk]? = some (.cells (L.map (enc num)).toArray t (0, 0))) : Holds (enc num) w blk 0 L.toArray := fun j hj => by
  have hjl : j < L.length := by simpa using hj
  rw [Nat.zero_add]
  refine ⟨?_, ?_⟩
  · unfold World.cell?
    simp only [h]
    simp [hjl]
  · unfold World.frozen?
    simp only [h]
    simp
theorem arr_get (L : List α) (i : Nat) : L.toArray[i]! = L.getD i default := by
  by_cases h : i < L.length
  · rw [getElem!_pos _ i (by simpa using h)]; simp [h]
  · rw [getElem!_neg _ i (by simpa using h)]; simp [h]

set_option maxRecDepth 100000 in
set_option maxHeartbeats 8000000 in
theorem sortStable_any (num : α → Int) (key : α → Int) (cf : α → α → Int) (g : Nat) (cb : Array Value) (L : List α) (blk : Nat) (w w1 : World) (eg : ∀ args w, (callFunc g args).run Tryd.prog w = .ok (.enter g args) w) (hb : L.length ≤ 1000000)
    (hcmp : ∀ V, Below w.heap.size w V → ∀ x y, Calls Tryd.prog g (#[enc num x, enc num y] ++ cb) V fun e V' => e = .returned (.int .i64 (cf x y)) ∧ ∃ q, V' = V.drewN q) (hk : ∀ x y, cf x y < 0 ↔ key x < key y)
    (hw : Below w.heap.size w w1) (hblk : w.heap.size ≤ blk) (hc : w1.heap[blk]? = some (.cells (L.map (enc num)).toArray 3 (0, 0))) :
    Calls Tryd.prog 91 #[.slice (some ⟨blk, 0, none⟩) L.length L.length, .func (.func g) #[] cb] w1 fun e w' => e = .returned (.tuple #[]) ∧ ∃ Z : List α, Fe key L Z ∧ Srt key Z ∧ Z.length = L.length ∧ w'.heap[blk]? = some (.cells (Z.map (enc num)).toArray 3 (0, 0)) ∧ Below w.heap.size w w' := by
  have hlt : blk < w1.heap.size := by
    by_cases c : blk < w1.heap.size
    · exact c
    · rw [Array.getElem?_eq_none (by omega)] at hc
      cases hc
  have hsz : L.toArray.size = L.length := by simp
  have R : Row1 (enc num) w1 blk 0 L.toArray := ⟨enc_one num, holds_of hc, hlt⟩
  have HS := Lib.hid (stable_any num key cf g cb blk 0 L.length L.toArray w1 eg (fun m os dk hs x y => by
    refine (hcmp (sortWorld (enc num) w1 blk 0 m dk os) (hw.trans (below_sort (enc num) w1 hblk hw.size)) x y).mono ?_
    rintro e V' ⟨rfl, q, rfl⟩
    exact ⟨rfl, q, #[], by rw [grow_empty]⟩) hk R (by rw [hsz]; exact hb))
  rw [hsz] at HS
  have HC := Lib.hid hc
  clear hc hcmp R hsz hk
  go_enter Tryd.func91, Tryd.ntmps91
  go_wp2_with fail
  refine HS.out.mono ?_
  rintro e w2 ⟨rfl, d', ⟨hd1, hd2⟩, hS⟩
  have hsd : d'.size = L.length := by rw [hd1.1]; simp
  have e1 : seg d' 0 L.length = d'.toList := by rw [← hsd]; exact seg_all d'
  have e2 : seg L.toArray 0 L.length = L := by have := seg_all L.toArray; simpa using this
  have HF := Lib.hid (show Fe key L d'.toList ∧ Srt key d'.toList ∧ d'.toList.length = L.length ∧ w2.heap[blk]? = some (.cells (d'.toList.map (enc num)).toArray 3 (0, 0)) ∧ Below w.heap.size w w2 from
    ⟨by have := hd1.2.2; rwa [e1, e2] at this, by rwa [e1] at hd2, by simpa using hsd, sw_block hS HC.out (by simp [hsd]), hw.trans (sw_below hS hblk hw.size)⟩)
  clear hd1 hd2 hS hsd e1 e2 HS HC
  go_wp2_with fail
  go_end0
  exact ⟨rfl, d'.toList, HF.out⟩
theorem info_int : (Tryd.prog.info? 3).map (fun i => (i.zero, i.size, i.bytes)) = some (some (.int .i64 0), 1, 8) := by kernel_rfl
theorem run_mk (n : Nat) (hn : n ≤ 1000000) (W : World) : (Instr.makeSlice 70 (.int .i64 (n : Int)) (.int .i64 (n : Int))).run Tryd.prog W = .ok (.slice (some ⟨W.heap.size, 0, none⟩) n n) (W.alloc (.cells (madeCells #[.int .i64 0] n) 3)) := by
  obtain ⟨i, hi, hz, h1, h2⟩ := info_parts info_int
  have := run_make (P := Tryd.prog) W 70 3 i (.int .i64 0) Tryd.underlying70 hi hz .i64 .i64 n n (by omega) (Int.le_refl _) (by rw [h2]; omega) (by omega)
  rw [h1, Nat.mul_one] at this
  simpa [Value.cells] using this
set_option maxRecDepth 100000 in
set_option maxHeartbeats 8000000 in
theorem lined_any (num : α → Int) (key : α → Int) (cf : α → α → Int) (g : Nat) (cb : Array Value) (A : Option Addr) (c n : Nat) (L : List α) (w : World) (eg : ∀ args w, (callFunc g args).run Tryd.prog w = .ok (.enter g args) w) (hn : n = L.length) (hb : n ≤ 1000000) (hs : CellsIn w 1 A n (L.map (enc num)))
    (hcmp : ∀ V, Below w.heap.size w V → ∀ x y, Calls Tryd.prog g (#[enc num x, enc num y] ++ cb) V fun e V' => e = .returned (.int .i64 (cf x y)) ∧ ∃ q, V' = V.drewN q) (hk : ∀ x y, cf x y < 0 ↔ key x < key y) :
    Calls Tryd.prog 67 #[.slice A n c, .func (.func g) #[] cb] w fun e w' => ∃ Z : List α, e = .returned (.slice (some ⟨w.heap.size, 0, none⟩) n n) ∧ Fe key L Z ∧ Srt key Z ∧ Z.length = n ∧ w'.ownsRow w.heap.size 3 1 (.slice (some ⟨w.heap.size, 0, none⟩) n n) n (Z.map (enc num)) ∧ Below w.heap.size w w' := by
  have HSO := Lib.hid (fun w1 => sortStable_any num key cf g cb L w.heap.size w w1 eg (by omega) hcmp hk)
  have GA := Lib.hid hs
  have HN := Lib.hid hn
  have hmk := run_mk n hb
  clear hs hcmp hk hn
  have hcl : (madeCells #[Value.int .i64 0] n).size = n := size_madeCells _ _
  obtain ⟨z, hz⟩ : ∃ z : List Value, madeCells #[Value.int .i64 0] n = z.toArray := ⟨_, (Array.toArray_toList).symm⟩
  rw [hz] at hmk hcl
  have HZL := Lib.hid (show z.length = n from by simpa using hcl)
  clear hz hcl
  have X0 := Lib.hid (show (Tryd.prog.info? 3).map (·.size) = some 1 by kernel_rfl)
  have X1 := Lib.hid (show (w.alloc (.cells z.toArray 3)).heap[w.heap.size]? = some (.cells z.toArray 3 (0, 0)) from heap_alloc_new w _)
  have X2 := Lib.hid (show (L.map (enc num)).length = Nat.min n n by rw [List.length_map, ← HN.out]; exact (Nat.min_self n).symm)
  have X3 := Lib.hid (show 0 < (L.map (enc num)).length → (some ⟨w.heap.size, 0, none⟩ : Option Addr) = some ⟨w.heap.size, 0, none⟩ ∧ ∃ ad, A = some ad ∧ ∀ j v, (L.map (enc num))[j]? = some v → (w.alloc (.cells z.toArray 3)).cell? (ad.add j) = some v from fun hp => ⟨rfl, by
    obtain ⟨b, o, rfl, hlt, hc⟩ := GA.out.at (by rw [List.length_map, ← HN.out] at hp; exact hp)
    exact ⟨_, rfl, fun j v hv => by rw [Ro.add_plain]; exact ((grows' w _).cell (p := ⟨b, o + j, none⟩) hlt).trans (hc j v hv)⟩⟩)
  have X4 := Lib.hid (show 0 + (L.map (enc num)).length ≤ z.length by rw [List.length_map, ← HN.out, HZL.out]; omega)
  have X5 := Lib.hid (show ∀ v ∈ L.map (enc num), v.oneCell' = true by intro v hv; obtain ⟨x, _, rfl⟩ := List.mem_map.1 hv; rfl)
  go_enter Tryd.func67, Tryd.ntmps67
  go_wp2_with (refine wpList_copy_splice rfl (.tmp 9) (.tmp 10) 70 70 rfl 3 Tryd.underlying70 X0.out (some ⟨w.heap.size, 0, none⟩) A n n n c rfl rfl w.heap.size 0 z 3 X1.out (L.map (enc num)) X2.out X3.out X4.out X5.out w.heap.size w (grows' w _) (Nat.le_refl _) ?_; intro w1 hg1 hb1)
  have HG := Lib.hid (show w1.heap[w.heap.size]? = some (.cells (L.map (enc num)).toArray 3 (0, 0)) from by
    have := hg1.out
    rwa [show splice z 0 (L.map (enc num)) = L.map (enc num) by simp [splice, HZL.out, ← HN.out]] at this)
  have HB1 := Lib.hid hb1
  have HSO1 := HSO.out w1 HB1.out (Nat.le_refl _) HG.out
  rw [← HN.out] at HSO1
  have HSO2 := Lib.hid HSO1
  clear hg1 hb1 hmk HSO HSO1
  go_wp2_with fail
  refine HSO2.out.mono ?_
  rintro e w2 ⟨rfl, Z, h1, h2, h3, h4, h5⟩
  have HF := Lib.hid (And.intro h1 (And.intro h2 (And.intro h3 (And.intro h4 h5))))
  clear h1 h2 h3 h4 h5 HSO2
  go_wp2_with fail
  go_ret
  obtain ⟨h1, h2, h3, h4, h5⟩ := HF.out
  refine ⟨Z, rfl, h1, h2, h3, ⟨by rw [List.length_map, h3]; omega, .inr ⟨_, n, _, rfl, Nat.le_refl _, h4, Nat.le_refl _, by unfold maxLen; omega, by simp [h3], ?_⟩⟩, h5⟩
  simp [List.take_of_length_le, h3]
end Go.Proofs.YtjffemeeomogaaaDoor.St
