/- slices.Sort over small numbers; the middle one of some readings, of the program. -/
import Derived.Test.YtjpimamjcckieaaDoorPqJ
import Derived.Test.YtjpimamjcckieaaDoorRo
import Derived.Laws.MakeOwn
import Derived.Laws.CopyOwn
namespace Go.Proofs.YtjpimamjcckieaaDoor.Pq
open Go.ChangeShapes Go.WideShapes Go.ChangeAt Go.RowKit Go.Sort Go.Shelf Own Ro

theorem below_sorted {B blk off m : Nat} {dk : Array Int} {os : Array Obj} (w0 : World) (hB : B ≤ blk) (hB2 : B ≤ w0.heap.size) : Below B w0 (sortWorld enc w0 blk off m dk os) := by
  refine ⟨rfl, rfl, rfl, ?_, fun k hk => ?_⟩
  · unfold sortWorld
    rw [size_grow, size_putRow]
    exact Nat.le_add_right _ _
  · unfold sortWorld putRow mapBlock grow Sort.ahead
    simp only
    rw [Array.getElem?_append_left (by simp; omega), Array.getElem?_modify, if_neg (by omega)]
theorem sw_below8 {B blk off : Nat} {dk : Array Int} {w0 W : World} (h : SW enc w0 blk off dk W) (hB : B ≤ blk) (hB2 : B ≤ w0.heap.size) : Below B w0 W := by
  obtain ⟨m, os, rfl⟩ := h
  exact below_sorted w0 hB hB2
theorem holds8 {L : List Int} {w : World} {blk : Nat} {t : TypeId} (h : w.heap[blk]? = some (.cells (L.map enc).toArray t (0, 0))) : Holds enc w blk 0 L.toArray := fun j hj => by
  have hjl : j < L.length := by simpa using hj
  rw [Nat.zero_add]
  refine ⟨?_, ?_⟩
  · unfold World.cell?
    simp only [h]
    simp [hjl]
  · unfold World.frozen?
    simp only [h]
    simp
theorem row8 {L : List Int} {w : World} {blk : Nat} {t : TypeId} (h : w.heap[blk]? = some (.cells (L.map enc).toArray t (0, 0))) : Row1 enc w blk 0 L.toArray := ⟨enc_one, holds8 h, by
  by_cases c : blk < w.heap.size
  · exact c
  · rw [Array.getElem?_eq_none (by omega)] at h
    cases h⟩

set_option maxRecDepth 100000 in
set_option maxHeartbeats 16000000 in
theorem sort_any (blk off cap n : Nat) (d0 : Array Int) (w0 : World) (R : Row1 enc w0 blk off d0) (hn : d0.size = n) (hsz : n < 1152921504606846976) :
    Calls Tryd.prog 9 #[.slice (some ⟨blk, off, none⟩) n cap] w0 fun e w' => e = .returned (.tuple #[]) ∧ ∃ d', d'.size = n ∧ d' = Sort.sort ltInt d0 ∧ SW enc w0 blk off d' w' := by
  have hLen : ∀ w, Calls Tryd.prog 11 #[.int .u64 (n : Int)] w fun e w' => e = .returned (.int .i64 (bitsLen n : Nat)) ∧ w' = w := fun w => by
    have h := Tryd.bits_Len (n : Int) w (by omega) (by omega)
    rwa [Int.toNat_natCast, bitLen_eq _ (by omega)] at h
  have hk : bitsLen n ≤ 62 := (bitsLen_le_iff n 62).2 (by omega)
  have hP := pdq_any blk off cap d0 w0 R (d0.size + 1) 0 d0.size (bitsLen n) d0 w0 (by omega) rfl (SW.start R.hH) (Nat.zero_le _) (Nat.le_refl _) (by omega) (by omega) (.inl rfl)
  have hD : Sort.sort ltInt d0 = pdq ltInt d0 0 d0.size (bitsLen n) true true := by rw [← hn]; rfl
  rw [← hD, hn, show ((0 : Nat) : Int) = 0 from rfl] at hP
  have HP := Lib.hid hP
  generalize Sort.sort ltInt d0 = DD at HP ⊢
  clear hP hD R
  go_enter Tryd.func9, Tryd.ntmps9
  go_wp2_with (first | (go_at_call 11; refine (hLen _).mono ?_; rintro e w' ⟨rfl, rfl⟩) | (go_at_call 10; refine HP.out.mono ?_; rintro e w1 ⟨rfl, d', hs', hd', S'⟩))
  go_end0
  exact ⟨rfl, d', hs', hd', S'⟩

theorem info_i8 : (Tryd.prog.info? 23).map (fun i => (i.zero, i.size, i.bytes)) = some (some (.int .i8 0), 1, 1) := by kernel_rfl
theorem run_mk8 (n : Nat) (hn : n ≤ 1000000) (W : World) : (Instr.makeSlice 22 (.int .i64 (n : Int)) (.int .i64 (n : Int))).run Tryd.prog W = .ok (.slice (some ⟨W.heap.size, 0, none⟩) n n) (W.alloc (.cells (madeCells #[.int .i8 0] n) 23)) := by
  obtain ⟨i, hi, hz, h1, h2⟩ := info_parts info_i8
  have := run_make (P := Tryd.prog) W 22 23 i (.int .i8 0) Tryd.underlying22 hi hz .i64 .i64 n n (by omega) (Int.le_refl _) (by rw [h2]; omega) (by omega)
  rw [h1, Nat.mul_one] at this
  simpa [Value.cells] using this

/-- The middle one, once they are in order. -/
def midV (L : List Int) : Int := (Sort.sort ltInt L.toArray)[(L.length - 1) / 2]!
set_option maxRecDepth 100000 in
set_option maxHeartbeats 8000000 in
theorem medianOk_any (A : Option Addr) (c n : Nat) (L : List Int) (w : World) (hn : n = L.length) (h1 : 1 ≤ n) (hb : n ≤ 4096) (hs : CellsIn w 1 A n (L.map enc)) :
    Calls Tryd.prog 6 #[.slice A n c] w fun e w' => e = .returned (.tuple #[.int .i8 (midV L), .int .i64 0]) ∧ Below w.heap.size w w' := by
  have GA := Lib.hid hs
  have HN := Lib.hid hn
  have hmk := run_mk8 n (by omega)
  have n1 : ¬ (n : Int) < 1 := by omega
  have n1b : decide ((n : Int) < 1) = false := decide_eq_false n1
  have n2 : ¬ (4096 : Int) < (n : Int) := by omega
  have n2b : decide ((4096 : Int) < (n : Int)) = false := decide_eq_false n2
  obtain ⟨m, hm⟩ : ∃ m : Nat, (n : Int) - 1 = (m : Int) := ⟨n - 1, by omega⟩
  obtain ⟨q, hq⟩ : ∃ q : Nat, (m : Int).tdiv 2 = (q : Int) := ⟨m / 2, by rw [Int.tdiv_eq_ediv_of_nonneg (by omega)]; omega⟩
  have hq' : (m : Int) / 2 = (q : Int) := by rw [Int.tdiv_eq_ediv_of_nonneg (by omega)] at hq; omega
  have HQ := Lib.hid (show q = (L.length - 1) / 2 ∧ q < n by omega)
  have wm : IntKind.i64.wrap (m : Int) = (m : Int) := by rw [IntKind.wrap_i64]; omega
  have wq : IntKind.i64.wrap (q : Int) = (q : Int) := by rw [IntKind.wrap_i64]; omega
  have q0 : (0 : Int) ≤ (q : Int) := by omega
  have q1 : (q : Int) < (n : Int) := by omega
  clear hs hn
  have hcl : (madeCells #[Value.int .i8 0] n).size = n := size_madeCells _ _
  obtain ⟨z, hz⟩ : ∃ z : List Value, madeCells #[Value.int .i8 0] n = z.toArray := ⟨_, (Array.toArray_toList).symm⟩
  rw [hz] at hmk hcl
  have HZL := Lib.hid (show z.length = n from by simpa using hcl)
  clear hz hcl
  have X0 := Lib.hid (show (Tryd.prog.info? 23).map (·.size) = some 1 by kernel_rfl)
  have X1 := Lib.hid (show (w.alloc (.cells z.toArray 23)).heap[w.heap.size]? = some (.cells z.toArray 23 (0, 0)) from heap_alloc_new w _)
  have X2 := Lib.hid (show (L.map enc).length = Nat.min n n by rw [List.length_map, ← HN.out]; exact (Nat.min_self n).symm)
  have X3 := Lib.hid (show 0 < (L.map enc).length → (some ⟨w.heap.size, 0, none⟩ : Option Addr) = some ⟨w.heap.size, 0, none⟩ ∧ ∃ ad, A = some ad ∧ ∀ j v, (L.map enc)[j]? = some v → (w.alloc (.cells z.toArray 23)).cell? (ad.add j) = some v from fun hp => ⟨rfl, by
    obtain ⟨b, o, rfl, hlt, hc⟩ := GA.out.at (by rw [List.length_map, ← HN.out] at hp; exact hp)
    exact ⟨_, rfl, fun j v hv => by rw [Ro.add_plain]; exact ((grows' w _).cell (p := ⟨b, o + j, none⟩) hlt).trans (hc j v hv)⟩⟩)
  have X4 := Lib.hid (show 0 + (L.map enc).length ≤ z.length by rw [List.length_map, ← HN.out, HZL.out]; omega)
  have X5 := Lib.hid (show ∀ v ∈ L.map enc, v.oneCell' = true by intro v hv; obtain ⟨x, _, rfl⟩ := List.mem_map.1 hv; rfl)
  go_enter Tryd.func6, Tryd.ntmps6
  go_wp2_with (refine wpList_copy_splice rfl (.tmp 16) (.tmp 17) 22 22 rfl 23 Tryd.underlying22 X0.out (some ⟨w.heap.size, 0, none⟩) A n n n c rfl rfl w.heap.size 0 z 23 X1.out (L.map enc) X2.out X3.out X4.out X5.out w.heap.size w (grows' w _) (Nat.le_refl _) ?_; intro w1 hg1 hb1)
  have HG := Lib.hid (show w1.heap[w.heap.size]? = some (.cells (L.map enc).toArray 23 (0, 0)) from by
    have := hg1.out
    rwa [show splice z 0 (L.map enc) = L.map enc by simp [splice, HZL.out, ← HN.out]] at this)
  have HB1 := Lib.hid hb1
  have HSO := Lib.hid (sort_any w.heap.size 0 n n L.toArray w1 (row8 HG.out) (by simpa using HN.out.symm) (by omega))
  clear hg1 hb1 hmk
  go_wp2_with fail
  refine HSO.out.mono ?_
  rintro e w2 ⟨rfl, d', hs', hd', S'⟩
  have HB2 := Lib.hid (HB1.out.trans (sw_below8 S' (Nat.le_refl _) HB1.out.size))
  have hc := S'.c1 (row8 HG.out) (by rw [hs']; simpa using HN.out) q (by rw [hs']; exact HQ.out.2)
  rw [Nat.zero_add, hd', HQ.out.1] at hc
  rw [← HQ.out.1] at hc
  replace hc : w2.cell? ⟨w.heap.size, q, none⟩ = some (.int .i8 (midV L)) := by rw [hc]; unfold midV enc; rw [← HQ.out.1]
  generalize w.heap.size = g at hc ⊢
  clear S' hd' hs'
  go_wp2_with fail
  go_ret2
  exact ⟨rfl, HB2.out⟩
set_option maxRecDepth 100000 in
set_option maxHeartbeats 8000000 in
theorem medianBad_any (A : Option Addr) (c n : Nat) (w : World) (h : n < 1 ∨ 4096 < n) :
    Calls Tryd.prog 6 #[.slice A n c] w fun e w' => e = .returned (.tuple #[.int .i8 0, .int .i64 1]) ∧ w' = w := by
  by_cases h1 : n < 1
  · obtain rfl : n = 0 := by omega
    go_enter Tryd.func6, Tryd.ntmps6
    go_wp2
    go_ret2
    exact ⟨rfl, rfl⟩
  · have n1 : ¬ (n : Int) < 1 := by omega
    have n1b : decide ((n : Int) < 1) = false := decide_eq_false n1
    have n2 : (4096 : Int) < (n : Int) := by omega
    have n2b : decide ((4096 : Int) < (n : Int)) = true := decide_eq_true n2
    clear h h1
    go_enter Tryd.func6, Tryd.ntmps6
    go_wp2
    go_ret2
    exact ⟨rfl, rfl⟩
/-- Of nothing but noughts the middle one is nought. -/
theorem midV_zero (n : Nat) (hn : 0 < n) : midV (List.replicate n 0) = 0 := by
  have hp := (sort_sorts ltInt swo_ltInt (List.replicate n (0 : Int)).toArray).1
  have hsz : (List.replicate n (0 : Int)).toArray.size = n := by simp
  have ha := permIn_all _ _ 0 (List.replicate n (0 : Int)).toArray.size (fun x => x = 0) (Nat.le_refl _) hp (fun i h1 h2 => by rw [getElem!_pos _ i h2]; simp)
  unfold midV
  exact ha _ (Nat.zero_le _) (by rw [List.length_replicate, hsz]; omega)
end Go.Proofs.YtjpimamjcckieaaDoor.Pq
