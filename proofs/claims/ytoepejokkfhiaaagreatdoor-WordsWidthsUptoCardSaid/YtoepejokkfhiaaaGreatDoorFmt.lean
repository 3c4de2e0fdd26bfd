/- The digits of a number to the base 16, and the contract of the library's writer of them. -/
import Derived.Test.YtoepejokkfhiaaaGreatDoorProg
import Derived.WalkKit
import Derived.ProofKit
import Derived.WalkLawsBesides
import Derived.WalkSpells
import Derived.Outline
import Derived.Handy
import Derived.Lib.Hide
import Derived.Laws.BitsAllLaws
import Derived.Laws.BitsLemmas
import Derived.Laws.IdiomStrings
import Derived.Below
import Derived.Lib.ItoaMem
import Derived.Laws.Slices
namespace Go.Proofs.YtoepejokkfhiaaaGreatDoor.Nums
open Go.ChangeShapes Go.WideShapes Go.ChangeAt Go.RowKit

theorem tz16 (w : World) (h : w.cell? ⟨7, 15, none⟩ = some (.int .u8 4)) :
    Calls Tryz.prog 96 #[.int .u64 16] w fun e w' => e = .returned (.int .i64 4) ∧ w = w' := by
  have e : (IntKind.u64.wrap (bits BinOp.and IntKind.u64 16 (IntKind.u64.wrap (-16)) * 285870213051353865) / 288230376151711744).toNat = 15 := by decide +kernel
  have h' : w.cell? ⟨7, (IntKind.u64.wrap (bits BinOp.and IntKind.u64 16 (IntKind.u64.wrap (-16)) * 285870213051353865) / 288230376151711744).toNat, none⟩ = some (.int .u8 4) := by rw [e]; exact h
  clear e h
  go_enter Tryz.func96, Tryz.ntmps96
  go_wp2
  go_ret
  exact ⟨rfl, rfl⟩

theorem pow2_16 (w : World) : Calls Tryz.prog 95 #[.int .i64 16] w fun e w' => e = .returned (.bool true) ∧ w = w' := by
  go_enter Tryz.func95, Tryz.ntmps95
  go_wp2
  go_ret
  exact ⟨rfl, rfl⟩

def dg (n : Nat) : UInt8 := if n < 10 then UInt8.ofNat (48 + n) else UInt8.ofNat (87 + n)
/-- The digits of a number below 16^f, to the base 16. -/
def hx : Nat → Nat → List UInt8
  | 0, _ => []
  | f + 1, n => if n < 16 then [dg n] else hx f (n / 16) ++ [dg (n % 16)]

theorem hx_step (f n : Nat) (h : ¬ n < 16) : hx (f + 1) n = hx f (n / 16) ++ [dg (n % 16)] := by rw [hx, if_neg h]
theorem hx_last (f n : Nat) (h : n < 16) : hx (f + 1) n = [dg n] := by rw [hx, if_pos h]
theorem pow_le (m : Nat) (h : m ≤ 1) : 16 ^ m ≤ 16 := by
  rcases m with _ | m
  · decide
  · obtain rfl : m = 0 := by omega
    decide
theorem div_lt (n m : Nat) (h : n < 16 ^ (m + 1)) : n / 16 < 16 ^ m := by
  rw [Nat.pow_succ] at h
  exact Nat.div_lt_of_lt_mul (by rw [Nat.mul_comm]; exact h)
def table : ByteArray := ⟨#[48, 49, 50, 51, 52, 53, 54, 55, 56, 57, 97, 98, 99, 100, 101, 102, 103, 104, 105, 106, 107, 108, 109, 110, 111, 112, 113, 114, 115, 116, 117, 118, 119, 120, 121, 122]⟩
theorem table_size : table.size = 36 := by decide +kernel
theorem dg0 : ∀ k : Fin 16, table[k.val]'(by rw [table_size]; omega) = dg k.val := by decide +kernel
theorem dg_at (n : Nat) (h : n < 16) (h' : n < table.size) : table[n]'h' = dg n := dg0 ⟨n, h⟩
theorem and15 (n : Nat) (h : n < 18446744073709551616) : bits .and .u64 (n : Int) 15 = ((n % 16 : Nat) : Int) := by
  have := u64_and_nat n 15 h (by omega)
  rw [show ((15 : Nat) : Int) = 15 from rfl] at this
  rw [this]
  congr 1
  exact Nat.and_two_pow_sub_one_eq_mod n 4

/-- The block of digits, the last 'tail.length' of its 65 cells written. -/
def Blk (w : World) (B : Nat) (tail : List UInt8) : Prop :=
  ∃ cs : Array Value, w.heap[B]? = some (.cells cs 126 (0, 0)) ∧ cs.size = 65 ∧ tail.length ≤ 65 ∧ (∀ i, i < 65 → ∃ n, cs[i]? = some (.int .u8 n)) ∧ ∀ k (h : k < tail.length), cs[65 - tail.length + k]? = some (.int .u8 (tail[k].toNat : Int))

theorem Blk.put {w : World} {B : Nat} {tail : List UInt8} {cs : Array Value} (hcs : w.heap[B]? = some (.cells cs 126 (0, 0))) (hsz : cs.size = 65) (htl : tail.length ≤ 64)
    (hall : ∀ i, i < 65 → ∃ n, cs[i]? = some (.int .u8 n)) (htail : ∀ k (h : k < tail.length), cs[65 - tail.length + k]? = some (.int .u8 (tail[k].toNat : Int))) (d : UInt8) (at_ : Nat) (hat : at_ = 64 - tail.length) :
    Blk (w.setCell ⟨B, at_, none⟩ (.int .u8 (d.toNat : Int))) B (d :: tail) := by
  subst hat
  refine ⟨cs.setIfInBounds (64 - tail.length) (.int .u8 (d.toNat : Int)), heap_setCell_same w B _ cs 126 _ hcs, by simpa using hsz, by simp; omega, ?_, ?_⟩
  · intro i hi
    rw [Array.getElem?_setIfInBounds]
    split
    · rw [if_pos (by omega)]; exact ⟨_, rfl⟩
    · exact hall i hi
  · intro k hk
    rw [Array.getElem?_setIfInBounds]
    simp only [List.length_cons] at hk ⊢
    rcases k with _ | k
    · rw [if_pos (by omega), if_pos (by omega)]; rfl
    · rw [if_neg (by omega), show 65 - (tail.length + 1) + (k + 1) = 65 - tail.length + k from by omega, htail k (by omega)]
      rfl
def zeros65 : Array Value := Array.replicate 65 (.int .u8 0)
theorem zero65 (W : World) : (zeroValue 126).run Tryz.prog W = .ok (.agg zeros65) W := by kernel_rfl
theorem zeros65_size : zeros65.size = 65 := by simp [zeros65]
theorem zeros65_ne : ¬ zeros65 = #[] := by
  intro h
  have := zeros65_size
  rw [h] at this
  simp at this
theorem Blk.start (w : World) : Blk (w.alloc (.cells zeros65 126)) w.heap.size [] := by
  refine ⟨_, heap_alloc_new w _, by simp [zeros65], by simp, fun i hi => ⟨0, ?_⟩, fun k h => absurd h (by simp)⟩
  rw [zeros65, Array.getElem?_replicate, if_pos hi]

set_option maxHeartbeats 4000000 in
set_option maxRecDepth 100000 in
theorem format_any (u : Nat) (hu : u < 18446744073709551616) (w : World) (h : w.cell? ⟨7, 15, none⟩ = some (.int .u8 4)) :
    Calls Tryz.prog 68 #[.slice none 0 0, .int .u64 u, .int .i64 16, .bool false, .bool false] w fun e w' => e = .returned (.tuple #[.slice none 0 0, .string ⟨(hx 16 u).toArray⟩]) ∧ Below w.heap.size w w' := by
  have HC := Lib.hid h
  clear h
  have hz65 := zero65
  have hs65 := zeros65_size
  have hn65 := zeros65_ne
  go_enter Tryz.func68, Tryz.ntmps68
  go_wp2_with (first
    | (go_at_call 95; refine (pow2_16 _).mono ?_; rintro e w' ⟨rfl, rfl⟩)
    | (go_at_call 96; refine (tz16 _ ((World.cell?_alloc_lt _ _ _ (World.block_lt_of_cell? _ _ HC.out)).trans HC.out)).mono ?_; rintro e w' ⟨rfl, rfl⟩))
  go_loopw [1, 13] (fun vu vi wr => ∃ (j n : Nat) (i : Int) (tail : List UInt8), j ≤ 15 ∧ n < 18446744073709551616 ∧ vu = .int .u64 n ∧ vi = .int .i64 i ∧ Hid (i = (65 : Int) - j ∧ tail.length = j ∧ n < 16 ^ (16 - j) ∧ hx 16 u = hx (16 - j) n ++ tail ∧ Blk wr w.heap.size tail ∧ Below w.heap.size w wr)) (fun vu _ _ => (intOf vu).toNat)
  case atStart => exact ⟨0, u, 65, [], by omega, hu, rfl, rfl, rfl, rfl, hu, by simp, Blk.start w, (Below.refl _ _).alloc (Nat.le_refl _) _⟩
  case round =>
    obtain ⟨j, n, i, tail, hj, hn, rfl, rfl, hh⟩ := hrel
    obtain ⟨hi, ht, hp, hx16, ⟨cs, hcs, hsz, htl, hall, htail⟩, hbel⟩ := hh.out
    clear hh
    have hi0 : 50 ≤ i := by omega
    have hi1 : i ≤ 65 := by omega
    obtain ⟨x, hx'⟩ := hall (i.toNat - 1) (by omega)
    have hcell : wr.cell? ⟨w.heap.size, (i.toNat - 1), none⟩ = some (.int .u8 x) := by rw [cell_of_row wr w.heap.size _ cs 126 (0, 0) hcs]; exact hx'
    have hfr : wr.frozen? ⟨w.heap.size, (i.toNat - 1), none⟩ = false := frozen_of_row wr w.heap.size _ cs 126 hcs
    have H0 := Lib.hid hi
    have H1 := Lib.hid ht
    have H2 := Lib.hid hp
    have H3 := Lib.hid hx16
    have H4 := Lib.hid hcs
    have H5 := Lib.hid hsz
    have H6 := Lib.hid hall
    have H7 := Lib.hid htail
    have H8 := Lib.hid hbel
    clear ht hp hx16 hcs hsz hall htail hbel htl hx'
    by_cases hge : 16 ≤ n
    · have hj14 : j ≤ 14 := by
        apply Nat.le_of_not_lt
        intro hlt
        have := pow_le (16 - j) (by omega)
        have := H2.out
        omega
      have ha := and15 n hn
      clear hi
      go_wp2
      refine ⟨⟨j + 1, n / 16, i - 1, dg (n % 16) :: tail, by omega, by omega, by go_num, rfl, ?_⟩, by simp [intOf]; omega⟩
      refine ⟨by have := H0.out; omega, by simp [H1.out], ?_, ?_, ?_, ?_⟩
      · have := H2.out
        rw [show 16 - j = (16 - (j + 1)) + 1 from by omega] at this
        exact div_lt _ _ this
      · rw [H3.out, show 16 - j = (16 - (j + 1)) + 1 from by omega, hx_step _ _ (by omega)]
        simp
      · have hlt : n % 16 < table.size := by rw [table_size]; omega
        have := Blk.put H4.out H5.out (by have := H1.out; omega) H6.out H7.out (table[n % 16]'hlt) (i.toNat - 1) (by have := H0.out; have := H1.out; omega)
        rw [dg_at _ (by omega)] at this
        rw [← dg_at _ (by omega) hlt]
        rw [← dg_at _ (by omega) hlt] at this
        exact this
      · exact H8.out.setCell (p := ⟨w.heap.size, _, none⟩) (Nat.le_refl _) _
    · have hlt : n < table.size := by rw [table_size]; omega
      have hal : Tryz.prog.arrayLen 126 = 65 := by kernel_rfl
      have hel : Tryz.prog.elem 126 = 5 := by kernel_rfl
      have hsl : ∀ W : World, (Instr.sliceAt 126 (.pointer (some ⟨w.heap.size, 0, none⟩)) (some (.int .i64 (i - 1))) none none).run Tryz.prog W = .ok (.slice (some ⟨w.heap.size, i.toNat - 1, none⟩) (65 - (i.toNat - 1)) (65 - (i.toNat - 1))) W := fun W => by
        rw [run_sliceAt_array_l W 126 ⟨w.heap.size, 0, none⟩ (by kernel_rfl) .i64 (i - 1) (by omega) (by rw [hal]; omega), hal, hel, show (i - 1).toNat = i.toNat - 1 from by omega]
        go_simp
        omega
      have hput := Blk.put H4.out H5.out (by have := H1.out; omega) H6.out H7.out (table[n]'hlt) (i.toNat - 1) (by have := H0.out; have := H1.out; omega)
      have hfin : hx 16 u = dg n :: tail := by
        rw [H3.out, show 16 - j = (15 - j) + 1 from by omega, hx_last _ _ (by omega)]
        rfl
      have hcv : (convert 60 9 (.slice (some ⟨w.heap.size, i.toNat - 1, none⟩) (65 - (i.toNat - 1)) (65 - (i.toNat - 1)))).run Tryz.prog (wr.setCell ⟨w.heap.size, i.toNat - 1, none⟩ (.int .u8 (((⟨#[48, 49, 50, 51, 52, 53, 54, 55, 56, 57, 97, 98, 99, 100, 101, 102, 103, 104, 105, 106, 107, 108, 109, 110, 111, 112, 113, 114, 115, 116, 117, 118, 119, 120, 121, 122]⟩ : ByteArray)[n]'hlt).toNat : Int))) = .ok (.string ⟨(hx 16 u).toArray⟩) (wr.setCell ⟨w.heap.size, i.toNat - 1, none⟩ (.int .u8 (((⟨#[48, 49, 50, 51, 52, 53, 54, 55, 56, 57, 97, 98, 99, 100, 101, 102, 103, 104, 105, 106, 107, 108, 109, 110, 111, 112, 113, 114, 115, 116, 117, 118, 119, 120, 121, 122]⟩ : ByteArray)[n]'hlt).toNat : Int))) := by
        obtain ⟨cs', hcs', _, _, _, ht'⟩ := hput
        have e0 := H0.out
        have e1 := H1.out
        rw [dg_at _ (by omega)] at ht'
        have hlen : 65 - (i.toNat - 1) = (hx 16 u).length := by rw [hfin, List.length_cons, e1]; omega
        rw [hlen]
        refine run_convert_bytes_back _ 60 9 5 ⟨w.heap.size, i.toNat - 1, none⟩ _ (hx 16 u) Tryz.underlying60 Tryz.underlying5 Tryz.underlying9 (fun k hk => ?_)
        rw [Lib.add_plain]
        have hc2 : (wr.setCell ⟨w.heap.size, i.toNat - 1, none⟩ (.int .u8 (((⟨#[48, 49, 50, 51, 52, 53, 54, 55, 56, 57, 97, 98, 99, 100, 101, 102, 103, 104, 105, 106, 107, 108, 109, 110, 111, 112, 113, 114, 115, 116, 117, 118, 119, 120, 121, 122]⟩ : ByteArray)[n]'hlt).toNat : Int))).cell? ⟨w.heap.size, i.toNat - 1 + k, none⟩ = cs'[i.toNat - 1 + k]? := cell_of_row _ w.heap.size _ cs' 126 (0, 0) hcs'
        rw [hc2]
        have hk' : k < (dg n :: tail).length := by rw [← hfin]; exact hk
        have := ht' k hk'
        rw [show 65 - (dg n :: tail).length + k = i.toNat - 1 + k from by simp only [List.length_cons]; omega] at this
        rw [this]
        simp only [hfin]
      clear hput hal hel hi
      have HF := Lib.hid hfin
      clear hfin
      have HCV := Lib.hid hcv
      clear hcv
      go_wp2
      erw [HCV.out]
      go_wp2
      go_ret2
      exact ⟨rfl, H8.out.setCell (p := ⟨w.heap.size, _, none⟩) (Nat.le_refl _) _⟩
def digitsS (u : Nat) : ByteArray := ⟨(hx 16 u).toArray⟩

theorem formatInner (u : Nat) (hu : u < 18446744073709551616) (w : World) (hv : w.cell? ⟨7, 15, none⟩ = some (.int .u8 4)) :
    Calls Tryz.prog 71 #[.int .u64 u, .int .i64 16] w fun e w' => e = .returned (.string (digitsS u)) ∧ Below w.heap.size w w' := by
  have HV := Lib.hid hv
  clear hv
  go_enter Tryz.func71, Tryz.ntmps71
  go_wp2_with fail
  refine (format_any u hu _ HV.out).mono ?_
  rintro e w1 ⟨rfl, hb1⟩
  have HB := Lib.hid hb1
  clear hb1
  go_wp2_with fail
  go_ret
  exact ⟨rfl, HB.out⟩
theorem formatUint_any (u : Nat) (hu : u < 18446744073709551616) (w : World) (hv : w.cell? ⟨7, 15, none⟩ = some (.int .u8 4)) :
    Calls Tryz.prog 47 #[.int .u64 u, .int .i64 16] w fun e w' => e = .returned (.string (digitsS u)) ∧ Below w.heap.size w w' := by
  have HV := Lib.hid hv
  clear hv
  go_enter Tryz.func47, Tryz.ntmps47
  go_wp2_with fail
  refine (formatInner u hu _ HV.out).mono ?_
  rintro e w1 ⟨rfl, hb1⟩
  have HB := Lib.hid hb1
  clear hb1
  go_wp2_with fail
  go_ret
  exact ⟨rfl, HB.out⟩
end Go.Proofs.YtoepejokkfhiaaaGreatDoor.Nums
