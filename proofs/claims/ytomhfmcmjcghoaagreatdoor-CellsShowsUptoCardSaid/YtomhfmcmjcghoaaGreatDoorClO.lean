/- The contracts of OfU32s and OfU64s, the program's and the document's: one and the same. -/
import Derived.Test.YtomhfmcmjcghoaaGreatDoorClN
namespace Go.Proofs.YtomhfmcmjcghoaaGreatDoor.Cl
open Go.ChangeShapes Go.WideShapes Go.ChangeAt Go.RowKit Own

def vOf (k : Nat) (xs : List Nat) : List UInt8 := xs.flatMap fun x => be x k
theorem vOf_snoc (k : Nat) (xs : List Nat) (x : Nat) : vOf k (xs ++ [x]) = vOf k xs ++ be x k := by simp [vOf]
theorem vOf_len (k : Nat) : ∀ xs : List Nat, (vOf k xs).length = k * xs.length
  | [] => by simp [vOf]
  | x :: xs => by
    have := vOf_len k xs
    simp only [vOf, List.flatMap_cons, List.length_append, be_len, List.length_cons] at this ⊢
    rw [Nat.mul_add]
    omega
theorem take_getD (xs : List Nat) (i : Nat) (h : i < xs.length) : xs.take (i + 1) = xs.take i ++ [xs.getD i 0] := by
  rw [List.take_succ_eq_append_getElem h, List.getD_eq_getElem?_getD, List.getElem?_eq_getElem h]
  rfl
def Lim (b : Nat) (xs : List Nat) : Prop := ∀ i, i < xs.length → xs.getD i 0 < b
theorem appendCell_z (base : Nat) (v : Value) (m n : Nat) (z : Int) (bs : List UInt8) (w : World) (hz : z = (n : Int)) (hn : n < 4294967296) (hm : m ≤ 1073741824) (hb : base ≤ w.heap.size) (ho : w.ownsRow base 5 1 v m (Lib.byteCells bs)) :
    Calls Tryz.prog 37 #[v, .int .u32 z] w fun e w' => ∃ v', e = .returned v' ∧ w'.ownsRow base 5 1 v' (m + 4) (Lib.byteCells (bs ++ be n 4)) ∧ w.grownBy w' v.ownBlock := by
  subst hz
  exact appendCell_any base v m n bs w hn hm hb ho
theorem grown_row {w w1 w2 : World} {base : Nat} {E : TypeId} {v : Value} {n : Nat} {xs : List Value} (hb : Below base w w1) (ho : w1.ownsRow base E 1 v n xs) (hB : base ≤ w1.heap.size) (hg : w1.grownBy w2 v.ownBlock) : Below base w w2 :=
  hb.trans (below_of_grown hg hB (fun q hq => (own_int ho q hq).1))
theorem str_append (a b : List UInt8) : str a ++ str b = str (a ++ b) := bytes_ext (by simp [str])
def StrIs (st : ByteArray) (l : List UInt8) : Prop := st = str l
theorem ret_string {a b : ByteArray} (h : a = b) : Ending.returned (.string a) = .returned (.string b) := by rw [h]

set_option maxHeartbeats 1000000 in
theorem of32_any (A : Option Addr) (c n : Nat) (xs : List Nat) (w : World) (hn : n = xs.length) (hx : n ≤ 2097152) (hl : Lim 4294967296 xs) (hA : Src w A n c (nats .u32 xs)) :
    Calls Tryz.prog 12 #[.slice A n c] w fun e w' => e = .returned (.string (str (vOf 4 xs))) ∧ Below w.heap.size w w' := by
  obtain ⟨i0, hi, hz0, hz1, hz2⟩ := info_parts info_u8
  obtain ⟨wm, hmk, hown0, hgr0⟩ := run_make_own (P := Tryz.prog) w w.heap.size 54 5 i0 (.int .u8 0) 1 Tryz.underlying54 hi hz0 hz1 .i64 .i64 (4 * n) (by rw [hz2]; omega) (by unfold maxLen; omega) (Nat.le_refl _)
  have e4 : ((4 * n : Nat) : Int) = 4 * (n : Int) := by omega
  rw [e4] at hmk
  have HN := Lib.hid hn
  have HL := Lib.hid hl
  have GA := Lib.hid hA
  have HO0 := Lib.hid hown0
  have HG0 := Lib.hid hgr0
  have hs0 := hgr0.size
  clear hn hl hA hown0 hgr0 e4 hi hz0 hz1 hz2
  go_enter Tryz.func12, Tryz.ntmps12
  go_wp2_with fail
  clear hmk
  go_loopw [3, 12] (fun s i wr => ∃ j : Nat, j ≤ n ∧ i = .int .i64 j ∧ wr.ownsRow w.heap.size 5 1 s (4 * j) (Lib.byteCells (vOf 4 (xs.take j))) ∧ Below w.heap.size w wr) (fun _ i _ => n - (intOf i).toNat)
  case atStart => exact ⟨0, by omega, rfl, by simpa [vOf, Lib.byteCells] using HO0.out, below_of_grown HG0.out (Nat.le_refl _) (fun q hq => by cases hq)⟩
  case round =>
    obtain ⟨j, hj, rfl, hown, hbw⟩ := hrel
    have HO := Lib.hid hown
    have HB := Lib.hid hbw
    have hsz := hbw.size
    clear hown hbw
    by_cases hlt : j < n
    · obtain ⟨b, o, rfl, hbl, hc1⟩ := src_get (GA.out.below HB.out) (by omega)
      have hjx : j < xs.length := by rw [← HN.out]; exact hlt
      have e1 := hc1 j _ (nats_at .u32 xs j hjx)
      have hxl := HL.out j hjx
      have HT := Lib.hid (take_getD xs j hjx)
      generalize xs.getD j 0 = x at e1 hxl HT
      clear hc1 hjx
      go_wp2_with fail
      refine (appendCell_any w.heap.size _ (4 * j) x _ _ hxl (by omega) hsz HO.out).mono ?_
      rintro e w2 ⟨v2, rfl, ho2, hg2⟩
      have HO2 := Lib.hid ho2
      have HB2 := Lib.hid (grown_row HB.out HO.out hsz hg2)
      clear ho2 hg2
      go_wp2_with fail
      go_roundw
      case rel =>
        refine ⟨j + 1, by omega, by go_num, ?_, HB2.out⟩
        rw [HT.out, vOf_snoc]
        exact HO2.out
      case measure => simp [intOf]; omega
    · obtain rfl : n = j := by omega
      have HT : Hid (xs.take n = xs) := Lib.hid (List.take_of_length_le (by rw [HN.out]; omega))
      have h1 := HO.out
      rw [HT.out] at h1
      have hcv := conv_own h1
      clear h1
      go_wp2_with fail
      go_ret
      exact ⟨rfl, HB.out⟩

set_option maxHeartbeats 1000000 in
theorem of64_any (A : Option Addr) (c n : Nat) (xs : List Nat) (w : World) (hn : n = xs.length) (hx : n ≤ 2097152) (hl : Lim 18446744073709551616 xs) (hA : Src w A n c (nats .u64 xs)) :
    Calls Tryz.prog 14 #[.slice A n c] w fun e w' => e = .returned (.string (str (vOf 8 xs))) ∧ Below w.heap.size w w' := by
  obtain ⟨i0, hi, hz0, hz1, hz2⟩ := info_parts info_u8
  obtain ⟨wm, hmk, hown0, hgr0⟩ := run_make_own (P := Tryz.prog) w w.heap.size 54 5 i0 (.int .u8 0) 1 Tryz.underlying54 hi hz0 hz1 .i64 .i64 (8 * n) (by rw [hz2]; omega) (by unfold maxLen; omega) (Nat.le_refl _)
  have e4 : ((8 * n : Nat) : Int) = 8 * (n : Int) := by omega
  rw [e4] at hmk
  have HN := Lib.hid hn
  have HL := Lib.hid hl
  have GA := Lib.hid hA
  have HO0 := Lib.hid hown0
  have HG0 := Lib.hid hgr0
  have hs0 := hgr0.size
  clear hn hl hA hown0 hgr0 e4 hi hz0 hz1 hz2
  go_enter Tryz.func14, Tryz.ntmps14
  go_wp2_with fail
  clear hmk
  go_loopw [3, 12] (fun s i wr => ∃ j : Nat, j ≤ n ∧ i = .int .i64 j ∧ wr.ownsRow w.heap.size 5 1 s (8 * j) (Lib.byteCells (vOf 8 (xs.take j))) ∧ Below w.heap.size w wr) (fun _ i _ => n - (intOf i).toNat)
  case atStart => exact ⟨0, by omega, rfl, by simpa [vOf, Lib.byteCells] using HO0.out, below_of_grown HG0.out (Nat.le_refl _) (fun q hq => by cases hq)⟩
  case round =>
    obtain ⟨j, hj, rfl, hown, hbw⟩ := hrel
    have HO := Lib.hid hown
    have HB := Lib.hid hbw
    have hsz := hbw.size
    clear hown hbw
    by_cases hlt : j < n
    · obtain ⟨b, o, rfl, hbl, hc1⟩ := src_get (GA.out.below HB.out) (by omega)
      have hjx : j < xs.length := by rw [← HN.out]; exact hlt
      have e1 := hc1 j _ (nats_at .u64 xs j hjx)
      have hxl := HL.out j hjx
      have HT := Lib.hid (take_getD xs j hjx)
      generalize xs.getD j 0 = x at e1 hxl HT
      clear hc1 hjx
      go_wp2_with fail
      refine (appendCell_z w.heap.size _ (8 * j) (x / 4294967296) _ _ _ (by omega) (by omega) (by omega) hsz HO.out).mono ?_
      rintro e w2 ⟨v2, rfl, ho2, hg2⟩
      have HO2 := Lib.hid ho2
      have HB2 := Lib.hid (grown_row HB.out HO.out hsz hg2)
      have hsz2 : w.heap.size ≤ w2.heap.size := Nat.le_trans hsz hg2.size
      clear ho2 hg2
      go_wp2_with fail
      refine (appendCell_z w.heap.size _ (8 * j + 4) (x % 4294967296) _ _ _ (by omega) (by omega) (by omega) hsz2 HO2.out).mono ?_
      rintro e w3 ⟨v3, rfl, ho3, hg3⟩
      have HO3 := Lib.hid ho3
      have HB3 := Lib.hid (grown_row HB2.out HO2.out hsz2 hg3)
      clear ho3 hg3
      go_wp2_with fail
      go_roundw
      case rel =>
        refine ⟨j + 1, by omega, by go_num, ?_, HB3.out⟩
        have h3 := HO3.out
        rw [List.append_assoc, be_pair] at h3
        rw [HT.out, vOf_snoc]
        exact h3
      case measure => simp [intOf]; omega
    · obtain rfl : n = j := by omega
      have HT : Hid (xs.take n = xs) := Lib.hid (List.take_of_length_le (by rw [HN.out]; omega))
      have h1 := HO.out
      rw [HT.out] at h1
      have hcv := conv_own h1
      clear h1
      go_wp2_with fail
      go_ret
      exact ⟨rfl, HB.out⟩

end Go.Proofs.YtomhfmcmjcghoaaGreatDoor.Cl
