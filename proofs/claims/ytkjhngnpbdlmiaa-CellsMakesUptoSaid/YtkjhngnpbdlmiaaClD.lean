/- The contracts of the document's readers: Wide and Text; the program's Text. -/
import Derived.Test.YtkjhngnpbdlmiaaClC
import Derived.Test.YtkjhngnpbdlmiaaShelf
namespace Go.Proofs.Ytkjhngnpbdlmiaa.Cl
open Go.ChangeShapes Go.WideShapes Go.ChangeAt Go.RowKit

theorem rf_step {w : World} {r : Nat} {s s' : ByteArray} (h : Rf w r s) : Rf (w.setCell ⟨r, 0, none⟩ (.string s')) r s' ∧ w.grownBy (w.setCell ⟨r, 0, none⟩ (.string s')) (some r) := by
  unfold Rf at h
  constructor
  · unfold Rf
    simp [World.setCell, Array.getElem?_modify, h]
  · exact ⟨rfl, rfl, rfl, by simp [World.setCell], fun i _ hn => Below.heap_setCell w _ _ i (by
      rintro rfl
      exact hn rfl)⟩
theorem extract_list (s : ByteArray) (i j : Nat) : (s.extract i j).data.toList = (s.data.toList.take j).drop i := by
  simp [ByteArray.data_extract, List.extract_eq_take_drop, List.drop_take]
theorem rwide_arg (r : Nat) (n : Int) (w : World) (hn : n < 0 ∨ 2 < n) :
    Calls Try.prog 28 #[.pointer (some ⟨r, 0, none⟩), .int .i64 n] w fun e w' => e = .returned (.tuple #[.int .u64 0, .int .i64 1]) ∧ w = w' := by
  rcases hn with hn | hn
  · go_enter Try.func28, Try.ntmps28
    go_wp2
    go_ret2
    exact ⟨rfl, rfl⟩
  · have hn' : ¬ n < 0 := by omega
    go_enter Try.func28, Try.ntmps28
    go_wp2
    go_ret2
    exact ⟨rfl, rfl⟩
theorem rwide_form (r : Nat) (s : ByteArray) (n : Nat) (w : World) (hn : n ≤ 2) (h : Rf w r s) (hl : s.size < 4 * n) :
    Calls Try.prog 28 #[.pointer (some ⟨r, 0, none⟩), .int .i64 n] w fun e w' => e = .returned (.tuple #[.int .u64 0, .int .i64 4]) ∧ w = w' := by
  have c0 : w.cell? ⟨r, 0, none⟩ = some (.string s) := by rw [cell_heap h]; rfl
  clear h
  go_enter Try.func28, Try.ntmps28
  go_wp2
  go_ret2
  exact ⟨rfl, rfl⟩
theorem rwide_ok (r : Nat) (s : ByteArray) (n : Nat) (w : World) (hn : n ≤ 2) (h : Rf w r s) (hl : 4 * n ≤ s.size) :
    Calls Try.prog 28 #[.pointer (some ⟨r, 0, none⟩), .int .i64 n] w fun e w' => e = .returned (.tuple #[.int .u64 (num (s.data.toList.take (4 * n)) : Int), .int .i64 0]) ∧ Rf w' r (s.extract (4 * n) s.size) ∧ w.grownBy w' (some r) := by
  have c0 : w.cell? ⟨r, 0, none⟩ = some (.string s) := by rw [cell_heap h]; rfl
  have f0 : w.frozen? ⟨r, 0, none⟩ = false := free_heap h 0
  have HR := Lib.hid h
  clear h
  go_enter Try.func28, Try.ntmps28
  go_wp2_with fail
  refine (number_any _ _ (by simp; omega)).mono ?_
  rintro e w1 ⟨rfl, rfl⟩
  go_wp2
  go_ret2
  exact ⟨ret_two rfl, (rf_step HR.out).1, (rf_step HR.out).2⟩

theorem rwide_any (r : Nat) (s : ByteArray) (n : Int) (w : World) (h : Rf w r s) :
    Calls Try.prog 28 #[.pointer (some ⟨r, 0, none⟩), .int .i64 n] w fun e w' => e = .returned (.tuple #[.int .u64 ((wideV s.data.toList n).1 : Int), .int .i64 (wideV s.data.toList n).2.1]) ∧ (∃ s', s'.data.toList = (wideV s.data.toList n).2.2 ∧ Rf w' r s') ∧ w.grownBy w' (some r) := by
  by_cases hn : n < 0 ∨ 2 < n
  · rw [wideV_arg hn]
    refine (rwide_arg r n w hn).mono ?_
    rintro e w' ⟨rfl, rfl⟩
    exact ⟨rfl, ⟨s, rfl, h⟩, World.grownBy.refl w _⟩
  · obtain ⟨k, rfl⟩ : ∃ k : Nat, n = (k : Int) := ⟨n.toNat, by omega⟩
    have hz : s.data.toList.length = s.size := rfl
    by_cases hl : s.size < 4 * k
    · rw [wideV_form (by omega) (by omega)]
      refine (rwide_form r s k w (by omega) h hl).mono ?_
      rintro e w' ⟨rfl, rfl⟩
      exact ⟨rfl, ⟨s, rfl, h⟩, World.grownBy.refl w _⟩
    · rw [wideV_ok (by omega) (by omega)]
      refine (rwide_ok r s k w (by omega) h (by omega)).mono ?_
      rintro e w' ⟨rfl, h1, h2⟩
      exact ⟨rfl, ⟨_, by rw [extract_list, List.take_of_length_le (by omega)], h1⟩, h2⟩

theorem ret_str {a b : ByteArray} {v : Value} (h : a = b) : Ending.returned (.tuple #[.string a, v]) = .returned (.tuple #[.string b, v]) := by rw [h]
theorem bytes_ext {a b : ByteArray} (h : a.data.toList = b.data.toList) : a = b := by
  cases a; cases b; simp at h; simp [h]

set_option maxHeartbeats 1000000 in
theorem rtext_any (r : Nat) (s : ByteArray) (w : World) (h : Rf w r s) (hs : s.size ≤ maxLen) :
    Calls Try.prog 31 #[.pointer (some ⟨r, 0, none⟩)] w fun e w' => e = .returned (.tuple #[.string ⟨(textV s.data.toList).1.toArray⟩, .int .i64 (textV s.data.toList).2.1]) ∧ (∃ s', s'.data.toList = (textV s.data.toList).2.2 ∧ Rf w' r s') ∧ w.grownBy w' (some r) := by
  unfold maxLen at hs
  have hz : s.data.toList.length = s.size := rfl
  have hzl := zat_le s.data.toList
  have c0 : w.cell? ⟨r, 0, none⟩ = some (.string s) := by rw [cell_heap h]; rfl
  have f0 : w.frozen? ⟨r, 0, none⟩ = false := free_heap h 0
  have HR := Lib.hid h
  have HZ := Lib.hid hz
  clear h hz
  go_enter Try.func31, Try.ntmps31
  go_wp2
  go_loop [4] (fun i => ∃ k : Nat, k ≤ zat s.data.toList ∧ i = .int .i64 k) (fun i => s.size - (intOf i).toNat)
  case atStart => exact ⟨0, Nat.zero_le _, rfl⟩
  case round =>
    obtain ⟨k, hk, rfl⟩ := hrel
    have hks : k ≤ s.size := by have := HZ.out; omega
    by_cases hlt : k < s.size
    · have hst := zat_step s.data.toList k hk (by have := HZ.out; omega)
      have hg : s.data.toList.getD k 0 = s[k] := by
        rw [List.getD_eq_getElem?_getD, List.getElem?_eq_getElem (by have := HZ.out; omega)]; rfl
      rw [hg] at hst
      by_cases h0 : s[k] = 0
      · have HK := Lib.hid (hst.1 h0)
        have hb : (s[k].toNat : Int) = 0 := by rw [h0]; rfl
        clear hst hg h0
        go_wp2
        go_ret2
        have ht : textV s.data.toList = (s.data.toList.take k, 0, s.data.toList.drop (k + 1)) := by
          unfold textV; rw [HK.out, if_pos (by have := HZ.out; omega)]
        rw [ht]
        exact ⟨ret_str (bytes_ext (by rw [extract_list]; simp)), ⟨_, by rw [extract_list, List.take_of_length_le (by have := HZ.out; omega)], (rf_step HR.out).1⟩, (rf_step HR.out).2⟩
      · have hk1 := hst.2 h0
        have hb : ((s[k].toNat : Int) == 0) = false := by
          rw [beq_eq_false_iff_ne]
          intro hc
          exact h0 (UInt8.toNat_inj.1 (by simpa using hc))
        clear hst hg h0
        go_wp2
        go_round
        case rel => exact ⟨k + 1, by omega, by go_num⟩
        case measure => simp [intOf]; omega
    · obtain rfl : k = s.size := by omega
      have ht : Hid (textV s.data.toList = ([], 4, s.data.toList)) := Lib.hid (by
        unfold textV; rw [if_neg (by have := HZ.out; omega)])
      go_wp2
      go_ret2
      rw [ht.out]
      exact ⟨rfl, ⟨s, rfl, HR.out⟩, World.grownBy.refl w _⟩

theorem toU8 : (0 : Int).toNat.toUInt8 = 0 := rfl
theorem getD_take (l : List UInt8) (j k : Nat) (h : j < k) : (l.take k).getD j 0 = l.getD j 0 := by
  rw [List.getD_eq_getElem?_getD, List.getElem?_take, if_pos h, ← List.getD_eq_getElem?_getD]

set_option maxHeartbeats 1000000 in
theorem text_any (r g : Nat) (l : List UInt8) (w : World) (h : Rd w r g l) (hs : l.length ≤ maxLen) :
    Calls Try.prog 32 #[.pointer (some ⟨r, 0, none⟩)] w fun e w' => e = .returned (.tuple #[.string ⟨(textV l).1.toArray⟩, .int .i64 (textV l).2.1]) ∧ Rd w' r g (textV l).2.2 ∧ w.grownBy w' (some r) := by
  unfold maxLen at hs
  have hzl := zat_le l
  have HR := Lib.hid h
  obtain ⟨off, c, hb, hc, hne, hglt, hcell⟩ := h
  have c0 : w.cell? ⟨r, 0, none⟩ = some (.slice (some ⟨g, off, none⟩) l.length c) := by rw [cell_heap hb]; rfl
  have f0 : w.frozen? ⟨r, 0, none⟩ = false := free_heap hb 0
  have HI := Lib.hid (indexByte_zat l)
  have HBY : Hid (Lib.Bytes w g off ⟨l.toArray⟩) := Lib.hid fun i hi => by
    have hi' : i < l.length := by simpa [ByteArray.size] using hi
    rw [hcell i hi', List.getD_eq_getElem?_getD, List.getElem?_eq_getElem hi']
    rfl
  have HB := Lib.hid hb
  have HC := Lib.hid hcell
  clear hb hcell
  by_cases hz : zat l < l.length
  · have HT : Hid (textV l = (l.take (zat l), 0, l.drop (zat l + 1))) := Lib.hid (if_pos hz)
    have HI2 : Hid (Lib.indexByte l 0 = (zat l : Int)) := Lib.hid (by rw [HI.out, if_pos hz])
    clear HI
    generalize hk : zat l = k at hz HT HI2 hzl
    clear hk
    have hconv : ∀ cc, (convert 70 9 (.slice (some ⟨g, off, none⟩) k cc)).run Try.prog w = .ok (.string ⟨(l.take k).toArray⟩) w := fun cc => by
      have hl : (l.take k).length = k := by simp; omega
      have := run_convert_bytes_back (P := Try.prog) w 70 9 5 ⟨g, off, none⟩ cc (l.take k) Try.underlying70 Try.underlying5 Try.underlying9 (fun j hj => by
        have hj' : j < l.length := by omega
        have h1 := HC.out j hj'
        have h2 : (⟨g, off, none⟩ : Addr).add j = ⟨g, off + j, none⟩ := by
          unfold Addr.add
          split
          · rename_i e; subst e; rfl
          · rfl
        rw [h2, h1, List.getD_eq_getElem?_getD, List.getElem?_eq_getElem hj']
        simp)
      rw [hl] at this
      exact this
    have HCV := hconv
    go_enter Try.func32, Try.ntmps32
    go_wp2_with fail
    refine (Try.bytes_IndexByte_bytes g off c ⟨l.toArray⟩ 0 w HBY.out).mono ?_
    rintro e w1 ⟨rfl, rfl⟩
    rw [toU8, HI2.out]
    by_cases hck : c = k + 1
    · subst hck
      go_wp2_with fail
      go_ret2
      rw [HT.out]
      have hst := rd_step (m := k + 1) HB.out hne hglt HC.out (Below.refl _ _) off 0 0 (.inr (by omega)) (by omega) (by omega)
      exact ⟨rfl, hst.1, hst.2⟩
    · go_wp2_with fail
      go_ret2
      rw [HT.out]
      have hst := rd_step (m := k + 1) HB.out hne hglt HC.out (Below.refl _ _) (off + (k + 1)) (l.length - (k + 1)) (c - (k + 1)) (.inl rfl) rfl (by omega)
      exact ⟨rfl, hst.1, hst.2⟩
  · have HT : Hid (textV l = ([], 4, l)) := Lib.hid (if_neg hz)
    have HI2 : Hid (Lib.indexByte l 0 = -1) := Lib.hid (by rw [HI.out, if_neg hz])
    clear HI hz hzl
    go_enter Try.func32, Try.ntmps32
    go_wp2_with fail
    refine (Try.bytes_IndexByte_bytes g off c ⟨l.toArray⟩ 0 w HBY.out).mono ?_
    rintro e w1 ⟨rfl, rfl⟩
    rw [toU8, HI2.out]
    go_wp2_with fail
    go_ret2
    rw [HT.out]
    exact ⟨rfl, HR.out, World.grownBy.refl _ _⟩
end Go.Proofs.Ytkjhngnpbdlmiaa.Cl
