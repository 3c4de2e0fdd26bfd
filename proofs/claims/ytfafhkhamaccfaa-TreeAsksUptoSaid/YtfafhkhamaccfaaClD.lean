/- The contracts of the document's readers: Wide and Text; the program's Text. -/
import Derived.Test.YtfafhkhamaccfaaClC
import Derived.Test.YtfafhkhamaccfaaShelf
namespace Go.Proofs.Ytfafhkhamaccfaa.Cl
open Go.ChangeShapes Go.WideShapes Go.ChangeAt Go.RowKit

theorem extract_list (s : ByteArray) (i j : Nat) : (s.extract i j).data.toList = (s.data.toList.take j).drop i := by
  simp [ByteArray.data_extract, List.extract_eq_take_drop, List.drop_take]
theorem ret_str {a b : ByteArray} {v : Value} (h : a = b) : Ending.returned (.tuple #[.string a, v]) = .returned (.tuple #[.string b, v]) := by rw [h]
theorem bytes_ext {a b : ByteArray} (h : a.data.toList = b.data.toList) : a = b := by
  cases a; cases b; simp at h; simp [h]

theorem toU8 : (0 : Int).toNat.toUInt8 = 0 := rfl
theorem getD_take (l : List UInt8) (j k : Nat) (h : j < k) : (l.take k).getD j 0 = l.getD j 0 := by
  rw [List.getD_eq_getElem?_getD, List.getElem?_take, if_pos h, ← List.getD_eq_getElem?_getD]

set_option maxHeartbeats 1000000 in
theorem text_any (r g : Nat) (l : List UInt8) (w : World) (h : Rd w r g l) (hs : l.length ≤ maxLen) :
    Calls Try.prog 58 #[.pointer (some ⟨r, 0, none⟩)] w fun e w' => e = .returned (.tuple #[.string ⟨(textV l).1.toArray⟩, .int .i64 (textV l).2.1]) ∧ Rd w' r g (textV l).2.2 ∧ w.grownBy w' (some r) := by
  unfold maxLen at hs
  have hzl := zat_le l
  have HR := Lib.hid h
  obtain ⟨off, c, hb, hc, hne, hglt, hcell⟩ := h
  have c0 : w.cell? ⟨r, 0, none⟩ = some (.slice (some ⟨g, off, none⟩) l.length c) := by rw [cell_heap hb]; rfl
  have f0 : w.frozen? ⟨r, 0, none⟩ = false := free_heap hb 0
  have HI := Lib.hid (indexByte_zat l)
  have HBY : Hid (Lib.Bytes w g off ⟨l.toArray⟩) := Lib.hid fun i hi => by
    have hi' : i < l.length := by simpa [ByteArray.size] using hi
    rw [hcell i hi', List.getD_eq_getElem?_getD, List.getElem?_eq_getElem hi']
    rfl
  have HB := Lib.hid hb
  have HC := Lib.hid hcell
  clear hb hcell
  by_cases hz : zat l < l.length
  · have HT : Hid (textV l = (l.take (zat l), 0, l.drop (zat l + 1))) := Lib.hid (if_pos hz)
    have HI2 : Hid (Lib.indexByte l 0 = (zat l : Int)) := Lib.hid (by rw [HI.out, if_pos hz])
    clear HI
    generalize hk : zat l = k at hz HT HI2 hzl
    clear hk
    have hconv : ∀ cc, (convert 92 9 (.slice (some ⟨g, off, none⟩) k cc)).run Try.prog w = .ok (.string ⟨(l.take k).toArray⟩) w := fun cc => by
      have hl : (l.take k).length = k := by simp; omega
      have := run_convert_bytes_back (P := Try.prog) w 92 9 5 ⟨g, off, none⟩ cc (l.take k) Try.underlying92 Try.underlying5 Try.underlying9 (fun j hj => by
        have hj' : j < l.length := by omega
        have h1 := HC.out j hj'
        have h2 : (⟨g, off, none⟩ : Addr).add j = ⟨g, off + j, none⟩ := by
          unfold Addr.add
          split
          · rename_i e; subst e; rfl
          · rfl
        rw [h2, h1, List.getD_eq_getElem?_getD, List.getElem?_eq_getElem hj']
        simp)
      rw [hl] at this
      exact this
    have HCV := hconv
    go_enter Try.func58, Try.ntmps58
    go_wp2_with fail
    refine (Try.bytes_IndexByte_bytes g off c ⟨l.toArray⟩ 0 w HBY.out).mono ?_
    rintro e w1 ⟨rfl, rfl⟩
    rw [toU8, HI2.out]
    by_cases hck : c = k + 1
    · subst hck
      go_wp2_with fail
      go_ret2
      rw [HT.out]
      have hst := rd_step (m := k + 1) HB.out hne hglt HC.out (Below.refl _ _) off 0 0 (.inr (by omega)) (by omega) (by omega)
      exact ⟨rfl, hst.1, hst.2⟩
    · go_wp2_with fail
      go_ret2
      rw [HT.out]
      have hst := rd_step (m := k + 1) HB.out hne hglt HC.out (Below.refl _ _) (off + (k + 1)) (l.length - (k + 1)) (c - (k + 1)) (.inl rfl) rfl (by omega)
      exact ⟨rfl, hst.1, hst.2⟩
  · have HT : Hid (textV l = ([], 4, l)) := Lib.hid (if_neg hz)
    have HI2 : Hid (Lib.indexByte l 0 = -1) := Lib.hid (by rw [HI.out, if_neg hz])
    clear HI hz hzl
    go_enter Try.func58, Try.ntmps58
    go_wp2_with fail
    refine (Try.bytes_IndexByte_bytes g off c ⟨l.toArray⟩ 0 w HBY.out).mono ?_
    rintro e w1 ⟨rfl, rfl⟩
    rw [toU8, HI2.out]
    go_wp2_with fail
    go_ret2
    rw [HT.out]
    exact ⟨rfl, HR.out, World.grownBy.refl _ _⟩
end Go.Proofs.Ytfafhkhamaccfaa.Cl
