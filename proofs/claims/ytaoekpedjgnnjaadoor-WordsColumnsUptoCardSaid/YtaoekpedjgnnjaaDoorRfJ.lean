/- The contract of the document's joined. -/
import Derived.Test.YtaoekpedjgnnjaaDoorRfP
import Derived.Test.YtaoekpedjgnnjaaDoorWeA
import Derived.Lib.AppendStr
namespace Go.Proofs.YtaoekpedjgnnjaaDoor.Wd
open Go.ChangeShapes Go.WideShapes Go.ChangeAt Go.RowKit Own Bld Go.Lib Nums

theorem conv_own {w : World} {base : Nat} {v : Value} {n : Nat} {bs : List UInt8} (h : w.ownsRow base 5 1 v n (Lib.byteCells bs)) :
    (convert 39 9 v).run Tryd.prog w = .ok (.string (str bs)) w := by
  have hl : bs.length = n := by have := h.1; rw [Lib.byteCells_length] at this; omega
  obtain ⟨A, c, rfl, hs⟩ := own_src h
  rcases hs with ⟨rfl, rfl, rfl, hb⟩ | ⟨ad, rfl, hlen, hc⟩
  · have : bs = [] := List.eq_nil_of_length_eq_zero hl
    subst this
    exact run_convert_bytes_nil w 39 5 Tryd.underlying39 Tryd.underlying5 0 0 9 Tryd.underlying9
  · subst hl
    refine run_convert_bytes_back w 39 9 5 ad c bs Tryd.underlying39 Tryd.underlying5 Tryd.underlying9 (fun j hj => hc j _ ?_)
    simp [Lib.byteCells, List.getElem?_eq_getElem hj]
theorem grown_row {B : Nat} {a w w' : World} {v : Value} {base : Nat} {E : TypeId} {n : Nat} {xs : List Value} (hb : Below B a w) (ho : w.ownsRow base E 1 v n xs) (hbase : B ≤ base) (hsz : B ≤ w.heap.size) (hg : w.grownBy w' v.ownBlock) : Below B a w' := by
  refine hb.grown hg hsz fun k hk => ?_
  rcases ho.2 with ⟨rfl, _⟩ | ⟨g, cap, cur, rfl, hgb, _⟩
  · simp [Value.ownBlock] at hk
  · simp [Value.ownBlock] at hk
    omega
theorem str_cells (s : ByteArray) (acc : List UInt8) : Lib.byteCells acc ++ Lib.strCells s = Lib.byteCells (acc ++ s.data.toList) := by
  rw [Lib.byteCells_append]
  congr 1
theorem flat_take (xs : List (List UInt8)) (k : Nat) (h : k < xs.length) : (xs.take (k + 1)).flatten = (xs.take k).flatten ++ xs.getD k [] := by
  rw [take_snoc xs k h, List.flatten_append]
  simp
theorem flat_take_le (xs : List (List UInt8)) (k : Nat) : ((xs.take k).flatten).length ≤ xs.flatten.length := by
  have h := congrArg (fun l : List (List UInt8) => l.flatten.length) (List.take_append_drop k xs)
  simp only [List.flatten_append, List.length_append] at h
  omega

set_option maxRecDepth 100000 in
set_option maxHeartbeats 4000000 in
theorem joined_any (A : Option Addr) (c n : Nat) (xs : List (List UInt8)) (w : World) (hn : n = xs.length) (hnb : n ≤ 140737488355328) (hx : xs.flatten.length ≤ 4294967296) (hA : Src w A n c (strs xs)) :
    Calls Tryd.prog 25 #[.slice A n c] w fun e w' => e = .returned (.string (str xs.flatten)) ∧ Below w.heap.size w w' := by
  obtain ⟨i0, hi, hz0, hz1, hz2⟩ := info_parts info_byte
  have GA := Lib.hid hA
  have HN := Lib.hid hn
  have HL : Hid (∀ k, ((xs.take k).flatten).length ≤ 4294967296) := Lib.hid fun k => Nat.le_trans (flat_take_le xs k) hx
  clear hA hn hx
  go_enter Tryd.func25, Tryd.ntmps25
  go_wp2_with fail
  go_loopw [3, 4] (fun v3 v4 wr => ∃ k m : Nat, k ≤ n ∧ v4 = .int .i64 k ∧ Hid (m = ((xs.take k).flatten).length) ∧ wr.ownsRow w.heap.size 5 1 v3 m (Lib.byteCells (xs.take k).flatten) ∧ Below w.heap.size w wr) (fun _ v4 _ => n - (RowKit.intOf v4).toNat)
  case atStart => exact ⟨0, 0, Nat.zero_le _, rfl, Lib.hid rfl, ⟨rfl, .inl ⟨rfl, rfl⟩⟩, Below.refl _ _⟩
  case round =>
    obtain ⟨k, m, hk, rfl, HM, hown, hbw⟩ := hrel
    have HO := Lib.hid hown
    have HB := Lib.hid hbw
    have hsz := hbw.size
    clear hown hbw
    by_cases hlt : k < n
    · obtain ⟨b, o, rfl, _, hc1⟩ := src_get' (GA.out.below HB.out) (by omega)
      have hkx : k < xs.length := by rw [← HN.out]; exact hlt
      have e1 := hc1 k _ (strs_at xs k hkx)
      have HFT := Lib.hid (flat_take xs k hkx)
      have hm := HL.out k
      have hm2 := HL.out (k + 1)
      rw [HFT.out, List.length_append] at hm2
      rw [← HM.out] at hm hm2
      clear hc1 hkx
      have hxz : (str (xs.getD k [])).size ≤ 4294967296 := by rw [str_size]; omega
      have HSC := Lib.hid (str_cells (str (xs.getD k [])) (xs.take k).flatten)
      rw [str_list] at HSC
      have HXL : Hid ((str (xs.getD k [])).size = (xs.getD k []).length) := Lib.hid rfl
      generalize xs.getD k [] = x at e1 HFT HSC HXL hxz hm2
      generalize str x = X at e1 HSC HXL hxz
      go_wp2_with (at_builtin; go_must (refine Lib.wpList_append_own_string _ rfl (.tmp 11) (.tmp 15) 39 9 rfl w.heap.size 5 i0 Tryd.underlying39 Tryd.underlying9 hi hz0 hz1 hz2 _ m _ rfl HO.out X rfl (by unfold maxLen; omega) (by omega) (by omega) ?_); intro v2 w2 ho2 hg2 _)
      have HB2 := Lib.hid (grown_row HB.out HO.out (Nat.le_refl _) hsz hg2)
      rw [HSC.out, ← HFT.out] at ho2
      have HO2 := Lib.hid ho2
      have HM2 : Hid (m + X.size = ((xs.take (k + 1)).flatten).length) := Lib.hid (by rw [HFT.out, List.length_append, ← HM.out, HXL.out])
      clear ho2 hg2
      go_wp2_with fail
      go_roundw
      case rel => exact ⟨k + 1, m + X.size, by omega, by go_num, HM2, HO2.out, HB2.out⟩
      case measure => simp [RowKit.intOf]; omega
    · obtain rfl : n = k := by omega
      have HV : Hid ((xs.take n).flatten = xs.flatten) := Lib.hid (by rw [HN.out, List.take_length])
      have hcv := conv_own HO.out
      rw [HV.out] at hcv
      go_wp2_with fail
      go_ret
      exact ⟨rfl, HB.out⟩
end Go.Proofs.YtaoekpedjgnnjaaDoor.Wd
