/- The contracts of Texts, the document's and the program's: one and the same. -/
import Derived.Test.YtfafhkhamaccfaaClF
namespace Go.Proofs.Ytfafhkhamaccfaa.Cl
open Go.ChangeShapes Go.WideShapes Go.ChangeAt Go.RowKit Own

/-- The texts that end in l, of which the first begins with cur, and what stands behind the last end. -/
def split : List UInt8 → List UInt8 → List (List UInt8) × List UInt8
  | cur, [] => ([], cur)
  | cur, c :: l => if c = 0 then (cur :: (split [] l).1, (split [] l).2) else split (cur ++ [c]) l
theorem split_append : ∀ (a b cur : List UInt8), split cur (a ++ b) = ((split cur a).1 ++ (split (split cur a).2 b).1, (split (split cur a).2 b).2)
  | [], b, cur => by simp [split]
  | c :: a, b, cur => by
    simp only [List.cons_append, split]
    by_cases hc : c = 0
    · simp only [hc, if_true, split_append a b []]
      simp
    · simp only [hc, if_false, split_append a b (cur ++ [c])]
theorem split_snoc (l : List UInt8) (c : UInt8) : split [] (l ++ [c]) = if c = 0 then ((split [] l).1 ++ [(split [] l).2], []) else ((split [] l).1, (split [] l).2 ++ [c]) := by
  rw [split_append]
  by_cases hc : c = 0 <;> simp [split, hc]
theorem split_plain : ∀ (t cur : List UInt8), (∀ i, i < t.length → t.getD i 0 ≠ 0) → split cur t = ([], cur ++ t)
  | [], cur, _ => by simp [split]
  | c :: t, cur, h => by
    have hc : c ≠ 0 := by have := h 0 (by simp); simpa using this
    rw [split, if_neg hc, split_plain t (cur ++ [c]) (fun i hi => by have := h (i + 1) (by simp; omega); simpa using this)]
    simp
theorem zat_ahead : ∀ (l : List UInt8) (i : Nat), i < zat l → l.getD i 0 ≠ 0
  | [], i, h => by simp [zat] at h
  | c :: l, i, h => by
    unfold zat at h
    by_cases hc : c = 0
    · simp [hc] at h
    · rw [if_neg hc] at h
      match i, h with
      | 0, _ => simpa using hc
      | i + 1, h => simpa using zat_ahead l i (by omega)
theorem zat_zero : ∀ (l : List UInt8), zat l < l.length → l.getD (zat l) 0 = 0
  | [], h => by simp [zat] at h
  | c :: l, h => by
    unfold zat at h ⊢
    by_cases hc : c = 0
    · simp [hc]
    · rw [if_neg hc] at h ⊢
      simpa using zat_zero l (by simp at h; omega)
theorem take_zat (l : List UInt8) (h : zat l < l.length) : l.take (zat l + 1) = l.take (zat l) ++ [0] := by
  rw [List.take_succ_eq_append_getElem h]
  have := zat_zero l h
  rw [List.getD_eq_getElem?_getD, List.getElem?_eq_getElem h] at this
  simp at this
  rw [this]
theorem plain_take (l : List UInt8) (n : Nat) (h : n ≤ zat l) : ∀ i, i < (l.take n).length → (l.take n).getD i 0 ≠ 0 := fun i hi => by
  have hn : i < n := by simp at hi; omega
  rw [getD_take l i n hn]
  exact zat_ahead l i (by omega)
/-- One text more. -/
theorem split_next (p rest : List UInt8) (ts : List (List UInt8)) (h : split [] p = (ts, [])) (hz : zat rest < rest.length) : split [] (p ++ rest.take (zat rest + 1)) = (ts ++ [rest.take (zat rest)], []) := by
  rw [split_append, h, take_zat rest hz]
  simp only
  rw [split_append, split_plain _ _ (plain_take rest _ (Nat.le_refl _))]
  simp [split]
theorem split_end (p rest : List UInt8) (ts : List (List UInt8)) (h : split [] p = (ts, [])) (hz : rest.length ≤ zat rest) : split [] (p ++ rest) = (ts, rest) := by
  have ht : rest.take (zat rest) = rest := List.take_of_length_le hz
  have hp := plain_take rest (zat rest) (Nat.le_refl _)
  rw [ht] at hp
  rw [split_append, h]
  simp only
  rw [split_plain rest [] hp]
  simp
theorem split_last (l : List UInt8) (hl : 0 < l.length) : ((split [] l).2 = [] ↔ l.getD (l.length - 1) 0 = 0) := by
  have hd : l = l.take (l.length - 1) ++ [l.getD (l.length - 1) 0] := by
    have h := List.take_succ_eq_append_getElem (l := l) (i := l.length - 1) (by omega)
    rw [List.getD_eq_getElem?_getD, List.getElem?_eq_getElem (by omega)]
    rw [List.take_of_length_le (by omega)] at h
    exact h
  generalize l.getD (l.length - 1) 0 = c at hd ⊢
  generalize l.take (l.length - 1) = a at hd
  subst hd
  rw [split_snoc]
  by_cases hc : c = 0 <;> simp [hc]
theorem split_len : ∀ (l cur : List UInt8), (split cur l).1.length ≤ l.length
  | [], cur => by simp [split]
  | c :: l, cur => by
    unfold split
    split
    · have := split_len l []
      simp; omega
    · have := split_len l (cur ++ [c])
      simp; omega
def str (l : List UInt8) : ByteArray := ⟨l.toArray⟩
theorem str_list (l : List UInt8) : (str l).data.toList = l := rfl
def tx (l : List UInt8) : List ByteArray := if (split [] l).2 = [] then (split [] l).1.map str else []
def etx (l : List UInt8) : Int := if (split [] l).2 = [] then 0 else 4
theorem strs_snoc (xs : List (List UInt8)) (x : List UInt8) : strs ((xs ++ [x]).map str) = strs (xs.map str) ++ [.string (str x)] := by simp [strs]

set_option maxHeartbeats 1000000 in
theorem refTexts_any (v : ByteArray) (w : World) (hv : v.size ≤ 67108864) :
    Calls Try.prog 59 #[.string v] w (Made 9 (strs (tx v.data.toList)) (etx v.data.toList) w) := by
  have hz : v.data.toList.length = v.size := rfl
  have HZ := Lib.hid hz
  clear hz
  by_cases hemp : v.size = 0
  · have hl : v.data.toList = [] := List.eq_nil_of_length_eq_zero (by rw [HZ.out, hemp])
    have hv0 : v = ByteArray.empty := bytes_ext (by rw [hl]; rfl)
    subst hv0
    clear hemp HZ hv hl
    go_enter Try.func59, Try.ntmps59
    go_wp2
    go_rounds 1
    go_ret2
    exact made_none _ _ _ _ (Below.refl _ _)
  · have hne : v.data.toList.isEmpty = false := by
      rw [List.isEmpty_eq_false_iff]
      intro h
      have := HZ.out
      rw [h] at this
      simp at this
      omega
    have hne2 : v.toList.isEmpty = false := by rw [Lib.toList_data]; exact hne
    have HL := Lib.hid (split_last v.data.toList (by rw [HZ.out]; omega))
    have hg : v.data.toList.getD (v.size - 1) 0 = v[v.size - 1] := by
      rw [List.getD_eq_getElem?_getD, List.getElem?_eq_getElem (by have := HZ.out; omega)]; rfl
    have HG := Lib.hid hg
    clear hg
    have hidx : ((v.size : Int) - 1).toNat = v.size - 1 := by omega
    by_cases h0 : v[v.size - 1] = 0
    · have HT : Hid ((split [] v.data.toList).2 = []) := Lib.hid (HL.out.2 (by rw [HZ.out, HG.out]; exact h0))
      have hb : (v[v.size - 1].toNat : Int) = 0 := by rw [h0]; rfl
      have HTX : Hid (tx v.data.toList = (split [] v.data.toList).1.map str) := Lib.hid (if_pos HT.out)
      have HE : Hid (etx v.data.toList = 0) := Lib.hid (if_pos HT.out)
      go_enter Try.func59, Try.ntmps59
      go_wp2
      clear hb h0 hidx hne hne2
      go_loopw [4, 5, 6] (fun s f i wr => ∃ k j n : Nat, k ≤ v.size ∧ j ≤ k ∧ i = .int .i64 k ∧ f = .int .i64 j ∧ n = (split [] (v.data.toList.take k)).1.length ∧ (split [] (v.data.toList.take k)).2 = (v.data.toList.take k).drop j ∧ wr.ownsRow w.heap.size 9 1 s n (strs ((split [] (v.data.toList.take k)).1.map str)) ∧ Below w.heap.size w wr) (fun _ _ i _ => v.size - (intOf i).toNat)
      case atStart => exact ⟨0, 0, 0, by omega, by omega, rfl, rfl, rfl, rfl, own_nil w _ _, Below.refl _ _⟩
      case round =>
        obtain ⟨k, j, n, hk, hj, rfl, rfl, hn, hcur, hown, hbw⟩ := hrel
        have HN := Lib.hid hn
        have HC := Lib.hid hcur
        have HO := Lib.hid hown
        have HB := Lib.hid hbw
        have hsz := hbw.size
        have hnk : n ≤ 67108864 := by
          have := split_len (v.data.toList.take k) []
          simp at this
          omega
        clear hn hcur hown hbw
        by_cases hlt : k < v.size
        · have HS := Lib.hid (take_snoc v k hlt)
          have HSN := Lib.hid (split_snoc (v.data.toList.take k) v[k])
          by_cases hc : v[k] = 0
          · have hb : (v[k].toNat : Int) = 0 := by rw [hc]; rfl
            have HSP : Hid (split [] (v.data.toList.take (k + 1)) = ((split [] (v.data.toList.take k)).1 ++ [(v.data.toList.take k).drop j], [])) := Lib.hid (by rw [HS.out, HSN.out, if_pos hc, HC.out])
            have HX : Hid (v.extract j k = str ((v.data.toList.take k).drop j)) := Lib.hid (bytes_ext (by rw [extract_list]; rfl))
            clear hc
            go_wp2_with (at_builtin; go_must (refine wpList_append_src rfl (.tmp 27) (.tmp 32) 49 rfl w.heap.size 9 (.string ByteArray.empty) 16 Try.underlying49 info_str rfl _ n (strs ((split [] (v.data.toList.take k)).1.map str)) rfl (HO.out.alloc _) _ 1 1 [.string (v.extract j k)] rfl (src_new _ _ _) (by intro u hu; simp at hu; subst hu; rfl) (by omega) (by omega) (by simp; omega) ?_); intro v1 w2 hown1 hg1)
            have HO1 := Lib.hid hown1
            have HB1 := Lib.hid (below_grown HB.out hsz HO.out (Nat.le_refl _) hg1)
            clear hown1 hg1
            go_wp2_with fail
            go_roundw
            case rel =>
              refine ⟨k + 1, k + 1, n + 1, by omega, by omega, by go_num, by go_num, ?_, ?_, ?_, HB1.out⟩
              · rw [HSP.out, HN.out]; simp
              · rw [HSP.out]; simp
              · rw [HSP.out, strs_snoc, ← HX.out]; exact HO1.out
            case measure => simp [intOf]; omega
          · have hb : ((v[k].toNat : Int) == 0) = false := by
              rw [beq_eq_false_iff_ne]
              intro h
              exact hc (UInt8.toNat_inj.1 (by simpa using h))
            have HSP : Hid (split [] (v.data.toList.take (k + 1)) = ((split [] (v.data.toList.take k)).1, (v.data.toList.take k).drop j ++ [v[k]])) := Lib.hid (by rw [HS.out, HSN.out, if_neg hc, HC.out])
            have HD : Hid ((v.data.toList.take (k + 1)).drop j = (v.data.toList.take k).drop j ++ [v[k]]) := Lib.hid (by
              rw [HS.out, List.drop_append_of_le_length (by simp; have := HZ.out; omega)])
            clear hc
            go_wp2_with fail
            go_roundw
            case rel =>
              refine ⟨k + 1, j, n, by omega, by omega, by go_num, rfl, ?_, ?_, ?_, HB.out⟩
              · rw [HSP.out]; exact HN.out
              · rw [HSP.out, HD.out]
              · rw [HSP.out]; exact HO.out
            case measure => simp [intOf]; omega
        · obtain rfl : k = v.size := by omega
          have HTA : Hid (v.data.toList.take v.size = v.data.toList) := Lib.hid (List.take_of_length_le (by rw [HZ.out]; omega))
          go_wp2_with fail
          go_ret2
          rw [HTX.out, HE.out]
          have h1 := HO.out
          have h2 := HN.out
          rw [HTA.out] at h1 h2
          exact made_own (by rw [strs_len, List.length_map]; exact h2) h1 HB.out
    · have HT : Hid ((split [] v.data.toList).2 ≠ []) := Lib.hid (fun h => h0 (by have := HL.out.1 h; rw [HZ.out, HG.out] at this; exact this))
      have HTX : Hid (tx v.data.toList = []) := Lib.hid (if_neg HT.out)
      have HE : Hid (etx v.data.toList = 4) := Lib.hid (if_neg HT.out)
      have hb : ((v[v.size - 1].toNat : Int) != 0) = true := by
        rw [bne_iff_ne]
        intro h
        exact h0 (UInt8.toNat_inj.1 (by simpa using h))
      go_enter Try.func59, Try.ntmps59
      go_wp2
      go_ret2
      rw [HTX.out, HE.out]
      exact made_none _ _ _ _ (Below.refl _ _)
end Go.Proofs.Ytfafhkhamaccfaa.Cl
