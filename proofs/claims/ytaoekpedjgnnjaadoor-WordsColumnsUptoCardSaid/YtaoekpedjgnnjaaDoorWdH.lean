/- The contract of Fields. -/
import Derived.Test.YtaoekpedjgnnjaaDoorWdG
import Derived.Laws.OwnMore
namespace Go.Proofs.YtaoekpedjgnnjaaDoor.Wd
open Go.ChangeShapes Go.WideShapes Go.ChangeAt Go.RowKit Own Bld Go.Lib Nums

theorem weQ_le (len : Nat) : ∀ (n i : Nat) (l : List UInt8), l.length ≤ n → i + l.length ≤ len → weQ len i l ≤ len
  | 0, i, l, h, _ => by
    rw [List.eq_nil_of_length_eq_zero (by omega : l.length = 0), weQ_nil]
    exact Nat.le_refl _
  | n + 1, i, [], _, _ => by rw [weQ_nil]; exact Nat.le_refl _
  | n + 1, i, c :: l, h, hi => by
    simp at h hi
    by_cases h92 : c = 92
    · rw [h92, weQ_esc]
      cases l with
      | nil => simp [weQ_nil]
      | cons d l => exact weQ_le len n (i + 2) _ (by simp at h ⊢; omega) (by simp at hi ⊢; omega)
    · by_cases h34 : c = 34
      · rw [h34, weQ_end]; omega
      · rw [weQ_else _ _ _ _ h92 h34]
        exact weQ_le len n (i + 1) l (by omega) (by omega)
theorem indexByte_lt : ∀ (l : List UInt8) (c : UInt8), Lib.indexByte l c < l.length ∨ l = [] ∧ Lib.indexByte l c = -1
  | [], c => .inr ⟨rfl, rfl⟩
  | b :: l, c => by
    left
    unfold Lib.indexByte
    split
    · simp
      try omega
    · split
      · simp
        try omega
      · rcases indexByte_lt l c with h | ⟨h, h2⟩
        · simp; omega
        · simp; omega
theorem endW_bd (l : List UInt8) : 0 ≤ endW l ∧ endW l ≤ l.length := by
  unfold endW
  split
  · rename_i hp
    cases l with
    | nil => cases hp
    | cons c l =>
      have := weQ_le (c :: l).length l.length 1 ((c :: l).drop 1) (by simp) (by simp; omega)
      exact ⟨by omega, by omega⟩
  · split
    · rename_i h
      rcases indexByte_lt l 32 with h2 | ⟨h2, h3⟩
      · exact ⟨h, by omega⟩
      · omega
    · exact ⟨by omega, by omega⟩
def fldF : Nat → List UInt8 → Option (List (List UInt8))
  | 0, _ => none
  | f + 1, l =>
    if (readW (l.take (endW l).toNat)).2 = false then none
    else if (endW l).toNat = l.length then some [(readW (l.take (endW l).toNat)).1]
    else if l.getD (endW l).toNat 0 ≠ 32 then none
    else (fldF f (l.drop ((endW l).toNat + 1))).map ((readW (l.take (endW l).toNat)).1 :: ·)
/-- The words of a line. -/
def fieldsW (l : List UInt8) : Option (List (List UInt8)) := if l = [] then some [] else fldF (l.length + 1) l
theorem info_str : (Tryd.prog.info? 9).map (fun i => (i.zero, i.size, i.bytes)) = some (some (.string ByteArray.empty), 1, 16) := by kernel_rfl
theorem src_new (w : World) (v : Value) (t : TypeId) : Src (w.alloc (.cells #[v] t)) (some ⟨w.heap.size, 0, none⟩) 1 1 [v] :=
  .inr ⟨_, rfl, rfl, fun j u hu => by
    match j, hu with
    | 0, hu => simp at hu; subst hu; simp [Addr.add]⟩
def strs (xs : List (List UInt8)) : List Value := xs.map fun x => .string (str x)
theorem strs_len (xs : List (List UInt8)) : (strs xs).length = xs.length := by simp [strs]
theorem strs_snoc (xs : List (List UInt8)) (x : List UInt8) : strs (xs ++ [x]) = strs xs ++ [.string (str x)] := by simp [strs]
theorem below_grown' {B : Nat} {a w w' : World} {v : Value} {base : Nat} {E : TypeId} {n : Nat} {xs : List Value} {o : Obj} (hb : Below B a w) (hB : B ≤ w.heap.size) (ho : w.ownsRow base E 1 v n xs) (hbase : B ≤ base) (hg : (w.alloc o).grownBy w' v.ownBlock) : Below B a w' := by
  refine (hb.alloc hB o).grown hg (by simp; omega) fun k hk => ?_
  rcases ho.2 with ⟨rfl, _⟩ | ⟨g, cap, cur, rfl, hgb, _⟩
  · simp [Value.ownBlock] at hk
  · simp [Value.ownBlock] at hk
    omega
/-- What a call hands out that makes a list of texts beside an error. -/
def Made (xs : List (List UInt8)) (er : Int) (w : World) (e : Ending) (w' : World) : Prop :=
  ∃ A n c, n = xs.length ∧ e = .returned (.tuple #[.slice A n c, .int .i64 er]) ∧ w'.ownsRow w.heap.size 9 1 (.slice A n c) n (strs xs) ∧ Below w.heap.size w w'
theorem made_none (er : Int) (w w' : World) (hb : Below w.heap.size w w') : Made [] er w (.returned (.tuple #[.slice none 0 0, .int .i64 er])) w' :=
  ⟨none, 0, 0, rfl, rfl, own_nil w' _ _, hb⟩
theorem made_own {xs : List (List UInt8)} {er : Int} {w w' : World} {v : Value} {n : Nat} (hn : n = xs.length) (ho : w'.ownsRow w.heap.size 9 1 v n (strs xs)) (hb : Below w.heap.size w w') : Made xs er w (.returned (.tuple #[v, .int .i64 er])) w' := by
  obtain ⟨A, c, rfl, _⟩ := own_src ho
  exact ⟨A, n, c, hn, rfl, ho, hb⟩
def fldR (l : List UInt8) : List (List UInt8) × Int := match fieldsW l with
  | some T => (T, 0)
  | none => ([], 4)
theorem ext_take (s : ByteArray) (n : Nat) : s.extract 0 n = str (s.data.toList.take n) := bytes_ext (by
  rw [str_list, extract_data]
  simp)

set_option maxRecDepth 100000 in
set_option maxHeartbeats 4000000 in
theorem fields_any (s : ByteArray) (w : World) (hs : s.size ≤ 16777216) (he : En w) :
    Calls Tryd.prog 14 #[.string s] w (Made (fldR s.data.toList).1 (fldR s.data.toList).2 w) := by
  have HE := Lib.hid he
  have hz : s.data.toList.length = s.size := rfl
  clear he
  by_cases h0 : s.size = 0
  · have hl : s.data.toList = [] := List.eq_nil_of_length_eq_zero (by omega)
    have HV : Hid (fldR s.data.toList = ([], 0)) := Lib.hid (by rw [hl]; rfl)
    have hne : (s.toList == []) = true := by rw [Lib.toList_data, hl]; rfl
    have hne2 : s.toList.isEmpty = true := by rw [Lib.toList_data, hl]; rfl
    clear hl h0 hz
    go_enter Tryd.func14, Tryd.ntmps14
    go_wp2_with fail
    go_ret2
    rw [HV.out]
    exact made_none _ _ _ (Below.refl _ _)
  · have hl : s.data.toList ≠ [] := fun h => h0 (by rw [← hz, h]; rfl)
    have HF : Hid (fieldsW s.data.toList = fldF (s.size + 1) s.data.toList) := Lib.hid (by unfold fieldsW; rw [if_neg hl, hz])
    have hne : (s.toList == []) = false := by rw [Lib.toList_data, beq_eq_false_iff_ne]; exact hl
    have hne2 : s.toList.isEmpty = false := by rw [Lib.toList_data, List.isEmpty_eq_false_iff]; exact hl
    clear hl hz
    go_enter Tryd.func14, Tryd.ntmps14
    go_wp2_with fail
    go_loopg [0, 4] (s.size) (fun m v l wr => ∃ (cur : ByteArray) (f : Nat) (T : List (List UInt8)) (n : Nat), m = cur.size ∧ v = .string cur ∧ cur.size ≤ s.size ∧ n = T.length ∧ n + cur.size ≤ s.size ∧ cur.size < f ∧ fieldsW s.data.toList = (fldF f cur.data.toList).map (T ++ ·) ∧ wr.ownsRow w.heap.size 9 1 l n (strs T) ∧ Below w.heap.size w wr)
    case atStart => exact ⟨s, s.size + 1, [], 0, rfl, rfl, Nat.le_refl _, rfl, by omega, by omega, by rw [HF.out]; simp, own_nil w _ _, Below.refl _ _⟩
    case round =>
      obtain ⟨cur, f, T, n, rfl, rfl, hcs, hn, hnc, hf, hfw, hown, hbw⟩ := hrel
      have HN := Lib.hid hn
      have HFW := Lib.hid hfw
      have HO := Lib.hid hown
      have HB := Lib.hid hbw
      have hsz := hbw.size
      obtain ⟨f', rfl⟩ : ∃ f', f = f' + 1 := ⟨f - 1, by omega⟩
      clear hn hfw hown hbw HF hne hne2
      have hbd := endW_bd cur.data.toList
      have hcz : cur.data.toList.length = cur.size := rfl
      rw [hcz] at hbd
      obtain ⟨e0, e1⟩ := hbd
      obtain ⟨k, hk⟩ : ∃ k : Nat, endW cur.data.toList = (k : Int) := ⟨(endW cur.data.toList).toNat, by omega⟩
      have hkn : (endW cur.data.toList).toNat = k := by omega
      have HK := Lib.hid hk
      have hkl : k ≤ cur.size := by omega
      have HX : Hid (cur.extract 0 k = str (cur.data.toList.take k)) := Lib.hid (ext_take cur k)
      have hts : (str (cur.data.toList.take k)).size ≤ 16777216 := by rw [str_size, List.length_take]; omega
      obtain ⟨rv, rb, hr⟩ : ∃ rv rb, readW (cur.data.toList.take k) = (rv, rb) := ⟨_, _, rfl⟩
      have HRD : Hid (readW (str (cur.data.toList.take k)).data.toList = (rv, rb)) := Lib.hid hr
      have HST : Hid (fldF (f' + 1) cur.data.toList = if rb = false then none else if k = cur.size then some [rv] else if cur.data.toList.getD k 0 ≠ 32 then none else (fldF f' (cur.data.toList.drop (k + 1))).map (rv :: ·)) := Lib.hid (by
        rw [fldF, hkn, hr, hcz])
      clear hk hkn e0 e1 hr hcz
      go_wp2_with fail
      refine (wordEnd_any cur _ (by omega)).mono ?_
      rw [HK.out]
      rintro e w1 ⟨rfl, rfl⟩
      go_wp2_with fail
      rw [HX.out]
      refine (read_any (str (cur.data.toList.take k)) _ hts (HE.out.below HB.out)).mono ?_
      rw [HRD.out]
      rintro e w2 ⟨rfl, b2⟩
      have B2 := Lib.hid (HB.out.trans (b2.mono hsz))
      have O2 := Lib.hid (own_below HO.out b2 (Nat.le_refl _))
      have hsz2 : w.heap.size ≤ w2.heap.size := B2.out.size
      clear b2 HK HRD hts
      cases rb with
      | false =>
        have HV : Hid (fldR s.data.toList = ([], 4)) := Lib.hid (by unfold fldR; rw [HFW.out, HST.out, if_pos rfl]; rfl)
        clear HST HFW
        go_wp2_with fail
        go_ret2
        rw [HV.out]
        exact made_none _ _ _ B2.out
      | true =>
        have HS2 := HST.out
        rw [if_neg (by decide)] at HS2
        have HST2 := Lib.hid HS2
        clear HST HS2
        by_cases hke : k = cur.size
        · subst hke
          have HV : Hid (fldR s.data.toList = (T ++ [rv], 0)) := Lib.hid (by unfold fldR; rw [HFW.out, HST2.out, if_pos rfl]; rfl)
          clear HST2 HFW
          go_wp2_with (at_builtin; go_must (refine wpList_append_src rfl (.tmp 21) (.tmp 23) 25 rfl w.heap.size 9 (.string ByteArray.empty) 16 Tryd.underlying25 info_str rfl _ n (strs T) rfl (O2.out.alloc _) _ 1 1 [.string (str rv)] rfl (src_new _ _ _) (by intro u hu; simp at hu; subst hu; rfl) (by omega) (by omega) (by simp; omega) ?_); intro v3 w3 ho3 hg3; rw [← strs_snoc] at ho3; have O3 := Lib.hid ho3; have B3 := Lib.hid (below_grown' B2.out hsz2 O2.out (Nat.le_refl _) hg3); clear ho3 hg3)
          go_wp2_with fail
          go_ret2
          rw [HV.out]
          exact made_own (by rw [HN.out]; simp) O3.out B3.out
        · have hlt : k < cur.size := by omega
          have t0 : ((k : Int) == (cur.size : Int)) = false := beq_eq_false_iff_ne.2 (by omega)
          have hgd := getD_at cur k hlt
          by_cases h32 : cur[k] = 32
          · have t1 : ((cur[k].toNat : Int) != 32) = false := by rw [h32]; rfl
            have HD : Hid ((cur.extract (k + 1) cur.size).data.toList = cur.data.toList.drop (k + 1)) := Lib.hid (ext_drop cur (k + 1))
            have HDS : Hid ((cur.extract (k + 1) cur.size).size = cur.size - (k + 1)) := Lib.hid (by rw [ByteArray.size_extract]; omega)
            have HFN : Hid (fieldsW s.data.toList = (fldF f' (cur.extract (k + 1) cur.size).data.toList).map ((T ++ [rv]) ++ ·)) := Lib.hid (by
              rw [HFW.out, HST2.out, if_neg hke, if_neg (by rw [hgd, h32]; simp), HD.out, Option.map_map]
              congr 1
              funext y
              simp)
            clear h32 hgd hke HST2 HFW HX
            go_wp2_with (at_builtin; go_must (refine wpList_append_src rfl (.tmp 21) (.tmp 23) 25 rfl w.heap.size 9 (.string ByteArray.empty) 16 Tryd.underlying25 info_str rfl _ n (strs T) rfl (O2.out.alloc _) _ 1 1 [.string (str rv)] rfl (src_new _ _ _) (by intro u hu; simp at hu; subst hu; rfl) (by omega) (by omega) (by simp; omega) ?_); intro v3 w3 ho3 hg3; rw [← strs_snoc] at ho3; have O3 := Lib.hid ho3; have B3 := Lib.hid (below_grown' B2.out hsz2 O2.out (Nat.le_refl _) hg3); clear ho3 hg3)
            go_wp2_with fail
            go_roundg ((cur.extract (k + 1) cur.size).size)
            case measure => rw [HDS.out]; omega
            case rel => exact ⟨cur.extract (k + 1) cur.size, f', T ++ [rv], n + 1, rfl, rfl, by rw [HDS.out]; omega, by rw [HN.out]; simp, by rw [HDS.out]; omega, by rw [HDS.out]; omega, HFN.out, O3.out, B3.out⟩
          · have t1 : ((cur[k].toNat : Int) != 32) = true := by
              rw [bne_iff_ne]
              intro h
              exact h32 (UInt8.toNat_inj.1 (by show cur[k].toNat = 32; omega))
            have HV : Hid (fldR s.data.toList = ([], 4)) := Lib.hid (by unfold fldR; rw [HFW.out, HST2.out, if_neg hke, if_pos (by rw [hgd]; exact h32)]; rfl)
            clear h32 hgd hke HST2 HFW HX
            go_wp2_with (at_builtin; go_must (refine wpList_append_src rfl (.tmp 21) (.tmp 23) 25 rfl w.heap.size 9 (.string ByteArray.empty) 16 Tryd.underlying25 info_str rfl _ n (strs T) rfl (O2.out.alloc _) _ 1 1 [.string (str rv)] rfl (src_new _ _ _) (by intro u hu; simp at hu; subst hu; rfl) (by omega) (by omega) (by simp; omega) ?_); intro v3 w3 ho3 hg3; rw [← strs_snoc] at ho3; have O3 := Lib.hid ho3; have B3 := Lib.hid (below_grown' B2.out hsz2 O2.out (Nat.le_refl _) hg3); clear ho3 hg3)
            go_wp2_with fail
            go_ret2
            rw [HV.out]
            exact made_none _ _ _ B3.out
end Go.Proofs.YtaoekpedjgnnjaaDoor.Wd
