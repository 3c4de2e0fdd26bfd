/- The contracts of readNumbers, read and Parse, at every text. -/
import Derived.Test.YtomhfmcmjcghoaaGreatDoorCsC
namespace Go.Proofs.YtomhfmcmjcghoaaGreatDoor.Cl
open Go.ChangeShapes Go.WideShapes Go.ChangeAt Go.RowKit Own Bld Nums

/-- What stands in the library's variables that are read, those of the errors too. -/
structure Env2 (w : World) : Prop extends Env w, Errs w
theorem Env2.below {w w' : World} (h : Env2 w) (hb : Below w.heap.size w w') : Env2 w' := ⟨h.toEnv.below hb, h.toErrs.below hb⟩
theorem numM_read (M : Nat) (t : List UInt8) : numM M t = (readM M t).bind id := by
  unfold numM readM
  split
  · rfl
  · exact parse3_M M t 0
theorem parse3_le (M : Nat) : ∀ (l : List UInt8) (acc n : Nat), acc ≤ M → parse3 M acc l = some (some n) → n ≤ M
  | [], acc, n, ha, h => by
    rw [parse3] at h
    injection h with h
    injection h with h
    omega
  | c :: r, acc, n, ha, h => by
    rw [parse3] at h
    split at h
    · cases h
    · split at h
      · simp at h
      · exact parse3_le M r _ n (by omega) h
theorem readM_le {M : Nat} {t : List UInt8} {n : Nat} (h : readM M t = some (some n)) : n ≤ M := by
  unfold readM at h
  split at h
  · cases h
  · exact parse3_le M t 0 n (Nat.zero_le _) h
theorem rn_len (M k : Nat) : ∀ (ps : List (List UInt8)) (v : List UInt8), rn M k ps = some v → v.length = k * ps.length
  | [], v, h => by
    rw [rn] at h
    injection h with h
    subst h
    simp
  | p :: ps, v, h => by
    rw [rn] at h
    split at h
    · cases h
    · cases hr : rn M k ps with
      | none => rw [hr] at h; cases h
      | some u =>
        rw [hr] at h
        injection h with h
        subst h
        rw [List.length_append, be_len, rn_len M k ps u hr, List.length_cons, Nat.mul_succ]
        omega
def rnR (M k : Nat) (l : List UInt8) : List UInt8 × Bool := match rn M k (sp [] l) with
  | some v => (v, true)
  | none => ([], false)
theorem rnR_some {M k : Nat} {l v : List UInt8} (h : rn M k (sp [] l) = some v) : rnR M k l = (v, true) := by unfold rnR; rw [h]
theorem rnR_none {M k : Nat} {l : List UInt8} (h : rn M k (sp [] l) = none) : rnR M k l = ([], false) := by unfold rnR; rw [h]
/-- The library's parts of a text are its parts. -/
theorem parts_of (s : ByteArray) : (Lib.splitB ⟨#[32]⟩ 0 (Lib.countB s ⟨#[32]⟩) s).map (·.data.toList) = sp [] s.data.toList := by
  rw [Lib.splitB_data]
  have h := splitK_sp s.data.toList [] (fun c hc => by simp at hc)
  simp only [List.nil_append] at h
  have hc : Lib.countB s ⟨#[32]⟩ = s.data.toList.count 32 := Lib.count_one 32 s.data.toList
  rw [hc]
  exact h
theorem trim_sz (t : ByteArray) (p : List UInt8) : (⟨(Lib.trimPrefix t.data.toList p).toArray⟩ : ByteArray).size ≤ t.size := by
  show (Lib.trimPrefix t.data.toList p).length ≤ t.data.toList.length
  unfold Lib.trimPrefix
  split
  · simp
  · exact Nat.le_refl _
theorem sp_sum : ∀ (l cur : List UInt8), ∀ p ∈ sp cur l, p.length ≤ cur.length + l.length
  | [], cur, p, h => by
    have : p = cur := by simpa [sp] using h
    subst this; simp
  | c :: l, cur, p, h => by
    unfold sp at h
    split at h
    · rcases List.mem_cons.1 h with h | h
      · subst h; omega
      · have := sp_sum l [] p h
        simp at this ⊢; omega
    · have := sp_sum l (cur ++ [c]) p h
      simp at this ⊢; omega

set_option maxHeartbeats 4000000 in
theorem readNumbers32_any (s : ByteArray) (w : World) (hs : s.size ≤ 4194306) (he : Env2 w) :
    Calls Tryz.prog 48 #[.string s, .int .i64 32, .func (.func 37) #[] #[]] w fun e w' => e = .returned (.tuple #[.string (str (rnR 4294967295 4 s.data.toList).1), .bool (rnR 4294967295 4 s.data.toList).2]) ∧ Below w.heap.size w w' := by
  obtain ⟨m, hm⟩ := he.mx
  have hz : s.data.toList.length = s.size := rfl
  have HZ := Lib.hid hz
  have HPO := Lib.hid (parts_of s)
  have hcnt : Lib.countB s ⟨#[32]⟩ ≤ s.size := Lib.countB_le ⟨#[32]⟩ (by decide) s.size s (Nat.le_refl _)
  have HLEN := Lib.hid (Lib.splitB_all ⟨#[32]⟩ (by decide) 0 _ s rfl)
  clear hz
  go_enter Tryz.func48, Tryz.ntmps48
  go_wp2_with fail
  refine (Tryz.strings_Split s ⟨#[32]⟩ m _ (by omega) hm (by decide)).mono ?_
  rintro e w1 ⟨rfl, rfl⟩
  clear hm
  generalize Lib.countB s ⟨#[32]⟩ = N at hcnt HPO HLEN ⊢
  generalize Lib.splitB ⟨#[32]⟩ 0 N s = ps at HPO HLEN ⊢
  have b1 : Below w.heap.size w (w.alloc (.cells ((ps.map Value.string).toArray) 9)) := (Below.refl _ _).alloc (Nat.le_refl _) _
  have hc0 : ∀ i, i < ps.length → (w.alloc (.cells ((ps.map Value.string).toArray) 9)).cell? ⟨w.heap.size, i, none⟩ = some (.string (ps.getD i ByteArray.empty)) := fun i hi => by
    rw [cell_heap (heap_alloc_new w _)]
    show ((ps.map Value.string).toArray)[i]? = _
    rw [List.getElem?_toArray, List.getElem?_map, List.getElem?_eq_getElem hi, List.getD_eq_getElem?_getD, List.getElem?_eq_getElem hi]
    rfl
  have hzz : (w.alloc (.cells ((ps.map Value.string).toArray) 9)).heap.size = w.heap.size + 1 := by simp
  generalize w.alloc (.cells ((ps.map Value.string).toArray) 9) = wa at b1 hc0 hzz
  have HZA := Lib.hid hzz
  have HC0 := Lib.hid hc0
  have HE := Lib.hid (he.below b1)
  have HB1 := Lib.hid b1
  have hwa : w.heap.size < wa.heap.size := by omega
  clear b1 hc0 hzz he
  have HRT : Hid (rn 4294967295 4 (sp [] s.data.toList) = (rn 4294967295 4 ((sp [] s.data.toList).drop 0)).map ([] ++ ·)) := Lib.hid (by simp)
  have HLP : Hid ((sp [] s.data.toList).length = N + 1) := Lib.hid (by rw [← HPO.out, List.length_map, HLEN.out])
  go_wp2_with fail
  go_loopw [8, 16] (fun v i wr => ∃ (j n : Nat) (acc : List UInt8), j ≤ N + 1 ∧ i = .int .i64 j ∧ n = 4 * j ∧ rn 4294967295 4 (sp [] s.data.toList) = (rn 4294967295 4 ((sp [] s.data.toList).drop j)).map (acc ++ ·) ∧ wr.ownsRow wa.heap.size 5 1 v n (Lib.byteCells acc) ∧ Below wa.heap.size wa wr) (fun _ i _ => N + 1 - (intOf i).toNat)
  case atStart => exact ⟨0, 0, [], by omega, rfl, rfl, HRT.out, own_nil wa _ _, Below.refl _ _⟩
  case round =>
    obtain ⟨j, n, acc, hj, rfl, hn, hrn, hown, hbw⟩ := hrel
    have HR := Lib.hid hrn
    have HO := Lib.hid hown
    have HB := Lib.hid hbw
    have HN := Lib.hid hn
    have hnb : n ≤ 16777228 := by omega
    have hsz := hbw.size
    clear hrn hown hbw hn HRT
    by_cases hlt : j < N + 1
    · have hjp : j < ps.length := by rw [HLEN.out]; exact hlt
      have e1 : wr.cell? ⟨w.heap.size, j, none⟩ = some (.string (ps.getD j ByteArray.empty)) := by
        rw [HB.out.cell (p := ⟨w.heap.size, j, none⟩) hwa]; exact HC0.out j hjp
      have HD : Hid ((sp [] s.data.toList).drop j = (ps.getD j ByteArray.empty).data.toList :: (sp [] s.data.toList).drop (j + 1)) := Lib.hid (by
        rw [← HPO.out, List.drop_eq_getElem_cons (by simpa using hjp)]
        congr 1
        simp [List.getD_eq_getElem?_getD, List.getElem?_eq_getElem hjp])
      have htl : (ps.getD j ByteArray.empty).size ≤ s.size := by
        have hm : (ps.getD j ByteArray.empty).data.toList ∈ sp [] s.data.toList := by
          have : (ps.getD j ByteArray.empty).data.toList ∈ (sp [] s.data.toList).drop j := by rw [HD.out]; simp
          exact List.mem_of_mem_drop this
        have := sp_sum s.data.toList [] _ hm
        rw [HZ.out] at this
        simpa using this
      generalize ps.getD j ByteArray.empty = t at e1 HD htl
      have htz := trim_sz t [48, 120]
      have ER := Lib.hid (HE.out.below HB.out)
      clear hjp
      go_wp2_with fail
      refine (Tryz.strings_TrimPrefix t ⟨#[48, 120]⟩ _).mono ?_
      rintro e w2 ⟨rfl, rfl⟩
      rw [show (⟨#[48, 120]⟩ : ByteArray).data.toList = [48, 120] from rfl]
      clear e1
      have HNM : Hid (numM 4294967295 (Lib.trimPrefix t.data.toList [48, 120]) = (readM 4294967295 (⟨(Lib.trimPrefix t.data.toList [48, 120]).toArray⟩ : ByteArray).data.toList).bind id) := Lib.hid (numM_read _ _)
      generalize hU : (⟨(Lib.trimPrefix t.data.toList [48, 120]).toArray⟩ : ByteArray) = u at htz HNM ⊢
      clear hU
      by_cases hok : ∃ x, readM 4294967295 u.data.toList = some (some x)
      · obtain ⟨x, hx⟩ := hok
        have hxl : x ≤ 4294967295 := readM_le hx
        have HX : Hid (rn 4294967295 4 (sp [] s.data.toList) = (rn 4294967295 4 ((sp [] s.data.toList).drop (j + 1))).map ((acc ++ be x 4) ++ ·)) := Lib.hid (by
          rw [HR.out, HD.out, rn, HNM.out, hx]
          simp only [Option.bind_some, id_eq, Option.map_map]
          congr 1
          funext y
          simp)
        have HXX := Lib.hid hx
        clear hx HD HR HNM
        go_wp2_with fail
        refine (uint32_ok u (by omega) x HXX.out _).mono ?_
        rintro e w3 ⟨rfl, b3⟩
        have B3 := Lib.hid (HB.out.trans (b3.mono hsz))
        have O3 := Lib.hid (own_below HO.out b3 (Nat.le_refl _))
        have hsz3 : wa.heap.size ≤ w3.heap.size := Nat.le_trans hsz b3.size
        clear b3 HXX
        go_wp2_with fail
        refine (appendCell_any wa.heap.size _ n x acc _ (by omega) (by omega) hsz3 O3.out).mono ?_
        rintro e w4 ⟨v4, rfl, ho4, hg4⟩
        have O4 := Lib.hid ho4
        have B4 := Lib.hid (B3.out.trans (below_of_grown hg4 hsz3 (fun q hq => (own_int O3.out q hq).1)))
        clear ho4 hg4
        go_wp2_with fail
        go_roundw
        case rel => exact ⟨j + 1, n + 4, acc ++ be x 4, by omega, by go_num, by rw [HN.out]; omega, HX.out, O4.out, B4.out⟩
        case measure => simp [intOf]; omega
      · have hno : (readM 4294967295 u.data.toList).bind id = none := by
          cases hr : readM 4294967295 u.data.toList with
          | none => rfl
          | some o =>
            cases o with
            | none => rfl
            | some x => exact absurd ⟨x, hr⟩ hok
        have HX : Hid (rnR 4294967295 4 s.data.toList = ([], false)) := Lib.hid (rnR_none (by rw [HR.out, HD.out, rn, HNM.out, hno]; rfl))
        have HNO := Lib.hid hno
        clear hno hok HD HR HNM
        go_wp2_with fail
        refine (uint32_no u (by omega) HNO.out _ ER.out.toErrs).mono ?_
        rintro e w3 ⟨x, ve, hve, rfl, b3⟩
        obtain ⟨Q, rfl⟩ := hve
        have B3 := Lib.hid (HB1.out.trans ((HB.out.trans (b3.mono hsz)).mono HB1.out.size))
        clear b3
        go_wp2_with fail
        go_ret2
        rw [HX.out]
        exact ⟨rfl, B3.out⟩
    · obtain rfl : j = N + 1 := by omega
      have HX : Hid (rnR 4294967295 4 s.data.toList = (acc, true)) := Lib.hid (rnR_some (by rw [HR.out, List.drop_eq_nil_of_le (by rw [HLP.out]; omega)]; simp [rn]))
      have hcv := conv_own HO.out
      clear HR
      go_wp2_with fail
      go_ret2
      rw [HX.out]
      exact ⟨rfl, HB1.out.trans (HB.out.mono HB1.out.size)⟩

set_option maxHeartbeats 4000000 in
theorem readNumbers8_any (s : ByteArray) (w : World) (hs : s.size ≤ 4194306) (he : Env2 w) :
    Calls Tryz.prog 48 #[.string s, .int .i64 8, .func (.func 50) #[] #[]] w fun e w' => e = .returned (.tuple #[.string (str (rnR 255 1 s.data.toList).1), .bool (rnR 255 1 s.data.toList).2]) ∧ Below w.heap.size w w' := by
  obtain ⟨m, hm⟩ := he.mx
  have hz : s.data.toList.length = s.size := rfl
  have HZ := Lib.hid hz
  have HPO := Lib.hid (parts_of s)
  have hcnt : Lib.countB s ⟨#[32]⟩ ≤ s.size := Lib.countB_le ⟨#[32]⟩ (by decide) s.size s (Nat.le_refl _)
  have HLEN := Lib.hid (Lib.splitB_all ⟨#[32]⟩ (by decide) 0 _ s rfl)
  clear hz
  go_enter Tryz.func48, Tryz.ntmps48
  go_wp2_with fail
  refine (Tryz.strings_Split s ⟨#[32]⟩ m _ (by omega) hm (by decide)).mono ?_
  rintro e w1 ⟨rfl, rfl⟩
  clear hm
  generalize Lib.countB s ⟨#[32]⟩ = N at hcnt HPO HLEN ⊢
  generalize Lib.splitB ⟨#[32]⟩ 0 N s = ps at HPO HLEN ⊢
  have b1 : Below w.heap.size w (w.alloc (.cells ((ps.map Value.string).toArray) 9)) := (Below.refl _ _).alloc (Nat.le_refl _) _
  have hc0 : ∀ i, i < ps.length → (w.alloc (.cells ((ps.map Value.string).toArray) 9)).cell? ⟨w.heap.size, i, none⟩ = some (.string (ps.getD i ByteArray.empty)) := fun i hi => by
    rw [cell_heap (heap_alloc_new w _)]
    show ((ps.map Value.string).toArray)[i]? = _
    rw [List.getElem?_toArray, List.getElem?_map, List.getElem?_eq_getElem hi, List.getD_eq_getElem?_getD, List.getElem?_eq_getElem hi]
    rfl
  have hzz : (w.alloc (.cells ((ps.map Value.string).toArray) 9)).heap.size = w.heap.size + 1 := by simp
  generalize w.alloc (.cells ((ps.map Value.string).toArray) 9) = wa at b1 hc0 hzz
  have HZA := Lib.hid hzz
  have HC0 := Lib.hid hc0
  have HE := Lib.hid (he.below b1)
  have HB1 := Lib.hid b1
  have hwa : w.heap.size < wa.heap.size := by omega
  clear b1 hc0 hzz he
  have HRT : Hid (rn 255 1 (sp [] s.data.toList) = (rn 255 1 ((sp [] s.data.toList).drop 0)).map ([] ++ ·)) := Lib.hid (by simp)
  have HLP : Hid ((sp [] s.data.toList).length = N + 1) := Lib.hid (by rw [← HPO.out, List.length_map, HLEN.out])
  go_wp2_with fail
  go_loopw [8, 16] (fun v i wr => ∃ (j n : Nat) (acc : List UInt8), j ≤ N + 1 ∧ i = .int .i64 j ∧ n = 1 * j ∧ rn 255 1 (sp [] s.data.toList) = (rn 255 1 ((sp [] s.data.toList).drop j)).map (acc ++ ·) ∧ wr.ownsRow wa.heap.size 5 1 v n (Lib.byteCells acc) ∧ Below wa.heap.size wa wr) (fun _ i _ => N + 1 - (intOf i).toNat)
  case atStart => exact ⟨0, 0, [], by omega, rfl, rfl, HRT.out, own_nil wa _ _, Below.refl _ _⟩
  case round =>
    obtain ⟨j, n, acc, hj, rfl, hn, hrn, hown, hbw⟩ := hrel
    have HR := Lib.hid hrn
    have HO := Lib.hid hown
    have HB := Lib.hid hbw
    have HN := Lib.hid hn
    have hnb : n ≤ 16777228 := by omega
    have hsz := hbw.size
    clear hrn hown hbw hn HRT
    by_cases hlt : j < N + 1
    · have hjp : j < ps.length := by rw [HLEN.out]; exact hlt
      have e1 : wr.cell? ⟨w.heap.size, j, none⟩ = some (.string (ps.getD j ByteArray.empty)) := by
        rw [HB.out.cell (p := ⟨w.heap.size, j, none⟩) hwa]; exact HC0.out j hjp
      have HD : Hid ((sp [] s.data.toList).drop j = (ps.getD j ByteArray.empty).data.toList :: (sp [] s.data.toList).drop (j + 1)) := Lib.hid (by
        rw [← HPO.out, List.drop_eq_getElem_cons (by simpa using hjp)]
        congr 1
        simp [List.getD_eq_getElem?_getD, List.getElem?_eq_getElem hjp])
      have htl : (ps.getD j ByteArray.empty).size ≤ s.size := by
        have hm : (ps.getD j ByteArray.empty).data.toList ∈ sp [] s.data.toList := by
          have : (ps.getD j ByteArray.empty).data.toList ∈ (sp [] s.data.toList).drop j := by rw [HD.out]; simp
          exact List.mem_of_mem_drop this
        have := sp_sum s.data.toList [] _ hm
        rw [HZ.out] at this
        simpa using this
      generalize ps.getD j ByteArray.empty = t at e1 HD htl
      have htz := trim_sz t [48, 120]
      have ER := Lib.hid (HE.out.below HB.out)
      clear hjp
      go_wp2_with fail
      refine (Tryz.strings_TrimPrefix t ⟨#[48, 120]⟩ _).mono ?_
      rintro e w2 ⟨rfl, rfl⟩
      rw [show (⟨#[48, 120]⟩ : ByteArray).data.toList = [48, 120] from rfl]
      clear e1
      have HNM : Hid (numM 255 (Lib.trimPrefix t.data.toList [48, 120]) = (readM 255 (⟨(Lib.trimPrefix t.data.toList [48, 120]).toArray⟩ : ByteArray).data.toList).bind id) := Lib.hid (numM_read _ _)
      generalize hU : (⟨(Lib.trimPrefix t.data.toList [48, 120]).toArray⟩ : ByteArray) = u at htz HNM ⊢
      clear hU
      by_cases hok : ∃ x, readM 255 u.data.toList = some (some x)
      · obtain ⟨x, hx⟩ := hok
        have hxl : x ≤ 255 := readM_le hx
        have HX : Hid (rn 255 1 (sp [] s.data.toList) = (rn 255 1 ((sp [] s.data.toList).drop (j + 1))).map ((acc ++ be x 1) ++ ·)) := Lib.hid (by
          rw [HR.out, HD.out, rn, HNM.out, hx]
          simp only [Option.bind_some, id_eq, Option.map_map]
          congr 1
          funext y
          simp)
        have HXX := Lib.hid hx
        clear hx HD HR HNM
        go_wp2_with fail
        refine (uint8_ok u (by omega) x HXX.out _).mono ?_
        rintro e w3 ⟨rfl, b3⟩
        have B3 := Lib.hid (HB.out.trans (b3.mono hsz))
        have O3 := Lib.hid (own_below HO.out b3 (Nat.le_refl _))
        have hsz3 : wa.heap.size ≤ w3.heap.size := Nat.le_trans hsz b3.size
        clear b3 HXX
        go_wp2_with fail
        refine (appendByte_any wa.heap.size _ n x acc _ (by omega) (by omega) hsz3 O3.out).mono ?_
        rintro e w4 ⟨v4, rfl, ho4, hg4⟩
        have O4 := Lib.hid ho4
        have B4 := Lib.hid (B3.out.trans (below_of_grown hg4 hsz3 (fun q hq => (own_int O3.out q hq).1)))
        clear ho4 hg4
        go_wp2_with fail
        go_roundw
        case rel => exact ⟨j + 1, n + 1, acc ++ be x 1, by omega, by go_num, by rw [HN.out]; omega, HX.out, O4.out, B4.out⟩
        case measure => simp [intOf]; omega
      · have hno : (readM 255 u.data.toList).bind id = none := by
          cases hr : readM 255 u.data.toList with
          | none => rfl
          | some o =>
            cases o with
            | none => rfl
            | some x => exact absurd ⟨x, hr⟩ hok
        have HX : Hid (rnR 255 1 s.data.toList = ([], false)) := Lib.hid (rnR_none (by rw [HR.out, HD.out, rn, HNM.out, hno]; rfl))
        have HNO := Lib.hid hno
        clear hno hok HD HR HNM
        go_wp2_with fail
        refine (uint8_no u (by omega) HNO.out _ ER.out.toErrs).mono ?_
        rintro e w3 ⟨x, ve, hve, rfl, b3⟩
        obtain ⟨Q, rfl⟩ := hve
        have B3 := Lib.hid (HB1.out.trans ((HB.out.trans (b3.mono hsz)).mono HB1.out.size))
        clear b3
        go_wp2_with fail
        go_ret2
        rw [HX.out]
        exact ⟨rfl, B3.out⟩
    · obtain rfl : j = N + 1 := by omega
      have HX : Hid (rnR 255 1 s.data.toList = (acc, true)) := Lib.hid (rnR_some (by rw [HR.out, List.drop_eq_nil_of_le (by rw [HLP.out]; omega)]; simp [rn]))
      have hcv := conv_own HO.out
      clear HR
      go_wp2_with fail
      go_ret2
      rw [HX.out]
      exact ⟨rfl, HB1.out.trans (HB.out.mono HB1.out.size)⟩
end Go.Proofs.YtomhfmcmjcghoaaGreatDoor.Cl
