/- The contracts of unescaped and wordEnd. -/
import Derived.Test.YtaoekpedjgnnjaaDoorWdE
namespace Go.Proofs.YtaoekpedjgnnjaaDoor.Wd
open Go.ChangeShapes Go.WideShapes Go.ChangeAt Go.RowKit Own Bld Go.Lib Nums

theorem ext_drop (s : ByteArray) (n : Nat) : (s.extract n s.size).data.toList = s.data.toList.drop n := by
  rw [extract_data]
  apply List.take_of_length_le
  rw [List.length_drop]
  have : s.data.toList.length = s.size := rfl
  omega

set_option maxRecDepth 100000 in
set_option maxHeartbeats 4000000 in
theorem unescaped_any (s : ByteArray) (w : World) (hs : s.size ≤ 268435456) (he : En w) :
    Calls Tryd.prog 43 #[.string s] w fun e w' => e = .returned (.string (str (unW s.data.toList))) ∧ Below w.heap.size w w' := by
  have HE := Lib.hid he
  have hz : s.data.toList.length = s.size := rfl
  have HUL : Hid ((unW s.data.toList).length ≤ s.size) := Lib.hid (by rw [← hz]; exact unW_len _ _ (Nat.le_refl _))
  clear he hz
  go_enter Tryd.func43, Tryd.ntmps43
  go_wp2_with fail
  go_loopg [0] (s.size) (fun m v wr => ∃ (cur : ByteArray) (acc : List UInt8), m = cur.size ∧ v = .string cur ∧ cur.size ≤ s.size ∧ unW s.data.toList = acc ++ unW cur.data.toList ∧ Bd w.heap.size w.heap.size acc wr ∧ Below w.heap.size w wr)
  case atStart => exact ⟨s, [], rfl, rfl, Nat.le_refl _, rfl, Bd.fresh w, (Below.refl _ _).alloc (Nat.le_refl _) _⟩
  case round =>
    obtain ⟨cur, acc, rfl, rfl, hcs, hun, hbd, hbw⟩ := hrel
    have HUN := Lib.hid hun
    have HBD := Lib.hid hbd
    have HBW := Lib.hid hbw
    have hsz := hbw.size
    have hal : acc.length ≤ 268435456 := by
      have h := HUL.out
      rw [hun, List.length_append] at h
      omega
    clear hun hbd hbw
    by_cases h0 : cur.size = 0
    · have hl : cur.data.toList = [] := List.eq_nil_of_length_eq_zero h0
      have HV : Hid (unW s.data.toList = acc) := Lib.hid (by rw [HUN.out, hl]; simp [unW, unF])
      have hne : (cur.toList != []) = false := by rw [Lib.toList_data, hl]; rfl
      have hne2 : cur.toList.isEmpty = true := by rw [Lib.toList_data, hl]; rfl
      clear hl HUN
      go_wp2_with fail
      refine (Tryd.Builder_String_any_k w.heap.size w.heap.size _ _ HBD.out hsz).mono ?_
      rintro e w3 ⟨rfl, _, b3, _⟩
      have W3 := Lib.hid (HBW.out.trans b3)
      clear b3
      go_wp2_with fail
      go_ret
      rw [HV.out]
      exact ⟨rfl, W3.out⟩
    · have hp : 0 < cur.size := by omega
      have hl : cur.data.toList ≠ [] := fun h => h0 (by
        have : cur.data.toList.length = cur.size := rfl
        rw [← this, h]; rfl)
      have hne : (cur.toList != []) = true := by rw [Lib.toList_data, bne_iff_ne]; exact hl
      have hne2 : cur.toList.isEmpty = false := by rw [Lib.toList_data, List.isEmpty_eq_false_iff]; exact hl
      have hfb := first_bd _ hl
      have HSTEP := Lib.hid (unW_step _ hl)
      have hcl : cur.data.toList.length = cur.size := rfl
      rw [hcl] at hfb
      have HF := Lib.hid fun W (h : En W) => firstByte_any cur W (by omega) hp h
      generalize firstB cur.data.toList = fb at hfb HSTEP HF
      obtain ⟨c, n⟩ := fb
      obtain ⟨n1, n2⟩ := hfb
      simp only at n1 n2
      have HD : Hid ((cur.extract n cur.size).data.toList = cur.data.toList.drop n) := Lib.hid (ext_drop cur n)
      have HDS : Hid ((cur.extract n cur.size).size = cur.size - n) := Lib.hid (by rw [ByteArray.size_extract]; omega)
      clear hl hcl h0
      go_wp2_with fail
      refine (HF.out _ (HE.out.below HBW.out)).mono ?_
      rintro e w2 ⟨rfl, b2⟩
      have W2 := Lib.hid (HBW.out.trans (b2.mono hsz))
      have D2 := Lib.hid (bd_below' HBD.out b2)
      have hsz2 : w.heap.size ≤ w2.heap.size := W2.out.size
      clear b2
      go_wp2_with fail
      refine (byte_any w.heap.size w.heap.size acc c _ D2.out (by omega) hsz2).mono ?_
      rintro e w3 ⟨rfl, d3, b3, k3⟩
      have D3 := Lib.hid d3
      have W3 := Lib.hid (W2.out.trans b3)
      clear d3 b3 k3
      go_wp2_with fail
      go_roundg ((cur.extract n cur.size).size)
      case measure => rw [HDS.out]; omega
      case rel => exact ⟨cur.extract n cur.size, acc ++ [c], rfl, rfl, by rw [HDS.out]; omega, by rw [HUN.out, HSTEP.out, HD.out]; simp, D3.out, W3.out⟩

/-- Where a word in quotes ends. -/
def weQ (len : Nat) : Nat → List UInt8 → Nat
  | _, [] => len
  | i, [c] => if c = 92 then len else if c = 34 then i + 1 else len
  | i, c :: d :: l => if c = 92 then weQ len (i + 2) l else if c = 34 then i + 1 else weQ len (i + 1) (d :: l)
theorem weQ_nil (len i : Nat) : weQ len i [] = len := by simp [weQ]
theorem weQ_esc (len i : Nat) (l : List UInt8) : weQ len i (92 :: l) = weQ len (i + 2) (l.drop 1) := by
  cases l with
  | nil => simp [weQ]
  | cons d l => simp [weQ]
theorem weQ_end (len i : Nat) (l : List UInt8) : weQ len i (34 :: l) = i + 1 := by
  cases l with
  | nil => simp [weQ]
  | cons d l => simp [weQ]
theorem weQ_else (len i : Nat) (c : UInt8) (l : List UInt8) (h : c ≠ 92) (h2 : c ≠ 34) : weQ len i (c :: l) = weQ len (i + 1) l := by
  cases l with
  | nil => simp [weQ, h, h2]
  | cons d l => simp [weQ, h, h2]
def endW (l : List UInt8) : Int := if Lib.hasPrefix l [34] then (weQ l.length 1 (l.drop 1) : Int) else if 0 ≤ Lib.indexByte l 32 then Lib.indexByte l 32 else (l.length : Int)
theorem drop_at (s : ByteArray) (k : Nat) (h : k < s.size) : s.data.toList.drop k = s[k] :: s.data.toList.drop (k + 1) := List.drop_eq_getElem_cons (by have : s.data.toList.length = s.size := rfl; omega)

set_option maxRecDepth 100000 in
set_option maxHeartbeats 2000000 in
theorem wordEnd_any (s : ByteArray) (w : World) (hs : s.size ≤ 268435456) :
    Calls Tryd.prog 28 #[.string s] w fun e w' => e = .returned (.int .i64 (endW s.data.toList)) ∧ w = w' := by
  have hz : s.data.toList.length = s.size := rfl
  have HZ := Lib.hid hz
  by_cases hp : Lib.hasPrefix s.data.toList [34] = true
  · have HV : Hid (endW s.data.toList = (weQ s.size 1 (s.data.toList.drop 1) : Int)) := Lib.hid (by unfold endW; rw [if_pos hp, hz])
    have HP := Lib.hid hp
    clear hp hz
    go_enter Tryd.func28, Tryd.ntmps28
    go_wp2_with fail
    refine (Tryd.strings_HasPrefix s ⟨#[34]⟩ _).mono ?_
    rintro e w1 ⟨rfl, rfl⟩
    rw [show Lib.hasPrefix s.data.toList (⟨#[34]⟩ : ByteArray).data.toList = true from HP.out]
    go_wp2_with fail
    go_loop [4] (fun i => ∃ k : Nat, k ≤ s.size + 1 ∧ i = .int .i64 k ∧ Hid (weQ s.size 1 (s.data.toList.drop 1) = weQ s.size k (s.data.toList.drop k))) (fun i => s.size - (RowKit.intOf i).toNat)
    case atStart => exact ⟨1, by omega, rfl, Lib.hid rfl⟩
    case round =>
      obtain ⟨k, hk, rfl, HW⟩ := hrel
      by_cases hlt : k < s.size
      · have HD := Lib.hid (drop_at s k hlt)
        by_cases h92 : s[k] = 92
        · have t1 : ((s[k].toNat : Int) == 92) = true := by rw [h92]; rfl
          have HN : Hid (weQ s.size 1 (s.data.toList.drop 1) = weQ s.size (k + 2) (s.data.toList.drop (k + 2))) := Lib.hid (by
            rw [HW.out, HD.out, h92, weQ_esc, List.drop_drop])
          clear h92 HW HD
          go_wp2_with fail
          go_round
          case rel => exact ⟨k + 2, by omega, by go_num, HN⟩
          case measure => simp [RowKit.intOf]; omega
        · have t1 : ((s[k].toNat : Int) == 92) = false := by
            rw [beq_eq_false_iff_ne]
            intro h
            exact h92 (UInt8.toNat_inj.1 (by show s[k].toNat = 92; omega))
          by_cases h34 : s[k] = 34
          · have t2 : ((s[k].toNat : Int) == 34) = true := by rw [h34]; rfl
            have HN : Hid (endW s.data.toList = (k : Int) + 1) := Lib.hid (by
              rw [HV.out, HW.out, HD.out, h34, weQ_end]
              omega)
            clear h92 h34 HW HD
            go_wp2_with fail
            go_ret
            rw [HN.out]
            exact ⟨rfl, rfl⟩
          · have t2 : ((s[k].toNat : Int) == 34) = false := by
              rw [beq_eq_false_iff_ne]
              intro h
              exact h34 (UInt8.toNat_inj.1 (by show s[k].toNat = 34; omega))
            have HN : Hid (weQ s.size 1 (s.data.toList.drop 1) = weQ s.size (k + 1) (s.data.toList.drop (k + 1))) := Lib.hid (by
              rw [HW.out, HD.out, weQ_else _ _ _ _ h92 h34])
            clear h92 h34 HW HD
            go_wp2_with fail
            go_round
            case rel => exact ⟨k + 1, by omega, by go_num, HN⟩
            case measure => simp [RowKit.intOf]; omega
      · have HN : Hid (endW s.data.toList = (s.size : Int)) := Lib.hid (by
          rw [HV.out, HW.out, List.drop_eq_nil_of_le (by rw [HZ.out]; omega), weQ_nil])
        clear HW
        go_wp2_with fail
        go_ret
        rw [HN.out]
        exact ⟨rfl, rfl⟩
  · have hp' : Lib.hasPrefix s.data.toList [34] = false := by simpa using hp
    have HP := Lib.hid hp'
    have HI : Hid (Lib.indexByte s.data.toList (32 : Int).toNat.toUInt8 = Lib.indexByte s.data.toList 32) := Lib.hid rfl
    by_cases hi : 0 ≤ Lib.indexByte s.data.toList 32
    · have HV : Hid (endW s.data.toList = Lib.indexByte s.data.toList 32) := Lib.hid (by unfold endW; rw [if_neg hp, if_pos hi])
      have t1 : decide ((0 : Int) ≤ Lib.indexByte s.data.toList 32) = true := decide_eq_true hi
      clear hp hp' hz
      go_enter Tryd.func28, Tryd.ntmps28
      go_wp2_with fail
      refine (Tryd.strings_HasPrefix s ⟨#[34]⟩ _).mono ?_
      rintro e w1 ⟨rfl, rfl⟩
      rw [show Lib.hasPrefix s.data.toList (⟨#[34]⟩ : ByteArray).data.toList = false from HP.out]
      go_wp2_with fail
      refine (Tryd.strings_IndexByte s 32 _).mono ?_
      rw [HI.out]
      rintro e w1 ⟨rfl, rfl⟩
      generalize Lib.indexByte s.data.toList 32 = ix at HV hi t1 ⊢
      go_wp2_with fail
      go_ret
      rw [HV.out]
      exact ⟨rfl, rfl⟩
    · have HV : Hid (endW s.data.toList = (s.size : Int)) := Lib.hid (by unfold endW; rw [if_neg hp, if_neg hi, hz])
      have t1 : decide ((0 : Int) ≤ Lib.indexByte s.data.toList 32) = false := decide_eq_false hi
      have hi2 : Lib.indexByte s.data.toList 32 < 0 := by omega
      clear hp hp' hz hi
      go_enter Tryd.func28, Tryd.ntmps28
      go_wp2_with fail
      refine (Tryd.strings_HasPrefix s ⟨#[34]⟩ _).mono ?_
      rintro e w1 ⟨rfl, rfl⟩
      rw [show Lib.hasPrefix s.data.toList (⟨#[34]⟩ : ByteArray).data.toList = false from HP.out]
      go_wp2_with fail
      refine (Tryd.strings_IndexByte s 32 _).mono ?_
      rw [HI.out]
      rintro e w1 ⟨rfl, rfl⟩
      generalize Lib.indexByte s.data.toList 32 = ix at hi2 t1 ⊢
      go_wp2_with fail
      go_ret
      rw [HV.out]
      exact ⟨rfl, rfl⟩
end Go.Proofs.YtaoekpedjgnnjaaDoor.Wd
