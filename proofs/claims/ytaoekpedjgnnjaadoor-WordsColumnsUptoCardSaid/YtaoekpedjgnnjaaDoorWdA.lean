/- The contracts of taken, hidden, escaped, shown, shownWidth. -/
import Derived.Test.YtaoekpedjgnnjaaDoorWdM
import Derived.Test.YtaoekpedjgnnjaaDoorBld
import Derived.Test.YtaoekpedjgnnjaaDoorShelf
import Derived.Test.YtaoekpedjgnnjaaDoorOwn
import Derived.Lib.OthersKept
import Derived.Lib.AtoiAllMem
import Derived.WalkKit
import Derived.ProofKit
import Derived.WalkLawsBesides
import Derived.WalkSpells
import Derived.Outline
import Derived.Lib.Hide
import Derived.Lib.Strings
import Derived.Lib.Walk
import Derived.Laws.Strings3
import Derived.Laws.Closers25
import Derived.Laws.Closers25b
import Derived.BigCall
import Derived.BigGuard
namespace Go.Proofs.YtaoekpedjgnnjaaDoor.Wd
open Go.ChangeShapes Go.WideShapes Go.ChangeAt Go.RowKit Own Bld Go.Lib

def str (l : List UInt8) : ByteArray := ⟨l.toArray⟩
theorem str_list (l : List UInt8) : (str l).data.toList = l := rfl
theorem str_size (l : List UInt8) : (str l).size = l.length := rfl
theorem bytes_ext {a b : ByteArray} (h : a.data.toList = b.data.toList) : a = b := by
  obtain ⟨⟨l⟩⟩ := a
  obtain ⟨⟨m⟩⟩ := b
  simp at h
  rw [h]
theorem str_of (s : ByteArray) : str s.data.toList = s := rfl
/-- The tables of package utf8. -/
def U8 (w : World) : Prop := Lib.Utf8Tabs 1 2 w
theorem U8.below {w w' : World} (h : U8 w) (hb : Below w.heap.size w w') : U8 w' := Utf8Tabs_below h hb

/-- What is taken of a text at a place. -/
def part (s : ByteArray) (at' : Nat) : List UInt8 := (s.data.toList.drop at').take (decodeL (s.data.toList.drop at')).2
theorem ext_part (s : ByteArray) (a n : Nat) : s.extract a (a + n) = str ((s.data.toList.drop a).take n) := bytes_ext (by
  rw [str_list, extract_data]
  congr 1
  omega)
theorem go_at (s : ByteArray) (a : Nat) (h : a < s.size) : decodeGo (s.extract a s.size) = decodeL (s.data.toList.drop a) := by
  have e : (s.extract a s.size).size = s.size - a := by rw [ByteArray.size_extract]; omega
  unfold decodeGo
  rw [if_neg (by omega), decodeL_drop, tail_decode, Nat.add_zero]

set_option maxRecDepth 100000 in
theorem taken_any (s : ByteArray) (a : Nat) (w : World) (hs : s.size ≤ 67108864) (ha : a < s.size) (hT : U8 w) :
    Calls Tryd.prog 37 #[.string s, .int .i64 (a : Int), .int .i32 ((decodeL (s.data.toList.drop a)).1 : Int)] w fun e w' => e = .returned (.string (str (part s a))) ∧ Below w.heap.size w w' := by
  have HT := Lib.hid hT
  have hz : s.data.toList.length = s.size := rfl
  have hne : s.data.toList.drop a ≠ [] := by
    intro h
    have := congrArg List.length h
    rw [List.length_drop, hz] at this
    simp at this
    omega
  have hle := decodeL_le _ hne
  rw [List.length_drop, hz] at hle
  have hw1 := decodeL_width (s.data.toList.drop a)
  have HX := Lib.hid (ext_part s a (decodeL (s.data.toList.drop a)).2)
  by_cases hr : (decodeL (s.data.toList.drop a)).1 = 65533
  · have HG : Hid (decodeGo (s.extract a s.size) = (65533, (decodeL (s.data.toList.drop a)).2)) := Lib.hid (by rw [go_at s a ha, ← hr])
    rw [hr]
    clear hr hne hz hT
    unfold part
    generalize (decodeL (s.data.toList.drop a)).2 = n at hle hw1 HX HG ⊢
    go_enter Tryd.func37, Tryd.ntmps37
    go_wp2_with fail
    refine (Tryd.utf8_RuneLen _ _).mono ?_
    rintro e w1 ⟨rfl, rfl⟩
    go_wp2_with fail
    refine (Tryd.utf8_DecodeRuneInString _ _ HT.out).mono ?_
    rw [HG.out]
    rintro e w2 ⟨rfl, b2⟩
    have B2 := Lib.hid b2
    clear b2
    go_wp2_with fail
    go_ret
    rw [← HX.out]
    exact ⟨rfl, B2.out⟩
  · have HRL := Lib.hid (runeLen_decode _ hr)
    have hrz : (((decodeL (s.data.toList.drop a)).1 : Int) == 65533) = false := beq_eq_false_iff_ne.2 (by omega)
    unfold part
    clear hr hne hz hT
    generalize (decodeL (s.data.toList.drop a)).2 = n at hle hw1 HX HRL ⊢
    generalize (decodeL (s.data.toList.drop a)).1 = r at hrz HRL ⊢
    go_enter Tryd.func37, Tryd.ntmps37
    go_wp2_with fail
    refine (Tryd.utf8_RuneLen _ _).mono ?_
    rw [HRL.out]
    rintro e w1 ⟨rfl, rfl⟩
    go_wp2_with fail
    go_ret
    rw [← HX.out]
    exact ⟨rfl, Below.refl _ _⟩

def hidB (p : ByteArray) (r : Nat) : Bool := hidn p.data.toList r
theorem hidden_any (p : ByteArray) (r : Nat) (w : World) (hr : r ≤ 1114111) :
    Calls Tryd.prog 57 #[.string p, .int .i32 (r : Int)] w fun e w' => e = .returned (.bool (hidB p r)) ∧ w = w' := by
  have hz : p.data.toList.length = p.size := rfl
  by_cases h1 : r = 65533
  · subst h1
    by_cases h2 : p.size = 1
    · have HH : Hid (hidB p 65533 = true) := Lib.hid (by unfold hidB hidn; rw [hz, h2]; rfl)
      have e2 : ((p.size : Int) == 1) = true := beq_iff_eq.2 (by omega)
      clear h2 hz
      go_enter Tryd.func57, Tryd.ntmps57
      go_wp2_with fail
      go_ret
      rw [HH.out]
      exact ⟨rfl, rfl⟩
    · have HH : Hid (hidB p 65533 = false) := Lib.hid (by unfold hidB hidn; rw [hz, decide_eq_false h2]; rfl)
      have e2 : ((p.size : Int) == 1) = false := beq_eq_false_iff_ne.2 (by omega)
      clear h2 hz
      go_enter Tryd.func57, Tryd.ntmps57
      go_wp2_with fail
      go_ret
      rw [HH.out]
      exact ⟨rfl, rfl⟩
  · have e1 : ((r : Int) == 65533) = false := beq_eq_false_iff_ne.2 (by omega)
    have HH : Hid (hidB p r = (decide (r < 32) || (decide (127 ≤ r) && decide (r ≤ 159)))) := Lib.hid (by unfold hidB hidn; rw [decide_eq_false h1]; rfl)
    clear h1 hz
    by_cases h32 : r < 32
    · have HV : Hid (hidB p r = true) := Lib.hid (by rw [HH.out, decide_eq_true h32]; rfl)
      have d32 : decide ((r : Int) < 32) = true := decide_eq_true (by omega)
      clear h32 HH
      go_enter Tryd.func57, Tryd.ntmps57
      go_wp2_with fail
      go_ret
      rw [HV.out]
      exact ⟨rfl, rfl⟩
    · have d32 : decide ((r : Int) < 32) = false := decide_eq_false (by omega)
      by_cases h127 : 127 ≤ r
      · have d127 : decide ((127 : Int) ≤ (r : Int)) = true := decide_eq_true (by omega)
        by_cases h159 : r ≤ 159
        · have HV : Hid (hidB p r = true) := Lib.hid (by rw [HH.out, decide_eq_true h127, decide_eq_true h159]; simp)
          have d159 : decide ((r : Int) ≤ 159) = true := decide_eq_true (by omega)
          clear h32 h127 h159 HH
          go_enter Tryd.func57, Tryd.ntmps57
          go_wp2_with fail
          go_ret
          rw [HV.out]
          exact ⟨rfl, rfl⟩
        · have HV : Hid (hidB p r = false) := Lib.hid (by rw [HH.out, decide_eq_false h159, decide_eq_false h32]; simp)
          have d159 : decide ((r : Int) ≤ 159) = false := decide_eq_false (by omega)
          clear h32 h127 h159 HH
          go_enter Tryd.func57, Tryd.ntmps57
          go_wp2_with fail
          go_ret
          rw [HV.out]
          exact ⟨rfl, rfl⟩
      · have d127 : decide ((127 : Int) ≤ (r : Int)) = false := decide_eq_false (by omega)
        have HV : Hid (hidB p r = false) := Lib.hid (by rw [HH.out, decide_eq_false h127, decide_eq_false h32]; simp)
        clear h32 h127 HH
        go_enter Tryd.func57, Tryd.ntmps57
        go_wp2_with fail
        go_ret
        rw [HV.out]
        exact ⟨rfl, rfl⟩

theorem and15_8 : ∀ k : Fin 256, bits .and .u8 (k.val : Int) 15 = ((k.val % 16 : Nat) : Int) := by decide +kernel
theorem hds_at : ∀ k : Fin 16, (⟨#[48, 49, 50, 51, 52, 53, 54, 55, 56, 57, 97, 98, 99, 100, 101, 102]⟩ : ByteArray)[k.val]'(k.isLt) = hd k.val := by decide +kernel
theorem take_last (s : ByteArray) (k : Nat) (h : k < s.size) : s.data.toList.take (k + 1) = s.data.toList.take k ++ [s[k]] := by
  rw [List.take_succ_eq_append_getElem (by have : s.data.toList.length = s.size := rfl; omega)]
  rfl
set_option maxRecDepth 100000 in
set_option maxHeartbeats 4000000 in
theorem escaped_any (p : ByteArray) (w : World) (hp : p.size ≤ 67108864) :
    Calls Tryd.prog 58 #[.string p] w fun e w' => e = .returned (.string (str (p.data.toList.flatMap escB))) ∧ Below w.heap.size w w' := by
  have hz : p.data.toList.length = p.size := rfl
  have HZ := Lib.hid hz
  clear hz
  go_enter Tryd.func58, Tryd.ntmps58
  go_wp2_with fail
  go_loopw [7] (fun i wr => ∃ (k : Nat) (acc : List UInt8), k ≤ p.size ∧ i = .int .i64 k ∧ acc = (p.data.toList.take k).flatMap escB ∧ Bd w.heap.size w.heap.size acc wr ∧ Below w.heap.size w wr) (fun i _ => p.size - (RowKit.intOf i).toNat)
  case atStart => exact ⟨0, [], by omega, rfl, rfl, Bd.fresh w, (Below.refl _ _).alloc (Nat.le_refl _) _⟩
  case round =>
    obtain ⟨k, acc, hk, rfl, hacc, hbd, hbw⟩ := hrel
    have HA := Lib.hid hacc
    have HBD := Lib.hid hbd
    have HBW := Lib.hid hbw
    have hsz := hbw.size
    have hal : acc.length ≤ 268435456 := by
      rw [hacc, escs_len]
      simp
      omega
    clear hacc hbd hbw
    by_cases hlt : k < p.size
    · have HN : Hid (acc ++ [92, 120] ++ [hd (p[k].toNat / 16)] ++ [hd (p[k].toNat % 16)] = (p.data.toList.take (k + 1)).flatMap escB) := Lib.hid (by
        rw [HA.out, take_last p k hlt, List.flatMap_append]
        simp [escB])
      have hc : p[k].toNat < 256 := p[k].toNat_lt
      have ha : bits .and .u8 (p[k].toNat : Int) 15 = ((p[k].toNat % 16 : Nat) : Int) := and15_8 ⟨p[k].toNat, hc⟩
      have h16 : p[k].toNat % 16 < 16 := by omega
      have D1 := Lib.hid (show (⟨#[48, 49, 50, 51, 52, 53, 54, 55, 56, 57, 97, 98, 99, 100, 101, 102]⟩ : ByteArray)[p[k].toNat / 16]'(by show p[k].toNat / 16 < 16; omega) = hd (p[k].toNat / 16) from hds_at ⟨p[k].toNat / 16, by omega⟩)
      have D2 := Lib.hid (show (⟨#[48, 49, 50, 51, 52, 53, 54, 55, 56, 57, 97, 98, 99, 100, 101, 102]⟩ : ByteArray)[p[k].toNat % 16]'(by show p[k].toNat % 16 < 16; omega) = hd (p[k].toNat % 16) from hds_at ⟨p[k].toNat % 16, by omega⟩)
      clear HA
      go_wp2_with fail
      refine (string_any w.heap.size w.heap.size acc ⟨#[92, 120]⟩ _ HBD.out (by show _ + 2 ≤ _; omega) hsz).mono ?_
      rintro e w2 ⟨rfl, d2, b2, k2⟩
      have E2 := Lib.hid d2
      have W2 := Lib.hid (HBW.out.trans b2)
      have hz2 : w.heap.size ≤ w2.heap.size := W2.out.size
      clear d2 b2 k2
      go_wp2_with fail
      rw [D1.out]
      refine (byte_any w.heap.size w.heap.size _ (hd (p[k].toNat / 16)) _ E2.out (by simp only [List.length_append]; show _ + 2 + 1 ≤ _; omega) hz2).mono ?_
      rintro e w3 ⟨rfl, d3, b3, k3⟩
      have E3 := Lib.hid d3
      have W3 := Lib.hid (W2.out.trans b3)
      have hz3 : w.heap.size ≤ w3.heap.size := W3.out.size
      clear d3 b3 k3
      go_wp2_with fail
      rw [D2.out]
      refine (byte_any w.heap.size w.heap.size _ (hd (p[k].toNat % 16)) _ E3.out (by simp only [List.length_append, List.length_cons, List.length_nil]; show _ + 2 + (0 + 1) + 1 ≤ _; omega) hz3).mono ?_
      rintro e w4 ⟨rfl, d4, b4, k4⟩
      have E4 := Lib.hid d4
      have W4 := Lib.hid (W3.out.trans b4)
      clear d4 b4 k4
      go_wp2_with fail
      go_roundw
      case rel => exact ⟨k + 1, _, by omega, by go_num, HN.out, E4.out, W4.out⟩
      case measure => simp [RowKit.intOf]; omega
    · obtain rfl : k = p.size := by omega
      have HN : Hid (acc = p.data.toList.flatMap escB) := Lib.hid (by
        have h := HA.out
        rw [List.take_of_length_le (by rw [HZ.out]; omega)] at h
        exact h)
      clear HA
      go_wp2_with fail
      refine (Tryd.Builder_String_any_k w.heap.size w.heap.size _ _ HBD.out hsz).mono ?_
      rintro e w3 ⟨rfl, _, b3, _⟩
      have W3 := Lib.hid (HBW.out.trans b3)
      clear b3
      go_wp2_with fail
      go_ret
      rw [← HN.out]
      exact ⟨rfl, W3.out⟩

set_option maxRecDepth 100000 in
theorem shown_any (p : ByteArray) (r : Nat) (w : World) (hp : p.size ≤ 67108864) (hr : r ≤ 1114111) :
    Calls Tryd.prog 36 #[.string p, .int .i32 (r : Int)] w fun e w' => e = .returned (.string (str (shownP p.data.toList r))) ∧ Below w.heap.size w w' := by
  by_cases hh : hidB p r = true
  · have HV : Hid (shownP p.data.toList r = p.data.toList.flatMap escB) := Lib.hid (if_pos hh)
    have HH := Lib.hid hh
    clear hh
    go_enter Tryd.func36, Tryd.ntmps36
    go_wp2_with fail
    refine (hidden_any p r _ hr).mono ?_
    rw [HH.out]
    rintro e w1 ⟨rfl, rfl⟩
    go_wp2_with fail
    refine (escaped_any p _ hp).mono ?_
    rintro e w2 ⟨rfl, b2⟩
    have B2 := Lib.hid b2
    clear b2
    go_wp2_with fail
    go_ret
    rw [HV.out]
    exact ⟨rfl, B2.out⟩
  · have hh' : hidB p r = false := by simpa using hh
    have HH := Lib.hid hh'
    by_cases h92 : r = 92
    · have HV : Hid (shownP p.data.toList r = [92, 92]) := Lib.hid (by unfold shownP; rw [if_neg (show ¬ hidn p.data.toList r = true from hh), if_pos h92])
      have e92 : ((r : Int) == 92) = true := beq_iff_eq.2 (by omega)
      clear hh hh' h92
      go_enter Tryd.func36, Tryd.ntmps36
      go_wp2_with fail
      refine (hidden_any p r _ hr).mono ?_
      rw [HH.out]
      rintro e w1 ⟨rfl, rfl⟩
      go_wp2_with fail
      go_ret
      rw [HV.out]
      exact ⟨rfl, Below.refl _ _⟩
    · have HV : Hid (shownP p.data.toList r = p.data.toList) := Lib.hid (by unfold shownP; rw [if_neg (show ¬ hidn p.data.toList r = true from hh), if_neg h92])
      have e92 : ((r : Int) == 92) = false := beq_eq_false_iff_ne.2 (by omega)
      clear hh hh' h92
      go_enter Tryd.func36, Tryd.ntmps36
      go_wp2_with fail
      refine (hidden_any p r _ hr).mono ?_
      rw [HH.out]
      rintro e w1 ⟨rfl, rfl⟩
      go_wp2_with fail
      go_ret
      rw [HV.out]
      exact ⟨rfl, Below.refl _ _⟩

set_option maxRecDepth 100000 in
theorem shownWidth_any (p : ByteArray) (r : Nat) (w : World) (hp : p.size ≤ 67108864) (hr : r ≤ 1114111) :
    Calls Tryd.prog 65 #[.string p, .int .i32 (r : Int)] w fun e w' => e = .returned (.int .i64 (widthP p.data.toList r : Int)) ∧ w = w' := by
  have hz : p.data.toList.length = p.size := rfl
  by_cases hh : hidB p r = true
  · have HV : Hid ((widthP p.data.toList r : Int) = 4 * (p.size : Int)) := Lib.hid (by
      have : widthP p.data.toList r = 4 * p.data.toList.length := if_pos hh
      rw [this, hz]
      omega)
    have HH := Lib.hid hh
    clear hh hz
    go_enter Tryd.func65, Tryd.ntmps65
    go_wp2_with fail
    refine (hidden_any p r _ hr).mono ?_
    rw [HH.out]
    rintro e w1 ⟨rfl, rfl⟩
    go_wp2_with fail
    go_ret
    rw [HV.out]
    exact ⟨rfl, rfl⟩
  · have hh' : hidB p r = false := by simpa using hh
    have HH := Lib.hid hh'
    by_cases h92 : r = 92
    · have HV : Hid (widthP p.data.toList r = 2) := Lib.hid (by unfold widthP; rw [if_neg (show ¬ hidn p.data.toList r = true from hh), if_pos h92])
      have e92 : ((r : Int) == 92) = true := beq_iff_eq.2 (by omega)
      clear hh hh' h92 hz
      go_enter Tryd.func65, Tryd.ntmps65
      go_wp2_with fail
      refine (hidden_any p r _ hr).mono ?_
      rw [HH.out]
      rintro e w1 ⟨rfl, rfl⟩
      go_wp2_with fail
      go_ret
      rw [HV.out]
      exact ⟨rfl, rfl⟩
    · have HV : Hid (widthP p.data.toList r = 1) := Lib.hid (by unfold widthP; rw [if_neg (show ¬ hidn p.data.toList r = true from hh), if_neg h92])
      have e92 : ((r : Int) == 92) = false := beq_eq_false_iff_ne.2 (by omega)
      clear hh hh' h92 hz
      go_enter Tryd.func65, Tryd.ntmps65
      go_wp2_with fail
      refine (hidden_any p r _ hr).mono ?_
      rw [HH.out]
      rintro e w1 ⟨rfl, rfl⟩
      go_wp2_with fail
      go_ret
      rw [HV.out]
      exact ⟨rfl, rfl⟩
end Go.Proofs.YtaoekpedjgnnjaaDoor.Wd
