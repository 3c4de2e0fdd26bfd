/- The contracts of Unit, the program's and the document's. -/
import Derived.Test.YtnnldhgjmlohmaaNm3
import Derived.Deep.QuietTactic
import Derived.BigQuiet
namespace Go.Proofs.Ytnnldhgjmlohmaa.wordsNames
open Go.ChangeShapes Go.WideShapes Go.ChangeAt Go.RowKit

def Drawn (w w' : World) : Prop := ∃ n, w' = w.drewN n
theorem ret_val {a b : Value} (h : a = b) : Ending.returned a = .returned b := by rw [h]

def unitNo : Value := .tuple #[.string ⟨#[]⟩, .string ⟨#[]⟩, .int .i64 10]
def unitAll (s : ByteArray) : Value := .tuple #[.string s, .string ⟨#[]⟩, .int .i64 0]
def unitAt (s : ByteArray) (i : Nat) : Value := .tuple #[.string (s.extract 0 i), .string (s.extract (i + 1) s.size), .int .i64 0]

set_option maxHeartbeats 400000 in
theorem unit_no (s : ByteArray) (w : World) (hs : s.size ≤ maxLen) (hn : isName s.data.toList = false) :
    Calls Try.prog 5 #[.string s] w fun e w' => e = .returned unitNo ∧ Drawn w w' := by
  have HN := Lib.hid hn
  clear hn
  go_enter Try.func5, Try.ntmps5
  go_wp2_with (go_at_call 7; refine (name_any _ _ hs).mono ?_; rintro e w' ⟨rfl, rfl⟩; rw [nameE_no HN.out])
  go_ret3
  exact ⟨rfl, ⟨0, rfl⟩⟩

set_option maxHeartbeats 400000 in
theorem unit_all (s : ByteArray) (w : World) (hs : s.size ≤ maxLen) (hn : isName s.data.toList = true) (h31 : s.size ≤ 31) (hl : Lib.lastIndexByte s 64 = -1) :
    Calls Try.prog 5 #[.string s] w fun e w' => e = .returned (unitAll s) ∧ Drawn w w' := by
  have HN := Lib.hid hn
  have HL := Lib.hid hl
  clear hn hl
  go_enter Try.func5, Try.ntmps5
  go_wp2_with (first | (go_at_call 7; refine (name_any _ _ hs).mono ?_; rintro e w' ⟨rfl, rfl⟩; rw [nameE_yes HN.out]) | (go_at_call 21; refine (Try.strings_LastIndexByte _ _ (by omega) _).mono ?_; rintro e w' ⟨rfl, rfl⟩; rw [HL.out]))
  go_ret3
  exact ⟨rfl, ⟨0, rfl⟩⟩

set_option maxHeartbeats 400000 in
theorem unit_at (s : ByteArray) (w : World) (hs : s.size ≤ maxLen) (hn : isName s.data.toList = true) (h31 : s.size ≤ 31) (i : Nat) (hi : i < s.size) (hl : Lib.lastIndexByte s 64 = i) :
    Calls Try.prog 5 #[.string s] w fun e w' => e = .returned (unitAt s i) ∧ Drawn w w' := by
  have HN := Lib.hid hn
  have HL := Lib.hid hl
  clear hn hl
  go_enter Try.func5, Try.ntmps5
  go_wp2_with (first | (go_at_call 7; refine (name_any _ _ hs).mono ?_; rintro e w' ⟨rfl, rfl⟩; rw [nameE_yes HN.out]) | (go_at_call 21; refine (Try.strings_LastIndexByte _ _ (by omega) _).mono ?_; rintro e w' ⟨rfl, rfl⟩; rw [HL.out]))
  go_quiet (fail)
  go_wp2
  go_ret3
  exact ⟨rfl, ⟨_, rfl⟩⟩

set_option maxHeartbeats 400000 in
theorem refUnit_no (s : ByteArray) (w : World) (hs : s.size ≤ maxLen) (hn : isName s.data.toList = false) :
    Calls Try.prog 6 #[.string s] w fun e w' => e = .returned unitNo ∧ Drawn w w' := by
  have HN := Lib.hid hn
  clear hn
  go_enter Try.func6, Try.ntmps6
  go_wp2_with (go_at_call 8; refine (refName_any _ _ hs).mono ?_; rintro e w' ⟨rfl, rfl⟩; rw [HN.out])
  go_ret3
  exact ⟨rfl, ⟨0, rfl⟩⟩

/-- What Unit of a name tells. -/
def unitV (s : ByteArray) : Value := if Lib.lastIndexByte s 64 = -1 then unitAll s else unitAt s (Lib.lastIndexByte s 64).toNat

theorem byte_at (s : ByteArray) (k : Nat) (h : k < s.size) : s.data[k]! = s[k] := by
  have h' : k < s.data.size := h
  rw [getElem!_pos s.data k h']; rfl

set_option maxHeartbeats 400000 in
theorem refUnit_yes (s : ByteArray) (w : World) (hs : s.size ≤ maxLen) (hn : isName s.data.toList = true) (h31 : s.size ≤ 31) :
    Calls Try.prog 6 #[.string s] w fun e w' => e = .returned (unitV s) ∧ Drawn w w' := by
  have HN := Lib.hid hn
  clear hn
  go_enter Try.func6, Try.ntmps6
  go_wp2_with (go_at_call 8; refine (refName_any _ _ hs).mono ?_; rintro e w' ⟨rfl, rfl⟩; rw [HN.out])
  go_loop [5] (fun i => ∃ k : Nat, k ≤ s.size ∧ i = .int .i64 ((k : Int) - 1) ∧ Lib.lastIdx s 64 s.size = Lib.lastIdx s 64 k) (fun i => (intOf i + 1).toNat)
  case atStart => exact ⟨s.size, Nat.le_refl _, rfl, rfl⟩
  case round =>
    obtain ⟨k, hk, rfl, hi⟩ := hrel
    have HI := Lib.hid hi
    clear hi
    rcases k with _ | k
    · go_wp2
      go_ret3
      have hv : unitV s = unitAll s := by unfold unitV Lib.lastIndexByte; rw [HI.out]; rfl
      exact ⟨ret_val hv.symm, ⟨0, rfl⟩⟩
    · have e1 : ((k + 1 : Nat) : Int) - 1 = (k : Int) := by omega
      rw [e1]
      clear e1
      have hlt : k < s.size := by omega
      by_cases h64 : (s[k].toNat : Int) = 64
      · have hb : ((s[k].toNat : Int) == 64) = true := by rw [h64]; rfl
        have HV : Hid (unitV s = unitAt s k) := Lib.hid (by
          have h1 := Lib.lastIdx_hit s 64 k (by rw [byte_at s k hlt]; exact h64)
          unfold unitV Lib.lastIndexByte; rw [HI.out, h1, if_neg (by omega)]; rfl)
        clear h64
        go_wp2
        go_quiet (fail)
        go_wp2
        go_ret3
        exact ⟨ret_val HV.out.symm, ⟨_, rfl⟩⟩
      · have hb : ((s[k].toNat : Int) == 64) = false := beq_eq_false_iff_ne.2 h64
        have HM := Lib.hid (Lib.lastIdx_miss s 64 k (by rw [byte_at s k hlt]; exact h64))
        clear h64
        go_wp2
        go_round
        case rel => exact ⟨k, by omega, rfl, by rw [HI.out, HM.out]⟩
        case measure => simp [intOf]

theorem name_len {s : ByteArray} (h : isName s.data.toList = true) : s.size ≤ 31 := by
  have hl : s.data.toList.length = s.size := (Lib.size_eq s).symm
  unfold isName at h
  rw [hl] at h
  simp at h
  omega

theorem unit_yes (s : ByteArray) (w : World) (hs : s.size ≤ maxLen) (hn : isName s.data.toList = true) (h31 : s.size ≤ 31) :
    Calls Try.prog 5 #[.string s] w fun e w' => e = .returned (unitV s) ∧ Drawn w w' := by
  rcases Lib.lastIndexByte_spec s 64 with ⟨h, _⟩ | ⟨i, hi, h, _⟩
  · have hv : unitV s = unitAll s := by unfold unitV; rw [h]; rfl
    rw [hv]; exact unit_all s w hs hn h31 h
  · have hv : unitV s = unitAt s i := by unfold unitV; rw [h, if_neg (by omega)]; rfl
    rw [hv]; exact unit_at s w hs hn h31 i hi h
end Go.Proofs.Ytnnldhgjmlohmaa.wordsNames
