/- The contracts of the functions that tell names: what each returns. -/
import Derived.Test.YtfafhkhamaccfaaShelf
import Derived.Test.YtfafhkhamaccfaaNm1
import Derived.WalkKit
import Derived.ProofKit
import Derived.WalkLawsBesides
import Derived.WalkSpells
import Derived.Outline
import Derived.Lib.Hide
namespace Go.Proofs.Ytfafhkhamaccfaa.wordsNames
open Go.ChangeShapes Go.WideShapes Go.ChangeAt Go.RowKit

theorem ret_bool {a b : Bool} (h : a = b) : Ending.returned (.bool a) = .returned (.bool b) := by rw [h]
theorem ret_int {k : IntKind} {a b : Int} (h : a = b) : Ending.returned (.int k a) = .returned (.int k b) := by rw [h]

set_option maxHeartbeats 400000 in
theorem ofName_any (c : Int) (w : World) (h0 : 0 ≤ c) (h1 : c ≤ 255) :
    Calls Try.prog 82 #[.int .u8 c] w fun e w' => e = .returned (.bool (nb c)) ∧ w = w' := by
  by_cases hld : ((decide (97 ≤ c) && decide (c ≤ 122)) || (decide (48 ≤ c) && decide (c ≤ 57))) = true
  · have hn : Hid (nb c = true) := Lib.hid (by unfold nb; rw [hld]; rfl)
    by_cases ha : 97 ≤ c
    · by_cases hb : c ≤ 122
      · clear hld
        go_enter Try.func82, Try.ntmps82
        go_wp2
        go_ret
        exact ⟨ret_bool hn.out.symm, rfl⟩
      · exfalso; simp at hld; omega
    · have hc : 48 ≤ c ∧ c ≤ 57 := by simp at hld; omega
      obtain ⟨hc, hd⟩ := hc
      clear hld
      go_enter Try.func82, Try.ntmps82
      go_wp2
      go_ret
      exact ⟨ret_bool hn.out.symm, rfl⟩
  · have hn := Lib.hid (nb_ix c h0 h1 (by simpa using hld))
    simp at hld
    obtain ⟨hA, hB⟩ := hld
    by_cases ha : 97 ≤ c
    · have hb := hA ha
      clear hA hB
      go_enter Try.func82, Try.ntmps82
      go_wp2_with (go_at_call 84; refine (Try.strings_IndexByte _ _ _).mono ?_; rintro e w' ⟨rfl, rfl⟩)
      go_ret
      exact ⟨ret_bool hn.out, rfl⟩
    · clear hA
      by_cases hc : 48 ≤ c
      · have hd := hB hc
        clear hB
        go_enter Try.func82, Try.ntmps82
        go_wp2_with (go_at_call 84; refine (Try.strings_IndexByte _ _ _).mono ?_; rintro e w' ⟨rfl, rfl⟩)
        go_ret
        exact ⟨ret_bool hn.out, rfl⟩
      · clear hB
        go_enter Try.func82, Try.ntmps82
        go_wp2_with (go_at_call 84; refine (Try.strings_IndexByte _ _ _).mono ?_; rintro e w' ⟨rfl, rfl⟩)
        go_ret
        exact ⟨ret_bool hn.out, rfl⟩

set_option maxHeartbeats 400000 in
theorem name_any (s : ByteArray) (w : World) (hs : s.size ≤ maxLen) :
    Calls Try.prog 74 #[.string s] w fun e w' => e = .returned (.int .i64 (nameE s.data.toList)) ∧ w = w' := by
  unfold maxLen at hs
  by_cases h1 : s.size < 1
  · have hn := Lib.hid (not_name_len s (Or.inl h1))
    go_enter Try.func74, Try.ntmps74
    go_wp2
    go_ret
    exact ⟨ret_int (nameE_no hn.out).symm, rfl⟩
  by_cases h2 : 31 < s.size
  · have hn := Lib.hid (not_name_len s (Or.inr h2))
    go_enter Try.func74, Try.ntmps74
    go_wp2
    go_ret
    exact ⟨ret_int (nameE_no hn.out).symm, rfl⟩
  go_enter Try.func74, Try.ntmps74
  go_wp2
  go_loop [14] (fun i => ∃ k : Nat, k ≤ s.size ∧ i = .int .i64 k ∧ (s.data.toList.take k).all (fun c => nb (c.toNat : Int)) = true) (fun i => s.size - (intOf i).toNat)
  case atStart => exact ⟨0, Nat.zero_le _, rfl, rfl⟩
  case round =>
    obtain ⟨k, hk, rfl, ha⟩ := hrel
    have HA := Lib.hid ha
    clear ha
    by_cases hlt : k < s.size
    · have hb := s[k].toNat_lt
      cases hnb : nb (s[k].toNat : Int)
      · have HN := Lib.hid (not_name s k hlt hnb)
        have HB := Lib.hid hnb
        clear hnb
        go_wp2_with (go_at_call 82; refine (ofName_any _ _ (by omega) (by omega)).mono ?_; rintro e w' ⟨rfl, rfl⟩; rw [HB.out])
        go_ret
        exact ⟨ret_int (nameE_no HN.out).symm, rfl⟩
      · have HS := Lib.hid (all_snoc s k hlt)
        have HB := Lib.hid hnb
        clear hnb
        go_wp2_with (go_at_call 82; refine (ofName_any _ _ (by omega) (by omega)).mono ?_; rintro e w' ⟨rfl, rfl⟩; rw [HB.out])
        go_round
        case rel => exact ⟨k + 1, by omega, by go_num, by rw [HS.out, HA.out, HB.out]; rfl⟩
        case measure => simp [intOf]; omega
    · have HN := Lib.hid (name_of s (by omega) (by omega) k hlt HA.out)
      go_wp2
      go_ret
      exact ⟨ret_int (nameE_yes HN.out).symm, rfl⟩
end Go.Proofs.Ytfafhkhamaccfaa.wordsNames
