/- The contract of the document's own answer on names. -/
import Derived.Test.YtnnaoneegeenkaaNm2
namespace Go.Proofs.Ytnnaoneegeenkaa.wordsNames
open Go.ChangeShapes Go.WideShapes Go.ChangeAt Go.RowKit

set_option maxHeartbeats 1000000 in
theorem refName_any (s : ByteArray) (w : World) (hs : s.size ≤ maxLen) :
    Calls Try.prog 35 #[.string s] w fun e w' => e = .returned (.bool (isName s.data.toList)) ∧ w = w' := by
  unfold maxLen at hs
  by_cases h1 : s.size < 1
  · have hn := Lib.hid (not_name_len s (Or.inl h1))
    go_enter Try.func35, Try.ntmps35
    go_wp2
    go_ret
    exact ⟨ret_bool hn.out.symm, rfl⟩
  by_cases h2 : 31 < s.size
  · have hn := Lib.hid (not_name_len s (Or.inr h2))
    go_enter Try.func35, Try.ntmps35
    go_wp2
    go_ret
    exact ⟨ret_bool hn.out.symm, rfl⟩
  go_enter Try.func35, Try.ntmps35
  go_wp2
  go_loop [3] (fun i => ∃ k : Nat, k ≤ s.size ∧ i = .int .i64 k ∧ (s.data.toList.take k).all (fun c => nb (c.toNat : Int)) = true) (fun i => s.size - (intOf i).toNat)
  case atStart => exact ⟨0, Nat.zero_le _, rfl, rfl⟩
  case round =>
    obtain ⟨k, hk, rfl, ha⟩ := hrel
    have HA := Lib.hid ha
    clear ha
    by_cases hlt : k < s.size
    · have hb := s[k].toNat_lt
      have HS := Lib.hid (all_snoc s k hlt)
      by_cases h63 : (s[k].toNat : Int) = 63
      · have h63' : ((s[k].toNat : Int) == 63) = true := by rw [h63]; rfl
        have HB := Lib.hid (nb_yes (s[k].toNat : Int) (by omega))
        have a1 : ¬ (97 : Int) ≤ s[k].toNat := by omega
        have a2 : ¬ (s[k].toNat : Int) ≤ 57 := by omega
        have a3 : (48 : Int) ≤ s[k].toNat := by omega
        have b1 : ((s[k].toNat : Int) == 44) = false := by rw [h63]; rfl
        have b2 : ((s[k].toNat : Int) == 46) = false := by rw [h63]; rfl
        have b3 : ((s[k].toNat : Int) == 95) = false := by rw [h63]; rfl
        have b4 : ((s[k].toNat : Int) == 43) = false := by rw [h63]; rfl
        have b5 : ((s[k].toNat : Int) == 45) = false := by rw [h63]; rfl
        have b6 : ((s[k].toNat : Int) == 64) = false := by rw [h63]; rfl
        have b7 : ((s[k].toNat : Int) == 35) = false := by rw [h63]; rfl
        clear h63
        go_wp2
        go_round
        case rel => exact ⟨k + 1, by omega, by go_num, by rw [HS.out, HA.out, HB.out]; rfl⟩
        case measure => simp [intOf]; omega
      · have h63' : ((s[k].toNat : Int) == 63) = false := beq_eq_false_iff_ne.2 h63
        go_wp2
        all_goals first
          | (go_ret
             refine ⟨ret_bool (not_name s k hlt (nb_no _ ?_)).symm, rfl⟩
             first
               | omega
               | (clear HS HA
                  simp only [Bool.not_eq_true', beq_eq_false_iff_ne, ne_eq] at *
                  omega))
          | (go_round
             case rel =>
               have HB : nb (s[k].toNat : Int) = true := by
                 apply nb_yes
                 clear HS HA
                 first
                   | omega
                   | (simp only [Bool.not_eq_false', beq_iff_eq, decide_eq_true_eq, Int.not_le] at *
                      omega)
               exact ⟨k + 1, by omega, by go_num, by rw [HS.out, HA.out, HB]; rfl⟩
             case measure => simp [intOf]; omega)
    · have HN := Lib.hid (name_of s (by omega) (by omega) k hlt HA.out)
      go_wp2
      go_ret
      exact ⟨ret_bool HN.out.symm, rfl⟩
end Go.Proofs.Ytnnaoneegeenkaa.wordsNames
