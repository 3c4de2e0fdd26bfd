/- The end of what is beneath a node: the document's EndOf. -/
import Derived.Test.YtfafhkhamaccfaaTaC
namespace Go.Proofs.Ytfafhkhamaccfaa.Tr
open Go.ChangeShapes Go.WideShapes Go.ChangeAt Go.RowKit Own wordsNames

theorem end_one {L : List Nd} {n i e e' : Nat} (h : EndAt L n i e) (h' : EndAt L n i e') : e = e' := by
  obtain ⟨h1, h2, h3, h4⟩ := h
  obtain ⟨g1, g2, g3, g4⟩ := h'
  rcases Nat.lt_trichotomy e e' with hlt | rfl | hlt
  · have := g3 e h1 hlt
    rcases h4 with h4 | h4 <;> omega
  · rfl
  · have := h3 e' g1 hlt
    rcases g4 with g4 | g4 <;> omega
theorem mem_up {L : List Nd} {n : Nat} (hb : Behind L n) (i : Nat) : ∀ (m j : Nat), j ≤ m → i ≤ j → j < n → (∀ q, i < q → q ≤ j → (i : Int) ≤ (L.getD q nd0).parent) → i ∈ aboveN L j
  | 0, j, hm, hij, hj, hq => by
    obtain rfl : i = j := by omega
    exact above_self L i
  | m + 1, j, hm, hij, hj, hq => by
    by_cases e : i = j
    · rw [e]; exact above_self L j
    · have h1 := hq j (by omega) (Nat.le_refl _)
      have h2 := hb j hj
      rw [above_step L n hb j hj, if_neg (by omega)]
      refine List.mem_cons_of_mem _ (mem_up hb i m _ (by omega) (by omega) (by omega) fun q h3 h4 => hq q h3 (by omega))
theorem end_above {L : List Nd} {n i k : Nat} (hb : Behind L n) (hik : i < k) (hk : k < n) (h : ∀ j, i < j → j < k → (i : Int) ≤ (L.getD j nd0).parent) : i ∈ aboveN L k ↔ (i : Int) ≤ (L.getD k nd0).parent := by
  constructor
  · intro hm
    have h2 := hb k hk
    rw [above_step L n hb k hk] at hm
    rcases List.mem_cons.1 hm with e | hm
    · omega
    · split at hm
      · cases hm
      · have := above_le L n hb _ _ (Nat.le_refl _) (by omega) i hm
        omega
  · intro hp
    refine mem_up hb i k k (Nat.le_refl _) (by omega) hk fun q h1 h2 => ?_
    by_cases e : q = k
    · rw [e]; exact hp
    · exact h q h1 (by omega)
set_option maxHeartbeats 2000000 in
theorem refEndOf_any (A : Option Addr) (c n i : Nat) (L : List Nd) (R : List Sl) (w : World) (hi : i < n) (hnb : n ≤ 16777216) (hb : Behind L n) (hA : NodesIn w A n L R) :
    Calls Try.prog 24 #[.slice A n c, .int .i64 (i : Int)] w fun e w' => ∃ z : Nat, e = .returned (.int .i64 (z : Int)) ∧ EndAt L n i z ∧ Below w.heap.size w w' := by
  have GA := Lib.hid hA
  have HBH := Lib.hid hb
  clear hA hb
  go_enter Try.func24, Try.ntmps24
  go_wp2_with fail
  go_loopw [5] (fun v5 wr => ∃ k : Nat, i < k ∧ k ≤ n ∧ v5 = .int .i64 (k : Int) ∧ Hid (∀ j, i < j → j < k → (i : Int) ≤ (L.getD j nd0).parent) ∧ Below w.heap.size w wr) (fun v5 _ => n - (RowKit.intOf v5).toNat)
  case atStart => exact ⟨i + 1, by omega, by omega, by go_num, Lib.hid fun j h1 h2 => by omega, Below.refl _ _⟩
  case round =>
    obtain ⟨k, hik, hk, rfl, HK, hbw⟩ := hrel
    have HB := Lib.hid hbw
    clear hbw
    by_cases hkn : k < n
    · have HAB := Lib.hid (above_any A c n L R k wr hkn hnb (behind_less HBH.out (by omega)) (GA.out.below HB.out))
      have HIFF := Lib.hid (end_above HBH.out hik hkn HK.out)
      have t0 : decide ((k : Int) < (n : Int)) = true := decide_eq_true (by omega)
      go_wp2_with fail
      refine HAB.out.mono ?_
      rintro e w2 ⟨A2, m, c2, hm, rfl, ho, hb2⟩
      have HB2 := Lib.hid (bt HB.out hb2)
      have hmn : m ≤ 140737488355328 := by have := above_len L n HBH.out k hkn; omega
      obtain ⟨A3, c3, hv, hs⟩ := own_src ho
      injection hv with e1 _ e3
      rw [← e1, ← e3] at hs
      have HH := Lib.hid (has_any A2 c2 m (aboveN L k) (i : Int) w2 hm hmn hs)
      have HV : Hid (hasB (aboveN L k) (i : Int) = decide ((i : Int) ≤ (L.getD k nd0).parent)) := Lib.hid (by
        unfold hasB
        rw [decide_eq_decide, ← HIFF.out, Int.toNat_natCast]
        exact ⟨fun h => h.2, fun h => ⟨by omega, h⟩⟩)
      clear hm ho hb2 hs e1 e3
      go_wp2_with fail
      refine HH.out.mono ?_
      rw [HV.out]
      by_cases hz : (i : Int) ≤ (L.getD k nd0).parent
      · rw [decide_eq_true hz]
        have HY : Hid (∀ j, i < j → j < k + 1 → (i : Int) ≤ (L.getD j nd0).parent) := Lib.hid fun j h1 h2 => by
          by_cases hjk : j = k
          · rw [hjk]; exact hz
          · exact HK.out j h1 (by omega)
        rintro e w3 ⟨rfl, rfl⟩
        clear hz
        go_wp2_with fail
        go_roundw
        case rel => exact ⟨k + 1, by omega, by omega, by go_num, HY, HB2.out⟩
        case measure => simp [RowKit.intOf]; omega
      · rw [decide_eq_false hz]
        have HE : Hid (EndAt L n i k) := Lib.hid ⟨hik, hk, HK.out, .inr (by omega)⟩
        rintro e w3 ⟨rfl, rfl⟩
        clear hz
        go_wp2_with fail
        go_ret
        exact ⟨k, rfl, HE.out, HB2.out⟩
    · obtain rfl : n = k := by omega
      have t0 : decide ((n : Int) < (n : Int)) = false := decide_eq_false (by omega)
      have HE : Hid (EndAt L n i n) := Lib.hid ⟨hik, hk, HK.out, .inl rfl⟩
      go_wp2_with fail
      go_ret
      exact ⟨n, rfl, HE.out, HB.out⟩
end Go.Proofs.Ytfafhkhamaccfaa.Tr
