/- Floats: a sum of quotients by one number lies within a millionth of the whole one. No program. -/
import Derived.Test.YtpoijmncdicdkaaDoorFlO
namespace Go.Proofs.YtpoijmncdicdkaaDoor.Fl
open Ieee

theorem mul_ex {x y n k : Nat} (hx : Tm x n) (hy : Tm y k) : ∃ N, n * k = N * pw 1074 := by
  obtain ⟨m, i, _, _, _, i1, i2, rfl⟩ := hx
  obtain ⟨m', j, _, _, _, j1, j2, rfl⟩ := hy
  refine ⟨m * m' * pw (i + j + 1074).toNat, ?_⟩
  rw [Nat.mul_mul_mul_comm, ← pw_add, Nat.mul_assoc (m * m'), ← pw_add]
  congr 2
  omega
theorem one_mil : Tm 4607182423303617035 (4503604130970123 * pw 1022) := ⟨4503604130970123, -52, by rfl, by rw [pw52]; decide, by rw [pw53]; decide, by decide, by decide, by rw [show ((-52 : Int) + 1074).toNat = 1022 from rfl]⟩
theorem less_mil : Tm 4607182409792818153 (9007190247541737 * pw 1021) := ⟨9007190247541737, -53, by rfl, by rw [pw52]; decide, by rw [pw53]; decide, by decide, by decide, by rw [show ((-53 : Int) + 1074).toNat = 1021 from rfl]⟩
theorem pw74 : pw 1074 = 4503599627370496 * pw 1022 := by rw [show pw 1074 = pw 52 * pw 1022 from pw_add 52 1022, pw52]
theorem pw74' : pw 1074 = 9007199254740992 * pw 1021 := by rw [show pw 1074 = pw 53 * pw 1021 from pw_add 53 1021, pw53]
/-- The product of the whole one and a number near one. -/
theorem whole {s k x r c kc D : Nat} (hs : Sl s k) (hx : Tm x r) (ha : App 1 (r * k) (D * (pw 1074 * pw 1074))) (h0 : 524288 ≤ D) (h1 : D ≤ 100000000) (hc : Tm c kc) (c1 : pw 1074 ≤ 2 * kc) (c2 : kc ≤ 2 * pw 1074) :
    ∃ z u N, double.mul x c = some z ∧ Tm z u ∧ Close u N ∧ r * kc = N * pw 1074 := by
  have hT := pw_pos 1074
  have r1 := app_low hT hs.2.1 hs.2.2 h0 ha
  have r2 := app_high hT hs.2.1 h1 (by decide : 1 ≤ 1000) ha
  obtain ⟨N, hN⟩ := mul_ex hx hc
  have n1 : pw 1061 ≤ N := by
    have a := Nat.mul_le_mul r1 c1
    rw [Nat.mul_left_comm, hN, ← Nat.mul_assoc] at a
    have b := Nat.le_of_mul_le_mul_right a hT
    have e : pw 1074 = 2 * pw 1073 := by have := pw_add 1 1073; rw [show pw 1 = 2 by decide] at this; exact this
    exact Nat.le_trans (pw_le (show 1061 ≤ 1073 by decide)) (by rw [e] at b; omega)
  have n2 : N < pw 1173 := by
    have a := Nat.mul_le_mul r2 c2
    rw [hN, Nat.mul_mul_mul_comm, ← Nat.mul_assoc] at a
    have b := Nat.le_of_mul_le_mul_right a hT
    exact Nat.lt_of_le_of_lt (Nat.le_trans b (pw_small _ (by decide))) (pw_lt (by decide))
  obtain ⟨z, u, h1, h2, h3⟩ := mul_tm hx hc hN n1 n2
  exact ⟨z, u, N, h1, h2, h3, hN⟩
theorem sc1 {a b C : Nat} (k : Nat) (h : a * C ≤ b * C + a) : a * k * C ≤ b * k * C + a * k := sc2 k h
theorem sc5 {a b C e : Nat} (k : Nat) (h : a * C ≤ b * C + b * e) : a * k * C ≤ b * k * C + b * k * e := by
  have := Nat.mul_le_mul_right k h
  rw [Nat.add_mul] at this
  rw [Nat.mul_right_comm a, Nat.mul_right_comm b k C, Nat.mul_right_comm b k e]
  exact this
theorem sc6 {a b C e : Nat} (k : Nat) (h : b * C ≤ a * C + b * e) : b * k * C ≤ a * k * C + b * k * e := by
  have := Nat.mul_le_mul_right k h
  rw [Nat.add_mul] at this
  rw [Nat.mul_right_comm a, Nat.mul_right_comm b k C, Nat.mul_right_comm b k e]
  exact this
/-- The sum is not above the whole one and a millionth of it. -/
theorem sum_up {s k x r D e σ cb c : Nat} (hs : Sl s k) (hx : Tm x r) (ha : App 1 (r * k) (D * (pw 1074 * pw 1074))) (h0 : 524288 ≤ D) (h1 : D ≤ 100000000) (he : e ≤ 100) (hσ : Sm k D e σ) (hc : Tm cb c) (c1 : pw 1074 ≤ 2 * c) (c2 : c ≤ 2 * pw 1074) (kc : pw 1074 * 2000001 ≤ c * 2000000) :
    ∃ z, double.mul x cb = some z ∧ (double.order σ z == some .gt) = false := by
  obtain ⟨S, hS, hA⟩ := hσ
  obtain ⟨z, u, N, z1, z2, z3, hN⟩ := whole hs hx ha h0 h1 hc c1 c2
  refine ⟨z, z1, not_gt hS z2.num ?_⟩
  have hT := pw_pos 1074
  have hk : 0 < k := by have := hs.2.1; omega
  refine Nat.le_of_mul_le_mul_right (c := k * pw 1074) ?_ (Nat.mul_pos hk hT)
  have q1 := few1 (sc1 (k * pw 1074) (close_num z3).2)
  rw [show N * (k * pw 1074) = r * k * c by rw [Nat.mul_left_comm, ← hN, Nat.mul_left_comm, Nat.mul_assoc, Nat.mul_left_comm]] at q1
  have a2 := ha.2
  rw [Nat.mul_one] at a2
  have q2 := few3 (sc1 c a2)
  have hA1 := (app_mono hA he).1
  have q4 := few5 (sc5 (pw 1074) hA1)
  rw [Nat.mul_assoc S] at q4
  have q3 : D * (pw 1074 * pw 1074) * pw 1074 * 2000001 ≤ D * (pw 1074 * pw 1074) * c * 2000000 := by
    rw [Nat.mul_assoc _ (pw 1074) 2000001, Nat.mul_assoc _ c 2000000]
    exact Nat.mul_le_mul_left _ kc
  exact app_up q1 q2 q3 q4
theorem sum_down {s k x r D e σ cb c : Nat} (hs : Sl s k) (hx : Tm x r) (ha : App 1 (r * k) (D * (pw 1074 * pw 1074))) (h0 : 524288 ≤ D) (h1 : D ≤ 100000000) (he : e ≤ 100) (hσ : Sm k D e σ) (hc : Tm cb c) (c1 : pw 1074 ≤ 2 * c) (c2 : c ≤ 2 * pw 1074) (kc : c * 2000000 ≤ pw 1074 * 1999999) :
    ∃ z, double.mul x cb = some z ∧ (double.order σ z == some .lt) = false := by
  obtain ⟨S, hS, hA⟩ := hσ
  obtain ⟨z, u, N, z1, z2, z3, hN⟩ := whole hs hx ha h0 h1 hc c1 c2
  refine ⟨z, z1, not_lt hS z2.num ?_⟩
  have hT := pw_pos 1074
  have hk : 0 < k := by have := hs.2.1; omega
  refine Nat.le_of_mul_le_mul_right (c := k * pw 1074) ?_ (Nat.mul_pos hk hT)
  have q1 := few2 (sc (k * pw 1074) (close_num z3).1)
  rw [show N * (k * pw 1074) = r * k * c by rw [Nat.mul_left_comm, ← hN, Nat.mul_left_comm, Nat.mul_assoc, Nat.mul_left_comm]] at q1
  have a2 := ha.1
  rw [Nat.mul_one] at a2
  have q2 := few4 (sc c a2)
  have hA1 := (app_mono hA he).2
  have q4 := few6 (sc6 (pw 1074) hA1)
  rw [Nat.mul_assoc S] at q4
  have q3 : D * (pw 1074 * pw 1074) * c * 2000000 ≤ D * (pw 1074 * pw 1074) * pw 1074 * 1999999 := by
    rw [Nat.mul_assoc _ (pw 1074) 1999999, Nat.mul_assoc _ c 2000000]
    exact Nat.mul_le_mul_left _ kc
  exact app_down q1 q2 q3 q4
theorem mil_b (t : Nat) : 4503599627370496 * t ≤ 2 * (4503604130970123 * t) ∧ 4503604130970123 * t ≤ 2 * (4503599627370496 * t) ∧ 2000001 * (4503599627370496 * t) ≤ 2000000 * (4503604130970123 * t) := by omega
theorem mil_c (t : Nat) : 9007199254740992 * t ≤ 2 * (9007190247541737 * t) ∧ 9007190247541737 * t ≤ 2 * (9007199254740992 * t) ∧ 2000000 * (9007190247541737 * t) ≤ 1999999 * (9007199254740992 * t) := by omega
theorem up_mil {s k x r D e σ : Nat} (hs : Sl s k) (hx : Tm x r) (ha : App 1 (r * k) (D * (pw 1074 * pw 1074))) (h0 : 524288 ≤ D) (h1 : D ≤ 100000000) (he : e ≤ 100) (hσ : Sm k D e σ) :
    ∃ z, double.mul x 4607182423303617035 = some z ∧ (double.order σ z == some .gt) = false := by
  have hm := mil_b (pw 1022)
  rw [← pw74] at hm
  exact sum_up hs hx ha h0 h1 he hσ one_mil hm.1 hm.2.1 (by rw [Nat.mul_comm (pw 1074) 2000001, Nat.mul_comm _ 2000000]; exact hm.2.2)
theorem down_mil {s k x r D e σ : Nat} (hs : Sl s k) (hx : Tm x r) (ha : App 1 (r * k) (D * (pw 1074 * pw 1074))) (h0 : 524288 ≤ D) (h1 : D ≤ 100000000) (he : e ≤ 100) (hσ : Sm k D e σ) :
    ∃ z, double.mul x 4607182409792818153 = some z ∧ (double.order σ z == some .lt) = false := by
  have hm := mil_c (pw 1021)
  rw [← pw74'] at hm
  exact sum_down hs hx ha h0 h1 he hσ less_mil hm.1 hm.2.1 (by rw [Nat.mul_comm (pw 1074) 1999999, Nat.mul_comm _ 2000000]; exact hm.2.2)
end Go.Proofs.YtpoijmncdicdkaaDoor.Fl
