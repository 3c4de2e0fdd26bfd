/- The law RollAgain: what it reckons with. -/
import Derived.Test.YtmlfnihicocilaaRlH
import Derived.Test.YtmlfnihicocilaaRlS
import Derived.Test.YtmlfnihicocilaaKcC
import Derived.Test.YtmlfnihicocilaaRlI
namespace Go.Proofs.Ytmlfnihicocilaa.Ko
open Go.ChangeShapes Go.WideShapes Go.ChangeAt Go.RowKit Own Ro wordsNames Kc Kr

set_option maxRecDepth 100000 in
set_option maxHeartbeats 8000000 in
theorem pick_any (k : Int) (n : Nat) (w : World) (h0 : 0 < n) (hn : n ≤ 1000) : Calls Try.prog 17 #[.int .i64 k, .int .i64 (n : Int)] w (fun e w' => ∃ j : Nat, j < n ∧ e = .returned (.int .i64 (j : Int)) ∧ w' = w) := by
  obtain ⟨t1, t2⟩ := tmod_lt k n h0
  have k3 : ((n : Int) == 0) = false := by simp; omega
  have n1 : (n : Int) ≤ 1000 := by omega
  by_cases hneg : k.tmod (n : Int) < 0
  · obtain ⟨j, hj, ej⟩ : ∃ j : Nat, j < n ∧ k.tmod (n : Int) + (n : Int) = (j : Int) := ⟨(k.tmod (n : Int) + (n : Int)).toNat, by omega, by omega⟩
    go_enter Try.func17, Try.ntmps17
    go_wp2_with fail
    go_ret
    exact ⟨j, hj, rfl, rfl⟩
  · obtain ⟨j, hj, ej⟩ : ∃ j : Nat, j < n ∧ k.tmod (n : Int) = (j : Int) := ⟨(k.tmod (n : Int)).toNat, by omega, by omega⟩
    go_enter Try.func17, Try.ntmps17
    go_wp2_with fail
    go_ret
    exact ⟨j, hj, rfl, rfl⟩
/-- The families one behind the other. -/
def LsK (k : Nat) : List Cd := [FLc, FLs, FLb, FLe, FLr].getD k []
def offK (k : Nat) : Nat := [0, 5, 11, 16, 21, 27].getD k 0
theorem LsK_at : ∀ k < 5, ∀ i < (LsK k).length, AL.getD (offK k + i) cd0 = (LsK k).getD i cd0 ∧ offK k + i < 27 := by
  intro k hk i hi
  have h6 : i < 6 := Nat.lt_of_lt_of_le hi (by
    obtain rfl | rfl | rfl | rfl | rfl : k = 0 ∨ k = 1 ∨ k = 2 ∨ k = 3 ∨ k = 4 := by omega
    all_goals decide)
  obtain rfl | rfl | rfl | rfl | rfl : k = 0 ∨ k = 1 ∨ k = 2 ∨ k = 3 ∨ k = 4 := by omega
  all_goals
    obtain rfl | rfl | rfl | rfl | rfl | rfl : i = 0 ∨ i = 1 ∨ i = 2 ∨ i = 3 ∨ i = 4 ∨ i = 5 := by omega
    all_goals first
      | exact ⟨rfl, by decide⟩
      | exact absurd hi (by decide)
theorem offK_next : ∀ k < 5, offK (k + 1) = offK k + (LsK k).length := by decide +kernel
theorem LsK_len : ∀ k < 5, 1 ≤ (LsK k).length ∧ (LsK k).length ≤ 6 := by decide +kernel
theorem dup_st {C : Cs} {g : Nat} (hC : plain C = stI g) (hg : g < 27) : Dup C (AL.getD g cd0).name ↔ dupB g = true := by
  rw [dup_iff, hC, ← st_dup g hg, List.any_eq_true]
  constructor
  · rintro ⟨i, hi, he⟩
    refine ⟨_, List.getElem_mem hi, ?_⟩
    rw [List.getD_eq_getElem?_getD, List.getElem?_eq_getElem hi] at he
    exact decide_eq_true he
  · rintro ⟨x, hx, he⟩
    obtain ⟨i, hi, rfl⟩ := List.getElem_of_mem hx
    exact ⟨i, hi, by rw [List.getD_eq_getElem?_getD, List.getElem?_eq_getElem hi]; exact of_decide_eq_true he⟩
/-- One more of the families' cards is entered. -/
theorem ent_step {C F C' F' : Cs} {B g : Nat} {er : Int} (hC : plain C = stI g) (hF : plain F = rfI g) (hg : g < 27) (h : EnterRel C F false (AL.getD g cd0) B C' F' er) : plain C' = stI (g + 1) ∧ plain F' = rfI (g + 1) := by
  have hd := dup_st hC hg
  have lC : C.length ≤ 22 := by rw [← plain_len, hC]; exact st_len g (by omega)
  have lF : F.length ≤ 5 := by rw [← plain_len, hF]; exact rf_len g (by omega)
  rw [stI_succ, rfI_succ]
  by_cases hq : dupB g = true
  · obtain ⟨_, rfl, r, rfl, _⟩ := enter_dup h (AL_ok g hg) (hd.2 hq) (by omega)
    rw [if_pos hq, if_pos hq, plain_snoc, hF]
    exact ⟨hC, rfl⟩
  · obtain ⟨_, rfl, r, rfl, _⟩ := enter_ok h (AL_ok g hg) (fun e => hq (hd.1 e)) (by omega)
    rw [if_neg hq, if_neg hq, plain_snoc, hC]
    exact ⟨rfl, hF⟩
/-- The cards that stand, in another order. -/
structure Good (L : List Cd) (R : List Sl) (base : Nat) : Prop where
  len : L.length = 22
  mem : ∀ i, i < 22 → L.getD i cd0 ∈ SL
  one : ∀ i j, i < 22 → j < 22 → (L.getD i cd0).name = (L.getD j cd0).name → i = j
  lenR : R.length = 22
  high : ∀ i, i < 22 → ∀ a, (R.getD i sl0).1 = some a → base ≤ a.block
theorem Good.start {R : List Sl} {base : Nat} (hR : R.length = 22) (h : ∀ i, i < 22 → ∀ a, (R.getD i sl0).1 = some a → base ≤ a.block) : Good SL R base :=
  ⟨SL_len, SL_mem, fun i j hi hj e => SLd i hi j hj e, hR, h⟩
theorem Good.swap {L : List Cd} {R : List Sl} {base : Nat} (h : Good L R base) {a j : Nat} (ha : a < 22) (hj : j < 22) : Good ((L.set a (L.getD j cd0)).set j (L.getD a cd0)) ((R.set a (R.getD j sl0)).set j (R.getD a sl0)) base := by
  have hL := h.len
  have hR := h.lenR
  have hs : ∀ i, i < 22 → ∃ k, k < 22 ∧ ((L.set a (L.getD j cd0)).set j (L.getD a cd0)).getD i cd0 = L.getD k cd0 ∧ ((R.set a (R.getD j sl0)).set j (R.getD a sl0)).getD i sl0 = R.getD k sl0 ∧ (k = if i = j then a else if i = a then j else i) := fun i hi => by
    rw [getD_set2 _ j i _ cd0 (by rw [List.length_set]; omega), getD_set2 _ j i _ sl0 (by rw [List.length_set]; omega), getD_set2 _ a i _ cd0 (by omega), getD_set2 _ a i _ sl0 (by omega)]
    by_cases h1 : i = j
    · exact ⟨a, ha, by simp [h1], by simp [h1], by simp [h1]⟩
    · by_cases h2 : i = a
      · exact ⟨j, hj, by rw [if_neg h1, if_pos h2], by rw [if_neg h1, if_pos h2], by rw [if_neg h1, if_pos h2]⟩
      · exact ⟨i, hi, by rw [if_neg h1, if_neg h2], by rw [if_neg h1, if_neg h2], by rw [if_neg h1, if_neg h2]⟩
  refine ⟨by simp [hL], fun i hi => ?_, fun i k hi hk e => ?_, by simp [hR], fun i hi b hb => ?_⟩
  · obtain ⟨m, hm, e1, _, _⟩ := hs i hi
    rw [e1]
    exact h.mem m hm
  · obtain ⟨m, hm, e1, _, e2⟩ := hs i hi
    obtain ⟨n, hn, f1, _, f2⟩ := hs k hk
    rw [e1, f1] at e
    have := h.one m n hm hn e
    rw [e2, f2] at this
    split at this <;> split at this <;> (try split at this) <;> (try split at this) <;> omega
  · obtain ⟨m, hm, _, e1, _⟩ := hs i hi
    rw [e1] at hb
    exact h.high m hm b hb
theorem Good.mild {L : List Cd} {R : List Sl} {base : Nat} (h : Good L R base) (k : Nat) : MildC 63 (L.getD k cd0) := by
  by_cases hk : k < 22
  · obtain ⟨i, _, he⟩ := SL_at (h.mem k hk)
    rw [← he]
    exact mild_SL i
  · rw [out_len cd0 (by rw [h.len]; omega)]
    exact mild_zero _
theorem Good.ok {L : List Cd} {R : List Sl} {base : Nat} (h : Good L R base) (k : Nat) (hk : k < 22) : CardOk (L.getD k cd0) := by
  obtain ⟨i, hi, he⟩ := SL_at (h.mem k hk)
  rw [← he]
  exact SL_ok i hi
theorem Good.find {L : List Cd} {R : List Sl} {base : Nat} (h : Good L R base) (k : Nat) (hk : k < 22) {d : Cd} {er : Int} (hf : FindRel (L.getD k cd0).name d er) : d = L.getD k cd0 ∧ er = 0 := by
  obtain ⟨i, hi, he⟩ := SL_at (h.mem k hk)
  rcases hf with ⟨h1, h2, h3⟩ | ⟨h1, _, _⟩
  · obtain ⟨j, hj, he'⟩ := SL_at h1
    rw [← he, ← he'] at h2
    rw [← he, ← he', SLd j hj i hi h2]
    exact ⟨rfl, h3⟩
  · exact absurd rfl (h1 _ (h.mem k hk))
theorem Good.enter {L : List Cd} {R : List Sl} {base B k : Nat} {D D' G' : Cs} {er : Int} (h : Good L R base) (hk : k < 22) (hD : plain D = L.take k) (he : EnterRel D [] false (L.getD k cd0) B D' G' er) : er = 0 ∧ G' = [] ∧ plain D' = L.take (k + 1) := by
  have hn : ¬ Dup D (L.getD k cd0).name := fun hd => by
    rw [dup_iff, hD] at hd
    obtain ⟨i, hi, e⟩ := hd
    have hi2 : i < k := by rw [List.length_take] at hi; omega
    rw [List.getD_eq_getElem?_getD, List.getElem?_take, if_pos hi2, ← List.getD_eq_getElem?_getD] at e
    have := h.one i k (by omega) hk e
    omega
  have lD : D.length ≤ 22 := by rw [← plain_len, hD, List.length_take]; omega
  obtain ⟨e1, e2, r, rfl, _⟩ := enter_ok he (h.ok k hk) hn (by omega)
  exact ⟨e1, e2, by rw [plain_snoc, hD, takeS L cd0 k (by rw [h.len]; exact hk)]⟩
theorem RL_small : ∀ i < 5, (RL.getD i cd0).name.length ≤ 31 ∧ (RL.getD i cd0).fam.length ≤ 31 ∧ (RL.getD i cd0).quirk.length ≤ 31 ∧ 1 ≤ (RL.getD i cd0).compat.length ∧ (RL.getD i cd0).compat.length ≤ 2 ∧ ∀ j < 3, ((RL.getD i cd0).compat.getD j []).length ≤ 63 := by decide +kernel
theorem mild_RL (k : Nat) : MildC 63 (RL.getD k cd0) := by
  by_cases h : k < 5
  · exact mild_small (RL_small k h)
  · rw [out_len cd0 (by rw [RL_len]; omega)]
    exact mild_zero _
theorem cells_kp {W V : World} {lo hi n q : Nat} {A : Option Addr} {xs : List Value} (h : CellsIn W q A n xs) (hk : Kp lo hi W V) (ha : ∀ a, A = some a → a.block < lo ∨ hi ≤ a.block) : CellsIn V q A n xs := by
  refine ⟨h.1, ?_⟩
  rcases h.2 with h0 | ⟨b, o, rfl, hlt, hc⟩
  · exact .inl h0
  · refine .inr ⟨b, o, rfl, Nat.lt_of_lt_of_le hlt hk.size, fun j u hu => ?_⟩
    rw [← hc j u hu]
    exact World.cell?_of_block (hk.block b hlt (ha _ rfl))
/-- The list as it stands while another block is written. -/
theorem half_kp {W V : World} {base g c lo : Nat} {L : List Cd} {R : List Sl} (h : Half W base (some ⟨g, 0, none⟩) 22 c L R) (hg : Good L R base) (hk : Kp lo (lo + 1) W V) (hb : lo < base) (hgb : base ≤ g) : Ro.RowsIn KC V (some ⟨g, 0, none⟩) 22 L R :=
  ⟨h.hn, h.hR, cells_kp (own_cells h.own) hk (fun a ha => .inr (by injection ha with ha; rw [← ha]; show lo + 1 ≤ g; omega)), fun i hi => ⟨(h.tx i hi).1, cells_kp (h.tx i hi).2.1 hk (fun a ha => .inr (by have := hg.high i hi a ha; omega))⟩⟩
theorem SL_chk : ChkC SL 0 0 := .inr ⟨fun k hk => by
  rw [SL_len] at hk
  exact ⟨by omega, SL_ok k hk, fun i hi e => by have := SLd i (by omega) k hk e; omega⟩, rfl, rfl⟩
end Go.Proofs.Ytmlfnihicocilaa.Ko
