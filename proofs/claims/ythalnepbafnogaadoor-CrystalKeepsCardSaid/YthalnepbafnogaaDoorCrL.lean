/- The law CrystalLeast. -/
import Derived.Test.YthalnepbafnogaaDoorCrA
namespace Go.Proofs.YthalnepbafnogaaDoor.Cr
open Go.ChangeShapes Go.WideShapes Go.ChangeAt Go.RowKit Own Ro

theorem cells_one (w : World) (x : Int) (t : TypeId) : CellsIn (w.alloc (.cells #[.int .i64 x] t)) 1 (some ⟨w.heap.size, 0, none⟩) 1 (i64s [x]) :=
  ⟨rfl, .inr ⟨_, _, rfl, by show w.heap.size < (w.heap.push _).size; simp, fun j u hu => by rw [World.cell?_alloc_at _ _ _ _ rfl, Nat.zero_add]; simpa [i64s] using hu⟩⟩
theorem cells_two (w : World) (x y : Int) (t : TypeId) : CellsIn (w.alloc (.cells #[.int .i64 x, .int .i64 y] t)) 1 (some ⟨w.heap.size, 0, none⟩) 2 (i64s [x, y]) :=
  ⟨rfl, .inr ⟨_, _, rfl, by show w.heap.size < (w.heap.push _).size; simp, fun j u hu => by rw [World.cell?_alloc_at _ _ _ _ rfl, Nat.zero_add]; simpa [i64s] using hu⟩⟩
theorem chain_one (f d : Int) (W : World) (t : TypeId) (c : Nat) (hd : 1 ≤ d) (hd2 : d ≤ 65535) (h0 : 0 ≤ f) (h1 : f ≤ 1099511627776) :
    Calls Tryd.prog 19 #[.int .i64 f, .slice (some ⟨W.heap.size, 0, none⟩) 1 c] (W.alloc (.cells #[.int .i64 d] t)) (fun e w2 => e = .returned (.tuple #[.int .i64 (f / d), .int .i64 0]) ∧ w2 = W.alloc (.cells #[.int .i64 d] t)) := by
  have e1 : chain f [d] = (f / d, 0) := by
    unfold chain
    rw [if_neg (by simp; omega), if_pos (by simp [okD]; omega)]
    rfl
  have := chain_any f (some ⟨W.heap.size, 0, none⟩) c 1 [d] (W.alloc (.cells #[.int .i64 d] t)) rfl (cells_one W d t)
  rw [e1] at this
  exact this
theorem chain_two (f a b : Int) (W : World) (t : TypeId) (c : Nat) :
    Calls Tryd.prog 19 #[.int .i64 f, .slice (some ⟨W.heap.size, 0, none⟩) 2 c] (W.alloc (.cells #[.int .i64 a, .int .i64 b] t)) (fun e w2 => e = .returned (.tuple #[.int .i64 (chain f [a, b]).1, .int .i64 (chain f [a, b]).2]) ∧ w2 = W.alloc (.cells #[.int .i64 a, .int .i64 b] t)) :=
  chain_any f (some ⟨W.heap.size, 0, none⟩) c 2 [a, b] (W.alloc (.cells #[.int .i64 a, .int .i64 b] t)) rfl (cells_two W a b t)
theorem chain_single (f a : Int) (W : World) (t : TypeId) (c : Nat) :
    Calls Tryd.prog 19 #[.int .i64 f, .slice (some ⟨W.heap.size, 0, none⟩) 1 c] (W.alloc (.cells #[.int .i64 a] t)) (fun e w2 => e = .returned (.tuple #[.int .i64 (chain f [a]).1, .int .i64 (chain f [a]).2]) ∧ w2 = W.alloc (.cells #[.int .i64 a] t)) :=
  chain_any f (some ⟨W.heap.size, 0, none⟩) c 1 [a] (W.alloc (.cells #[.int .i64 a] t)) rfl (cells_one W a t)
theorem aV_bd (a : Int) : 1 ≤ wrap64 (1 + (wrap64 (a.tmod 255 + 255)).tmod 255) ∧ wrap64 (1 + (wrap64 (a.tmod 255 + 255)).tmod 255) ≤ 255 := by
  have h1 : a.tmod 255 < 255 := Int.tmod_lt_of_pos a (by decide)
  have h2 : -255 < a.tmod 255 := by
    have := Int.lt_tmod_of_pos a (show (0 : Int) < 255 by decide)
    omega
  have h3 : wrap64 (a.tmod 255 + 255) = a.tmod 255 + 255 := by unfold wrap64; omega
  rw [h3, Int.tmod_eq_emod_of_nonneg (by omega)]
  have h4 : 0 ≤ (a.tmod 255 + 255) % 255 := Int.emod_nonneg _ (by decide)
  have h5 : (a.tmod 255 + 255) % 255 < 255 := Int.emod_lt_of_pos _ (by decide)
  have h6 : wrap64 (1 + (a.tmod 255 + 255) % 255) = 1 + (a.tmod 255 + 255) % 255 := by unfold wrap64; omega
  rw [h6]
  omega
theorem mul_bd {a b : Int} (ha : 1 ≤ a ∧ a ≤ 255) (hb : 1 ≤ b ∧ b ≤ 255) : 1 ≤ a * b ∧ a * b ≤ 65025 := by
  have h1 : 1 * 1 ≤ a * b := Int.mul_le_mul ha.1 hb.1 (by decide) (by omega)
  have h2 : a * b ≤ 255 * 255 := Int.mul_le_mul ha.2 hb.2 (by omega) (by decide)
  omega
theorem chain_swap (f : Int) {a b : Int} (ha : 1 ≤ a ∧ a ≤ 255) (hb : 1 ≤ b ∧ b ≤ 255) : chain f [b, a] = chain f [a, b] := by
  unfold chain
  have e1 : [b, a].all okD = true := by simp [okD]; omega
  have e2 : [a, b].all okD = true := by simp [okD]; omega
  rw [if_pos e1, if_pos e2]
  have e3 : chV f [b, a] = chV f [a, b] := by
    show f / b / a = f / a / b
    rw [Int.ediv_ediv_of_nonneg (by omega), Int.ediv_ediv_of_nonneg (by omega), Int.mul_comm]
  rw [e3]
  rfl
theorem chain_prod (f : Int) {a b : Int} (ha : 1 ≤ a ∧ a ≤ 255) (hb : 1 ≤ b ∧ b ≤ 255) : chain f [a * b] = chain f [a, b] := by
  unfold chain
  have hm := mul_bd ha hb
  have e1 : [a * b].all okD = true := by simp only [List.all_cons, List.all_nil, okD, Bool.and_true]; exact decide_eq_true (by omega)
  have e2 : [a, b].all okD = true := by simp [okD]; omega
  rw [if_pos e1, if_pos e2]
  have e3 : chV f [a * b] = chV f [a, b] := by
    show f / (a * b) = f / a / b
    rw [Int.ediv_ediv_of_nonneg (by omega)]
  rw [e3]
  simp
theorem ceil_bd (f x : Int) (hx : 1 ≤ x) : f ≤ x * divV f x ∧ x * (divV f x - 1) < f := by
  have h := Int.mul_ediv_add_emod (f + x - 1) x
  have h1 := Int.emod_nonneg (f + x - 1) (show x ≠ 0 by omega)
  have h2 := Int.emod_lt_of_pos (f + x - 1) (show 0 < x by omega)
  unfold divV
  rw [Int.mul_sub]
  generalize x * ((f + x - 1) / x) = m at h ⊢
  omega
theorem div_facts (f x : Int) (hd : (divide f x).2 = 0) : ∃ d, divide f x = (d, 0) ∧ 1 ≤ d ∧ d ≤ 65535 ∧ 1 ≤ f ∧ f ≤ 1099511627776 ∧ 1 ≤ x ∧ x ≤ 1099511627776 ∧ f ≤ x * d ∧ x * (d - 1) < f := by
  unfold divide at hd ⊢
  by_cases h1 : badW f x
  · rw [if_pos h1] at hd; cases hd
  · rw [if_neg h1] at hd ⊢
    by_cases h2 : okD (divV f x) = true
    · rw [if_pos h2]
      have h3 : 1 ≤ divV f x ∧ divV f x ≤ 65535 := by unfold okD at h2; simpa using h2
      unfold badW at h1
      obtain ⟨c1, c2⟩ := ceil_bd f x (by omega)
      exact ⟨_, rfl, h3.1, h3.2, by omega, by omega, by omega, by omega, c1, c2⟩
    · rw [if_neg h2] at hd; cases hd
end Go.Proofs.YthalnepbafnogaaDoor.Cr
