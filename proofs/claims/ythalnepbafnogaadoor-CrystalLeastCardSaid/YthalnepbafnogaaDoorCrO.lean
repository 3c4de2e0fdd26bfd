/- The law CrystalLeast. -/
import Derived.Test.YthalnepbafnogaaDoorCrL
namespace Go.Proofs.YthalnepbafnogaaDoor.Cr
open Go.ChangeShapes Go.WideShapes Go.ChangeAt Go.RowKit Own Ro

set_option maxRecDepth 100000 in
set_option maxHeartbeats 8000000 in
theorem least_more (f x a b : Int) (w : World) (h : Tb w) (hd : (divide f x).2 = 0) (hone : (divide f x).1 ≠ 1) : Calls Tryd.prog 7 #[.int .i64 f, .int .i64 x, .int .i64 a, .int .i64 b] w (fun e w' => e = .returned (.bool true) ∧ Below w.heap.size w w') := by
  have HT := Lib.hid h
  clear h
  obtain ⟨d, hdd, d1, d2, f1, f2, x1, x2, c1, c2⟩ := div_facts f x hd
  have hdx : f / d ≤ x := Int.ediv_le_of_le_mul (by omega) c1
  have hd3 : (divide f x).1 = d := by rw [hdd]
  rw [hd3] at hone
  have hone1 : 1 < d := by omega
  have hy1 : x ≤ f / (d - 1) := Int.le_ediv_of_mul_le (by omega) (by omega)
  have hy2 : f / (d - 1) * (d - 1) ≤ f := Int.ediv_mul_le f (by omega)
  have hy3 : 0 ≤ f / (d - 1) * (d - 1) := Int.mul_nonneg (by omega) (by omega)
  have HY := Lib.hid (show x = f / (d - 1) → f / (d - 1) * (d - 1) ≠ f by intro hx; rw [← hx]; omega)
  have HF := Lib.hid f2
  clear c1 c2 hone hd hd3
  go_enter Tryd.func7, Tryd.ntmps7
  go_wp2_with fail
  refine (awake_any w HT.out).mono ?_
  rintro e w1 ⟨rfl, q, rfl⟩
  have B0 := Lib.hid (below_dr (Below.refl w.heap.size w) q)
  generalize w.drewN q = W0 at B0 ⊢
  go_wp2_with fail
  refine (divider_any f x _).mono ?_
  rintro e W0 ⟨rfl, rfl⟩
  rw [hdd]
  go_wp2_with fail
  refine (chain_one f d W0 _ _ (by omega) (by omega) (by omega) HF.out).mono ?_
  rintro e w3 ⟨rfl, rfl⟩
  have B1 := Lib.hid (bal B0.out rfl (.cells #[.int .i64 d] 2))
  generalize W0.alloc (.cells #[.int .i64 d] 2) = W1 at B1 ⊢
  generalize f / d = v at hdx ⊢
  go_wp2_with fail
  refine (chain_one f (d - 1) W1 _ _ (by omega) (by omega) (by omega) HF.out).mono ?_
  rintro e w3 ⟨rfl, rfl⟩
  have B2 := Lib.hid (bal B1.out rfl (.cells #[.int .i64 (d - 1)] 2))
  generalize W1.alloc (.cells #[.int .i64 (d - 1)] 2) = W2 at B2 ⊢
  generalize f / (d - 1) = y at hy1 hy2 hy3 HY ⊢
  have hz1 : decide (y < x) = false := by simp; omega
  have hz2 : (y == x) = true → (y * (d - 1) == f) = false := fun h => by
    have := HY.out (by simp at h; omega)
    simpa using this
  generalize hp : y * (d - 1) = p at hy2 hy3 hz2
  cases hz3 : (y == x) with
  | true =>
    have hz4 := hz2 hz3
    clear hz2
    go_wp2_with fail
    have hA := aV_bd a
    have hB := aV_bd b
    generalize wrap64 (1 + (wrap64 (a.tmod 255 + 255)).tmod 255) = a' at hA ⊢
    generalize wrap64 (1 + (wrap64 (b.tmod 255 + 255)).tmod 255) = b' at hB ⊢
    have hM := mul_bd hA hB
    have hM1 := hM.1
    have hM2 := hM.2
    have ES := Lib.hid (chain_swap f hA hB)
    have EP := Lib.hid (chain_prod f hA hB)
    clear hM
    refine (chain_two f a' b' W2 _ _).mono ?_
    rintro e w3 ⟨rfl, rfl⟩
    have B3 := Lib.hid (bal B2.out rfl (.cells #[.int .i64 a', .int .i64 b'] 2))
    generalize W2.alloc (.cells #[.int .i64 a', .int .i64 b'] 2) = W3 at B3 ⊢
    go_wp2_with fail
    refine (chain_two f b' a' W3 _ _).mono ?_
    rintro e w3 ⟨rfl, rfl⟩
    have B4 := Lib.hid (bal B3.out rfl (.cells #[.int .i64 b', .int .i64 a'] 2))
    generalize W3.alloc (.cells #[.int .i64 b', .int .i64 a'] 2) = W4 at B4 ⊢
    rw [ES.out]
    go_wp2_with fail
    refine (chain_single f (a' * b') W4 _ _).mono ?_
    rintro e w3 ⟨rfl, rfl⟩
    have B5 := Lib.hid (bal B4.out rfl (.cells #[.int .i64 (a' * b')] 2))
    generalize W4.alloc (.cells #[.int .i64 (a' * b')] 2) = W5 at B5 ⊢
    rw [EP.out]
    go_wp2_with fail
    go_ret
    exact ⟨by simp, B5.out⟩
  | false =>
    clear hz2
    go_wp2_with fail
    have hA := aV_bd a
    have hB := aV_bd b
    generalize wrap64 (1 + (wrap64 (a.tmod 255 + 255)).tmod 255) = a' at hA ⊢
    generalize wrap64 (1 + (wrap64 (b.tmod 255 + 255)).tmod 255) = b' at hB ⊢
    have hM := mul_bd hA hB
    have hM1 := hM.1
    have hM2 := hM.2
    have ES := Lib.hid (chain_swap f hA hB)
    have EP := Lib.hid (chain_prod f hA hB)
    clear hM
    refine (chain_two f a' b' W2 _ _).mono ?_
    rintro e w3 ⟨rfl, rfl⟩
    have B3 := Lib.hid (bal B2.out rfl (.cells #[.int .i64 a', .int .i64 b'] 2))
    generalize W2.alloc (.cells #[.int .i64 a', .int .i64 b'] 2) = W3 at B3 ⊢
    go_wp2_with fail
    refine (chain_two f b' a' W3 _ _).mono ?_
    rintro e w3 ⟨rfl, rfl⟩
    have B4 := Lib.hid (bal B3.out rfl (.cells #[.int .i64 b', .int .i64 a'] 2))
    generalize W3.alloc (.cells #[.int .i64 b', .int .i64 a'] 2) = W4 at B4 ⊢
    rw [ES.out]
    go_wp2_with fail
    refine (chain_single f (a' * b') W4 _ _).mono ?_
    rintro e w3 ⟨rfl, rfl⟩
    have B5 := Lib.hid (bal B4.out rfl (.cells #[.int .i64 (a' * b')] 2))
    generalize W4.alloc (.cells #[.int .i64 (a' * b')] 2) = W5 at B5 ⊢
    rw [EP.out]
    go_wp2_with fail
    go_ret
    exact ⟨by simp, B5.out⟩
end Go.Proofs.YthalnepbafnogaaDoor.Cr
