/- The law CrystalLeast. -/
import Derived.Test.YthalnepbafnogaaDoorCrL
namespace Go.Proofs.YthalnepbafnogaaDoor.Cr
open Go.ChangeShapes Go.WideShapes Go.ChangeAt Go.RowKit Own Ro

set_option maxRecDepth 100000 in
set_option maxHeartbeats 8000000 in
theorem least_one (f x a b : Int) (w : World) (h : Tb w) (hd : (divide f x).2 = 0) (hone : (divide f x).1 = 1) : Calls Tryd.prog 7 #[.int .i64 f, .int .i64 x, .int .i64 a, .int .i64 b] w (fun e w' => e = .returned (.bool true) ∧ Below w.heap.size w w') := by
  have HT := Lib.hid h
  clear h
  obtain ⟨d, hdd, d1, d2, f1, f2, x1, x2, c1, c2⟩ := div_facts f x hd
  have hdx : f / d ≤ x := Int.ediv_le_of_le_mul (by omega) c1
  have hd3 : (divide f x).1 = d := by rw [hdd]
  rw [hd3] at hone
  subst hone
  clear c1 c2
  go_enter Tryd.func7, Tryd.ntmps7
  go_wp2_with fail
  refine (awake_any w HT.out).mono ?_
  rintro e w1 ⟨rfl, q, rfl⟩
  have B0 := Lib.hid (below_dr (Below.refl w.heap.size w) q)
  generalize w.drewN q = W0 at B0 ⊢
  go_wp2_with fail
  refine (divider_any f x _).mono ?_
  rintro e W0 ⟨rfl, rfl⟩
  rw [hdd]
  go_wp2_with fail
  refine (chain_one f 1 W0 _ _ (by omega) (by omega) (by omega) f2).mono ?_
  rintro e w3 ⟨rfl, rfl⟩
  have B1 := Lib.hid (bal B0.out rfl (.cells #[.int .i64 1] 2))
  generalize W0.alloc (.cells #[.int .i64 1] 2) = W1 at B1 ⊢
  generalize f / 1 = v at hdx ⊢
  go_wp2_with fail
  have hA := aV_bd a
  have hB := aV_bd b
  generalize wrap64 (1 + (wrap64 (a.tmod 255 + 255)).tmod 255) = a' at hA ⊢
  generalize wrap64 (1 + (wrap64 (b.tmod 255 + 255)).tmod 255) = b' at hB ⊢
  have hM := mul_bd hA hB
  have hM1 := hM.1
  have hM2 := hM.2
  have ES := Lib.hid (chain_swap f hA hB)
  have EP := Lib.hid (chain_prod f hA hB)
  clear hM
  refine (chain_two f a' b' W1 _ _).mono ?_
  rintro e w3 ⟨rfl, rfl⟩
  have B2 := Lib.hid (bal B1.out rfl (.cells #[.int .i64 a', .int .i64 b'] 2))
  generalize W1.alloc (.cells #[.int .i64 a', .int .i64 b'] 2) = W2 at B2 ⊢
  go_wp2_with fail
  refine (chain_two f b' a' W2 _ _).mono ?_
  rintro e w3 ⟨rfl, rfl⟩
  have B3 := Lib.hid (bal B2.out rfl (.cells #[.int .i64 b', .int .i64 a'] 2))
  generalize W2.alloc (.cells #[.int .i64 b', .int .i64 a'] 2) = W3 at B3 ⊢
  rw [ES.out]
  go_wp2_with fail
  refine (chain_single f (a' * b') W3 _ _).mono ?_
  rintro e w3 ⟨rfl, rfl⟩
  have B4 := Lib.hid (bal B3.out rfl (.cells #[.int .i64 (a' * b')] 2))
  generalize W3.alloc (.cells #[.int .i64 (a' * b')] 2) = W4 at B4 ⊢
  rw [EP.out]
  go_wp2_with fail
  go_ret
  exact ⟨by simp, B4.out⟩
end Go.Proofs.YthalnepbafnogaaDoor.Cr
