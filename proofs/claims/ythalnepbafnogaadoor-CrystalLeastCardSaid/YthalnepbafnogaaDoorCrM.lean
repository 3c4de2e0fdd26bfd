/- The law CrystalLeast. -/
import Derived.Test.YthalnepbafnogaaDoorCrL
namespace Go.Proofs.YthalnepbafnogaaDoor.Cr
open Go.ChangeShapes Go.WideShapes Go.ChangeAt Go.RowKit Own Ro

set_option maxRecDepth 100000 in
set_option maxHeartbeats 8000000 in
theorem least_none (f x a b : Int) (w : World) (h : Tb w) (hd : (divide f x).2 ≠ 0) : Calls Tryd.prog 7 #[.int .i64 f, .int .i64 x, .int .i64 a, .int .i64 b] w (fun e w' => e = .returned (.bool true) ∧ Below w.heap.size w w') := by
  have HT := Lib.hid h
  clear h
  have hd0 : ((divide f x).2 == (0 : Int)) = false := by simp [hd]
  go_enter Tryd.func7, Tryd.ntmps7
  go_wp2_with fail
  refine (awake_any w HT.out).mono ?_
  rintro e w1 ⟨rfl, q, rfl⟩
  have B0 := Lib.hid (below_dr (Below.refl w.heap.size w) q)
  generalize w.drewN q = W0 at B0 ⊢
  go_wp2_with fail
  refine (divider_any f x _).mono ?_
  rintro e W0 ⟨rfl, rfl⟩
  go_wp2_with fail
  have hA := aV_bd a
  have hB := aV_bd b
  generalize wrap64 (1 + (wrap64 (a.tmod 255 + 255)).tmod 255) = a' at hA ⊢
  generalize wrap64 (1 + (wrap64 (b.tmod 255 + 255)).tmod 255) = b' at hB ⊢
  have hM := mul_bd hA hB
  have hM1 := hM.1
  have hM2 := hM.2
  have ES := Lib.hid (chain_swap f hA hB)
  have EP := Lib.hid (chain_prod f hA hB)
  clear hM
  refine (chain_two f a' b' W0 _ _).mono ?_
  rintro e w3 ⟨rfl, rfl⟩
  have B1 := Lib.hid (bal B0.out rfl (.cells #[.int .i64 a', .int .i64 b'] 2))
  generalize W0.alloc (.cells #[.int .i64 a', .int .i64 b'] 2) = W1 at B1 ⊢
  go_wp2_with fail
  refine (chain_two f b' a' W1 _ _).mono ?_
  rintro e w3 ⟨rfl, rfl⟩
  have B2 := Lib.hid (bal B1.out rfl (.cells #[.int .i64 b', .int .i64 a'] 2))
  generalize W1.alloc (.cells #[.int .i64 b', .int .i64 a'] 2) = W2 at B2 ⊢
  rw [ES.out]
  go_wp2_with fail
  refine (chain_single f (a' * b') W2 _ _).mono ?_
  rintro e w3 ⟨rfl, rfl⟩
  have B3 := Lib.hid (bal B2.out rfl (.cells #[.int .i64 (a' * b')] 2))
  generalize W2.alloc (.cells #[.int .i64 (a' * b')] 2) = W3 at B3 ⊢
  rw [EP.out]
  go_wp2_with fail
  go_ret
  exact ⟨by simp, B3.out⟩
end Go.Proofs.YthalnepbafnogaaDoor.Cr
