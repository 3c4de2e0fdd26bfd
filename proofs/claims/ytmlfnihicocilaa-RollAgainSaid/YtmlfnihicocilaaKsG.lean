/- Registries: New; a sample card. -/
import Derived.Test.YtmlfnihicocilaaKsF
namespace Go.Proofs.Ytmlfnihicocilaa.Kr
open Go.ChangeShapes Go.WideShapes Go.ChangeAt Go.RowKit Own Ro wordsNames Kc

def zeroR : Array Value := ⟨regV [] [] [] false⟩
set_option maxRecDepth 100000 in
theorem zero_reg (W : World) : (zeroValue 50).run Try.prog W = .ok (.agg zeroR) W := by kernel_rfl
theorem zeroR_size : zeroR.size = 1924 := by
  show (regV [] [] [] false).length = 1924
  unfold regV
  rw [List.length_append, List.length_append, List.length_append, roomV_len [] (by decide), noteV_len [] (by decide)]
  rfl
theorem zeroR_ne : ¬ zeroR = #[] := by
  intro h
  have := zeroR_size
  rw [h] at this
  simp at this
set_option maxRecDepth 100000 in
set_option maxHeartbeats 8000000 in
theorem new_any (w : World) : Calls Try.prog 4 #[] w fun e w' => e = .returned (.pointer (some ⟨w.heap.size, 0, none⟩)) ∧ w' = w.alloc (.cells ⟨regV [] [] [] false⟩ 50) := by
  go_enter Try.func4, Try.ntmps4
  have hz := zero_reg
  have hs := zeroR_size
  have hn := zeroR_ne
  go_wp2_with fail
  go_ret
  exact ⟨rfl, rfl⟩
theorem new_reg (w : World) : RegAt (w.alloc (.cells ⟨regV [] [] [] false⟩ 50)) w.heap.size [] [] [] false :=
  ⟨heap_alloc_new w _, by decide, by decide, by decide, TxAll.nil _ _, TxAll.nil _ _, fun k => ⟨by simp [zc, cd0], by simp [zc, cd0], by simp [zc, cd0], by simp [zc, cd0], fun k => by simp [zc, cd0]⟩, fun k => ⟨by simp [zc, cd0], by simp [zc, cd0], by simp [zc, cd0], by simp [zc, cd0], fun k => by simp [zc, cd0]⟩⟩
end Go.Proofs.Ytmlfnihicocilaa.Kr
