/- Registries: New; a sample card. -/
import Derived.Test.YtjafddkkndfphaaKrF
namespace Go.Proofs.Ytjafddkkndfphaa.Kr
open Go.ChangeShapes Go.WideShapes Go.ChangeAt Go.RowKit Own Ro wordsNames Kc

def zeroR : Array Value := ⟨regV [] [] [] false⟩
set_option maxRecDepth 100000 in
theorem zero_reg (W : World) : (zeroValue 81).run Try.prog W = .ok (.agg zeroR) W := by kernel_rfl
theorem zeroR_size : zeroR.size = 1924 := by
  show (regV [] [] [] false).length = 1924
  unfold regV
  rw [List.length_append, List.length_append, List.length_append, roomV_len [] (by decide), noteV_len [] (by decide)]
  rfl
theorem zeroR_ne : ¬ zeroR = #[] := by
  intro h
  have := zeroR_size
  rw [h] at this
  simp at this
set_option maxRecDepth 100000 in
set_option maxHeartbeats 8000000 in
theorem new_any (w : World) : Calls Try.prog 9 #[] w fun e w' => e = .returned (.pointer (some ⟨w.heap.size, 0, none⟩)) ∧ w' = w.alloc (.cells ⟨regV [] [] [] false⟩ 81) := by
  go_enter Try.func9, Try.ntmps9
  have hz := zero_reg
  have hs := zeroR_size
  have hn := zeroR_ne
  go_wp2_with fail
  go_ret
  exact ⟨rfl, rfl⟩
theorem new_reg (w : World) : RegAt (w.alloc (.cells ⟨regV [] [] [] false⟩ 81)) w.heap.size [] [] [] false :=
  ⟨heap_alloc_new w _, by decide, by decide, by decide, TxAll.nil _ _, TxAll.nil _ _, fun k => ⟨by simp [zc, cd0], by simp [zc, cd0], by simp [zc, cd0], by simp [zc, cd0], fun k => by simp [zc, cd0]⟩, fun k => ⟨by simp [zc, cd0], by simp [zc, cd0], by simp [zc, cd0], by simp [zc, cd0], fun k => by simp [zc, cd0]⟩⟩
def busN : List UInt8 := [98, 117, 115]
def smp (s : List UInt8) : Cd := ⟨s, busN, 1, [[97]], 5, [], -1⟩
set_option maxRecDepth 100000 in
set_option maxHeartbeats 8000000 in
theorem sample_any (s : List UInt8) (w : World) : Calls Try.prog 11 #[.string (str s)] w (MadeC (smp s) w) := by
  generalize hS : str s = S
  have HS := Lib.hid hS
  clear hS
  go_enter Try.func11, Try.ntmps11
  go_wp2_with fail
  refine bodyPost_ret (v := .agg #[.string S, .string ⟨#[98, 117, 115]⟩, .int .u8 1, .slice (some ⟨w.heap.size + 1, 0, none⟩) 1 1, .int .i8 5, .string ⟨#[]⟩, .int .i16 (-1)]) (by simp [results, Try.results11, go_sem]) rfl ⟨some ⟨w.heap.size + 1, 0, none⟩, 1, 1, ?_, rfl, ?_, bal (bal (Below.refl w.heap.size w) rfl _) rfl _⟩
  · rw [← HS.out]
    rfl
  · have h := World.ownsRow_lit (e := 9) (base := w.heap.size) (size := 1) (w.alloc (.cells #[.string S, .string ⟨#[98, 117, 115]⟩, .int .u8 1, .slice (some ⟨w.heap.size + 1, 0, none⟩) 1 1, .int .i8 5, .string ⟨#[]⟩, .int .i16 (-1)] 30)) #[.string ⟨#[97]⟩] 1 (by simp) (by unfold maxLen; omega) rfl
    have e2 : (w.alloc (.cells #[.string S, .string ⟨#[98, 117, 115]⟩, .int .u8 1, .slice (some ⟨w.heap.size + 1, 0, none⟩) 1 1, .int .i8 5, .string ⟨#[]⟩, .int .i16 (-1)] 30)).heap.size = w.heap.size + 1 := by simp
    rw [e2] at h
    exact h
end Go.Proofs.Ytjafddkkndfphaa.Kr
