/- The plan's parts: variable, add, read, gain. -/
import Derived.Test.YtnnaoneegeenkaaDoorRmT
namespace Go.Proofs.YtnnaoneegeenkaaDoor.Rp
open Go.ChangeShapes Go.WideShapes Go.ChangeAt Go.RowKit Own Ro

abbrev tableS : ByteArray := ⟨#[116, 97, 98, 108, 101]⟩
set_option maxRecDepth 100000 in
theorem variable_any (n b s : Int) (A : Option Addr) (m c : Nat) (w : World) : Calls Tryd.prog 41 #[.int .i64 n, .int .i64 b, .int .i64 s, .slice A m c] w (fun e w' => e = .returned (.slice (some ⟨w.heap.size, 0, none⟩) 1 1) ∧ w' = w.alloc (.cells #[.string tableS, .int .i64 n, .int .i64 b, .int .i64 s, .slice A m c, .slice none 0 0, .slice none 0 0] 82)) := by
  go_enter Tryd.func41, Tryd.ntmps41
  go_wp2_with fail
  go_ret
  exact ⟨rfl, rfl⟩
set_option maxRecDepth 100000 in
theorem add_any (b a : Int) (w : World) : Calls Tryd.prog 42 #[.int .i64 b, .int .i64 a] w (fun e w' => e = .returned (.slice (some ⟨w.heap.size, 0, none⟩) 1 1) ∧ w' = w.alloc (.cells #[.int .u8 1, .string tableS, .int .i64 a, .int .i64 b, .string ⟨#[]⟩, .string ⟨#[]⟩, .int .i64 0] 127)) := by
  go_enter Tryd.func42, Tryd.ntmps42
  go_wp2_with fail
  go_ret
  exact ⟨rfl, rfl⟩
set_option maxRecDepth 100000 in
theorem read_any (f : Int) (p : ByteArray) (w : World) : Calls Tryd.prog 43 #[.int .i64 f, .string p] w (fun e w' => e = .returned (.agg #[.string p, .string tableS, .int .i64 f]) ∧ w' = w.alloc (.cells #[.string p, .string tableS, .int .i64 f] 112)) := by
  go_enter Tryd.func43, Tryd.ntmps43
  go_wp2_with fail
  refine bodyPost_ret (results_cell_row rfl _ _ w.heap.size 112 #[.string p, .string tableS, .int .i64 f] (0, 0) _ rfl (heap_alloc_last w _) Tryd.underlying112 rfl (by kernel_rfl)) rfl ?_
  exact ⟨rfl, rfl⟩
set_option maxRecDepth 100000 in
theorem gain_any (p q : ByteArray) (f a : Int) (w : World) : Calls Tryd.prog 44 #[.agg #[.string p, .string q, .int .i64 f], .int .i64 a] w (fun e w' => e = .returned (.slice (some ⟨w.heap.size + 1, 0, none⟩) 1 1) ∧ w' = (w.alloc (.cells #[.string p, .string q, .int .i64 f] 112)).alloc (.cells #[.int .u8 2, .string tableS, .int .i64 a, .int .i64 0, .string p, .string q, .int .i64 f] 127)) := by
  go_enter Tryd.func44, Tryd.ntmps44
  go_wp2_with fail
  go_ret
  exact ⟨by simp, rfl⟩
end Go.Proofs.YtnnaoneegeenkaaDoor.Rp
