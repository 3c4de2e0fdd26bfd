/- The plan in memory. -/
import Derived.Test.YtnnaoneegeenkaaDoorRpA
namespace Go.Proofs.YtnnaoneegeenkaaDoor.Rp
open Go.ChangeShapes Go.WideShapes Go.ChangeAt Go.RowKit Own Ro

def allocs (w : World) (l : List Obj) : World := l.foldl World.alloc w
theorem allocs_size (l : List Obj) : ∀ w : World, (allocs w l).heap.size = w.heap.size + l.length := by
  induction l with
  | nil => intro w; rfl
  | cons o l ih => intro w; show (allocs (w.alloc o) l).heap.size = _; rw [ih]; simp; omega
theorem allocs_below (l : List Obj) : ∀ w : World, Below w.heap.size w (allocs w l) := by
  induction l with
  | nil => exact fun w => Below.refl _ _
  | cons o l ih => exact fun w => bt (grows' w o) (ih (w.alloc o))
theorem allocs_at (l : List Obj) : ∀ (w : World) (i : Nat), i < l.length → (allocs w l).heap[w.heap.size + i]? = l[i]? := by
  induction l with
  | nil => intro w i h; cases h
  | cons o l ih =>
    intro w i h
    show (allocs (w.alloc o) l).heap[w.heap.size + i]? = _
    cases i with
    | zero =>
      rw [Nat.add_zero, (allocs_below l (w.alloc o)).block w.heap.size (by simp)]
      exact heap_alloc_last w o
    | succ i =>
      have h1 := ih (w.alloc o) i (by simpa using h)
      rw [show w.heap.size + (i + 1) = (w.alloc o).heap.size + i by simp; omega]
      exact h1
/-- The plan's objects, behind h blocks: the packages in the last. -/
def planO (h : Nat) : List Obj := [
  .cells #[.string tableS, .int .i64 32, .int .i64 1000000, .int .i64 1000000, .slice none 0 0, .slice none 0 0, .slice none 0 0] 82 (0, 0),
  .cells #[.int .u8 1, .string tableS, .int .i64 0, .int .i64 (-967232), .string ⟨#[]⟩, .string ⟨#[]⟩, .int .i64 0] 127 (0, 0),
  .cells #[.int .u8 1, .string tableS, .int .i64 31, .int .i64 68000000, .string ⟨#[]⟩, .string ⟨#[]⟩, .int .i64 0] 127 (0, 0),
  .cells #[.slice (some ⟨h + 1, 0, none⟩) 1 1, .slice (some ⟨h + 2, 0, none⟩) 1 1] 85 (0, 0),
  .cells #[.string ⟨#[99, 114, 121, 115, 116, 97, 108]⟩] 9 (0, 0),
  .cells #[.string ⟨#[99, 114, 121, 115, 116, 97, 108]⟩, .string tableS, .int .i64 1] 112 (0, 0),
  .cells #[.string ⟨#[99, 114, 121, 115, 116, 97, 108]⟩, .string tableS, .int .i64 1] 112 (0, 0),
  .cells #[.string tableS, .int .i64 24, .int .i64 300000, .int .i64 12500, .slice (some ⟨h + 6, 0, none⟩) 1 1, .slice none 0 0, .slice none 0 0] 82 (0, 0),
  .cells #[.int .u8 1, .string tableS, .int .i64 0, .int .i64 467232, .string ⟨#[]⟩, .string ⟨#[]⟩, .int .i64 0] 127 (0, 0),
  .cells #[.int .u8 1, .string tableS, .int .i64 23, .int .i64 412500, .string ⟨#[]⟩, .string ⟨#[]⟩, .int .i64 0] 127 (0, 0),
  .cells #[.slice (some ⟨h + 8, 0, none⟩) 1 1, .slice (some ⟨h + 9, 0, none⟩) 1 1] 85 (0, 0),
  .cells #[.string ⟨#[99, 114, 121, 115, 116, 97, 108]⟩, .string ⟨#[115, 117, 112, 112, 108, 121]⟩] 9 (0, 0),
  .cells #[.string ⟨#[99, 114, 121, 115, 116, 97, 108]⟩, .string tableS, .int .i64 1] 112 (0, 0),
  .cells #[.string ⟨#[115, 117, 112, 112, 108, 121]⟩, .string tableS, .int .i64 4] 112 (0, 0),
  .cells #[.string ⟨#[99, 114, 121, 115, 116, 97, 108]⟩, .string tableS, .int .i64 1, .string ⟨#[115, 117, 112, 112, 108, 121]⟩, .string tableS, .int .i64 4] 112 (0, 0),
  .cells #[.string tableS, .int .i64 20, .int .i64 268435456, .int .i64 65536, .slice (some ⟨h + 14, 0, none⟩) 2 2, .slice none 0 0, .slice none 0 0] 82 (0, 0),
  .cells #[.int .u8 1, .string tableS, .int .i64 0, .int .i64 4096, .string ⟨#[]⟩, .string ⟨#[]⟩, .int .i64 0] 127 (0, 0),
  .cells #[.string ⟨#[99, 114, 121, 115, 116, 97, 108]⟩, .string tableS, .int .i64 2] 112 (0, 0),
  .cells #[.string ⟨#[99, 114, 121, 115, 116, 97, 108]⟩, .string tableS, .int .i64 2] 112 (0, 0),
  .cells #[.int .u8 2, .string tableS, .int .i64 19, .int .i64 0, .string ⟨#[99, 114, 121, 115, 116, 97, 108]⟩, .string tableS, .int .i64 2] 127 (0, 0),
  .cells #[.slice (some ⟨h + 16, 0, none⟩) 1 1, .slice (some ⟨h + 19, 0, none⟩) 1 1] 85 (0, 0),
  .cells #[.string ⟨#[115, 117, 112, 112, 108, 121]⟩, .string ⟨#[98, 117, 115]⟩] 9 (0, 0),
  .cells #[.string ⟨#[115, 117, 112, 112, 108, 121]⟩, .string tableS, .int .i64 1] 112 (0, 0),
  .cells #[.string ⟨#[115, 117, 112, 112, 108, 121]⟩, .string tableS, .int .i64 1] 112 (0, 0),
  .cells #[.string tableS, .int .i64 16, .int .i64 (-200000), .int .i64 10000, .slice (some ⟨h + 23, 0, none⟩) 1 1, .slice none 0 0, .slice none 0 0] 82 (0, 0),
  .cells #[.int .u8 1, .string tableS, .int .i64 0, .int .i64 25000, .string ⟨#[]⟩, .string ⟨#[]⟩, .int .i64 0] 127 (0, 0),
  .cells #[.int .u8 1, .string tableS, .int .i64 15, .int .i64 500000, .string ⟨#[]⟩, .string ⟨#[]⟩, .int .i64 0] 127 (0, 0),
  .cells #[.slice (some ⟨h + 25, 0, none⟩) 1 1, .slice (some ⟨h + 26, 0, none⟩) 1 1] 85 (0, 0),
  .cells #[.string ⟨#[98, 117, 115]⟩, .string ⟨#[115, 101, 110, 115, 111, 114]⟩] 9 (0, 0),
  .cells #[.string ⟨#[98, 117, 115]⟩, .string tableS, .int .i64 1] 112 (0, 0),
  .cells #[.string ⟨#[115, 101, 110, 115, 111, 114]⟩, .string tableS, .int .i64 2] 112 (0, 0),
  .cells #[.string ⟨#[98, 117, 115]⟩, .string tableS, .int .i64 1, .string ⟨#[115, 101, 110, 115, 111, 114]⟩, .string tableS, .int .i64 2] 112 (0, 0),
  .cells #[.string tableS, .int .i64 20, .int .i64 160000000, .int .i64 25000, .slice (some ⟨h + 31, 0, none⟩) 2 2, .slice none 0 0, .slice none 0 0] 82 (0, 0),
  .cells #[.int .u8 1, .string tableS, .int .i64 0, .int .i64 (-2320), .string ⟨#[]⟩, .string ⟨#[]⟩, .int .i64 0] 127 (0, 0),
  .cells #[.int .u8 1, .string tableS, .int .i64 19, .int .i64 (-30640), .string ⟨#[]⟩, .string ⟨#[]⟩, .int .i64 0] 127 (0, 0),
  .cells #[.slice (some ⟨h + 33, 0, none⟩) 1 1, .slice (some ⟨h + 34, 0, none⟩) 1 1] 85 (0, 0),
  .cells #[.string ⟨#[99, 114, 121, 115, 116, 97, 108]⟩, .string ⟨#[115, 117, 112, 112, 108, 121]⟩, .string ⟨#[98, 117, 115]⟩, .string ⟨#[115, 101, 110, 115, 111, 114]⟩, .string ⟨#[114, 97, 100, 105, 111]⟩] 9 (0, 0),
  .cells #[.string ⟨#[99, 114, 121, 115, 116, 97, 108]⟩, .slice none 0 0, .slice (some ⟨h + 0, 0, none⟩) 1 1, .slice none 0 0, .slice (some ⟨h + 3, 0, none⟩) 2 2, .string ⟨#[115, 117, 112, 112, 108, 121]⟩, .slice (some ⟨h + 4, 0, none⟩) 1 1, .slice (some ⟨h + 7, 0, none⟩) 1 1, .slice none 0 0, .slice (some ⟨h + 10, 0, none⟩) 2 2, .string ⟨#[98, 117, 115]⟩, .slice (some ⟨h + 11, 0, none⟩) 2 2, .slice (some ⟨h + 15, 0, none⟩) 1 1, .slice none 0 0, .slice (some ⟨h + 20, 0, none⟩) 2 2, .string ⟨#[115, 101, 110, 115, 111, 114]⟩, .slice (some ⟨h + 21, 0, none⟩) 2 2, .slice (some ⟨h + 24, 0, none⟩) 1 1, .slice none 0 0, .slice (some ⟨h + 27, 0, none⟩) 2 2, .string ⟨#[114, 97, 100, 105, 111]⟩, .slice (some ⟨h + 28, 0, none⟩) 2 2, .slice (some ⟨h + 32, 0, none⟩) 1 1, .slice none 0 0, .slice (some ⟨h + 35, 0, none⟩) 2 2, .string ⟨#[114, 111, 108, 108]⟩, .slice (some ⟨h + 36, 0, none⟩) 5 5, .slice none 0 0, .slice none 0 0, .slice none 0 0] 49 (0, 0)]
set_option maxRecDepth 100000 in
set_option maxHeartbeats 16000000 in
theorem plan_any (w : World) : Calls Tryd.prog 16 #[] w (fun e w' => e = .returned (.slice (some ⟨w.heap.size + 37, 0, none⟩) 6 6) ∧ w' = allocs w (planO w.heap.size)) := by
  go_enter Tryd.func16, Tryd.ntmps16
  go_wp2_with fail
  refine (variable_any _ _ _ _ _ _ _).mono ?_
  rintro e w1 ⟨rfl, h1⟩
  subst h1
  go_wp2_with fail
  refine (add_any _ _ _).mono ?_
  rintro e w1 ⟨rfl, h1⟩
  subst h1
  go_wp2_with fail
  refine (add_any _ _ _).mono ?_
  rintro e w1 ⟨rfl, h1⟩
  subst h1
  go_wp2_with fail
  refine (read_any _ _ _).mono ?_
  rintro e w1 ⟨rfl, h1⟩
  subst h1
  go_wp2_with fail
  refine (variable_any _ _ _ _ _ _ _).mono ?_
  rintro e w1 ⟨rfl, h1⟩
  subst h1
  go_wp2_with fail
  refine (add_any _ _ _).mono ?_
  rintro e w1 ⟨rfl, h1⟩
  subst h1
  go_wp2_with fail
  refine (add_any _ _ _).mono ?_
  rintro e w1 ⟨rfl, h1⟩
  subst h1
  go_wp2_with fail
  refine (read_any _ _ _).mono ?_
  rintro e w1 ⟨rfl, h1⟩
  subst h1
  go_wp2_with fail
  refine (read_any _ _ _).mono ?_
  rintro e w1 ⟨rfl, h1⟩
  subst h1
  go_wp2_with fail
  refine (variable_any _ _ _ _ _ _ _).mono ?_
  rintro e w1 ⟨rfl, h1⟩
  subst h1
  go_wp2_with fail
  refine (add_any _ _ _).mono ?_
  rintro e w1 ⟨rfl, h1⟩
  subst h1
  go_wp2_with fail
  refine (read_any _ _ _).mono ?_
  rintro e w1 ⟨rfl, h1⟩
  subst h1
  go_wp2_with fail
  refine (gain_any _ _ _ _ _).mono ?_
  rintro e w1 ⟨rfl, h1⟩
  subst h1
  go_wp2_with fail
  refine (read_any _ _ _).mono ?_
  rintro e w1 ⟨rfl, h1⟩
  subst h1
  go_wp2_with fail
  refine (variable_any _ _ _ _ _ _ _).mono ?_
  rintro e w1 ⟨rfl, h1⟩
  subst h1
  go_wp2_with fail
  refine (add_any _ _ _).mono ?_
  rintro e w1 ⟨rfl, h1⟩
  subst h1
  go_wp2_with fail
  refine (add_any _ _ _).mono ?_
  rintro e w1 ⟨rfl, h1⟩
  subst h1
  go_wp2_with fail
  refine (read_any _ _ _).mono ?_
  rintro e w1 ⟨rfl, h1⟩
  subst h1
  go_wp2_with fail
  refine (read_any _ _ _).mono ?_
  rintro e w1 ⟨rfl, h1⟩
  subst h1
  go_wp2_with fail
  refine (variable_any _ _ _ _ _ _ _).mono ?_
  rintro e w1 ⟨rfl, h1⟩
  subst h1
  go_wp2_with fail
  refine (add_any _ _ _).mono ?_
  rintro e w1 ⟨rfl, h1⟩
  subst h1
  go_wp2_with fail
  refine (add_any _ _ _).mono ?_
  rintro e w1 ⟨rfl, h1⟩
  subst h1
  go_wp2_with fail
  go_ret
  exact ⟨rfl, rfl⟩
end Go.Proofs.YtnnaoneegeenkaaDoor.Rp
