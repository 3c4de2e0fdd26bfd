/- What a package imports, as the document has it. -/
import Derived.Test.YtnnaoneegeenkaaDoorRpB
import Derived.Test.YtnnaoneegeenkaaDoorRvX
namespace Go.Proofs.YtnnaoneegeenkaaDoor.Rp
open Go.ChangeShapes Go.WideShapes Go.ChangeAt Go.RowKit Own Ro Kc
open Kq (Tx lit_cells)

def pathK (k : Nat) : Tx := ([[99, 114, 121, 115, 116, 97, 108], [115, 117, 112, 112, 108, 121], [98, 117, 115], [115, 101, 110, 115, 111, 114], [114, 97, 100, 105, 111], [114, 111, 108, 108]] : List Tx).getD k []
def impK (k : Nat) : List Tx := ([[], [[99, 114, 121, 115, 116, 97, 108]], [[99, 114, 121, 115, 116, 97, 108], [115, 117, 112, 112, 108, 121]], [[115, 117, 112, 112, 108, 121], [98, 117, 115]], [[98, 117, 115], [115, 101, 110, 115, 111, 114]], [[99, 114, 121, 115, 116, 97, 108], [115, 117, 112, 112, 108, 121], [98, 117, 115], [115, 101, 110, 115, 111, 114], [114, 97, 100, 105, 111]]] : List (List Tx)).getD k []
def ImpPost (k : Nat) (w : World) (e : Ending) (w' : World) : Prop := ∃ A c, e = .returned (.slice A (impK k).length c) ∧ CellsIn w' 1 A (impK k).length (Kc.strs (impK k)) ∧ Below w.heap.size w w'
set_option maxRecDepth 100000 in
set_option maxHeartbeats 4000000 in
theorem imports_0 (w : World) : Calls Tryd.prog 28 #[.string ⟨#[99, 114, 121, 115, 116, 97, 108]⟩] w (ImpPost 0 w) := by
  have q0 : ((⟨#[99, 114, 121, 115, 116, 97, 108]⟩ : ByteArray).toList == (⟨#[115, 117, 112, 112, 108, 121]⟩ : ByteArray).toList) = false := (eq_lists [99, 114, 121, 115, 116, 97, 108] [115, 117, 112, 112, 108, 121]).trans (by decide)
  have q1 : ((⟨#[99, 114, 121, 115, 116, 97, 108]⟩ : ByteArray).toList == (⟨#[98, 117, 115]⟩ : ByteArray).toList) = false := (eq_lists [99, 114, 121, 115, 116, 97, 108] [98, 117, 115]).trans (by decide)
  have q2 : ((⟨#[99, 114, 121, 115, 116, 97, 108]⟩ : ByteArray).toList == (⟨#[115, 101, 110, 115, 111, 114]⟩ : ByteArray).toList) = false := (eq_lists [99, 114, 121, 115, 116, 97, 108] [115, 101, 110, 115, 111, 114]).trans (by decide)
  have q3 : ((⟨#[99, 114, 121, 115, 116, 97, 108]⟩ : ByteArray).toList == (⟨#[114, 97, 100, 105, 111]⟩ : ByteArray).toList) = false := (eq_lists [99, 114, 121, 115, 116, 97, 108] [114, 97, 100, 105, 111]).trans (by decide)
  have q4 : ((⟨#[99, 114, 121, 115, 116, 97, 108]⟩ : ByteArray).toList == (⟨#[114, 111, 108, 108]⟩ : ByteArray).toList) = false := (eq_lists [99, 114, 121, 115, 116, 97, 108] [114, 111, 108, 108]).trans (by decide)
  go_enter Tryd.func28, Tryd.ntmps28
  go_wp2_with fail
  go_ret
  exact ⟨none, 0, rfl, ⟨rfl, .inl rfl⟩, Below.refl _ _⟩
set_option maxRecDepth 100000 in
set_option maxHeartbeats 4000000 in
theorem imports_1 (w : World) : Calls Tryd.prog 28 #[.string ⟨#[115, 117, 112, 112, 108, 121]⟩] w (ImpPost 1 w) := by
  have q0 : ((⟨#[115, 117, 112, 112, 108, 121]⟩ : ByteArray).toList == (⟨#[115, 117, 112, 112, 108, 121]⟩ : ByteArray).toList) = true := (eq_lists [115, 117, 112, 112, 108, 121] [115, 117, 112, 112, 108, 121]).trans (by decide)
  go_enter Tryd.func28, Tryd.ntmps28
  go_wp2_with fail
  go_ret
  exact ⟨some ⟨w.heap.size, 0, none⟩, 1, rfl, lit_cells w #[.string ⟨#[99, 114, 121, 115, 116, 97, 108]⟩] 9 1 1 rfl, grows' w _⟩
set_option maxRecDepth 100000 in
set_option maxHeartbeats 4000000 in
theorem imports_2 (w : World) : Calls Tryd.prog 28 #[.string ⟨#[98, 117, 115]⟩] w (ImpPost 2 w) := by
  have q0 : ((⟨#[98, 117, 115]⟩ : ByteArray).toList == (⟨#[115, 117, 112, 112, 108, 121]⟩ : ByteArray).toList) = false := (eq_lists [98, 117, 115] [115, 117, 112, 112, 108, 121]).trans (by decide)
  have q1 : ((⟨#[98, 117, 115]⟩ : ByteArray).toList == (⟨#[98, 117, 115]⟩ : ByteArray).toList) = true := (eq_lists [98, 117, 115] [98, 117, 115]).trans (by decide)
  go_enter Tryd.func28, Tryd.ntmps28
  go_wp2_with fail
  go_ret
  exact ⟨some ⟨w.heap.size, 0, none⟩, 2, rfl, lit_cells w #[.string ⟨#[99, 114, 121, 115, 116, 97, 108]⟩, .string ⟨#[115, 117, 112, 112, 108, 121]⟩] 9 1 2 rfl, grows' w _⟩
set_option maxRecDepth 100000 in
set_option maxHeartbeats 4000000 in
theorem imports_3 (w : World) : Calls Tryd.prog 28 #[.string ⟨#[115, 101, 110, 115, 111, 114]⟩] w (ImpPost 3 w) := by
  have q0 : ((⟨#[115, 101, 110, 115, 111, 114]⟩ : ByteArray).toList == (⟨#[115, 117, 112, 112, 108, 121]⟩ : ByteArray).toList) = false := (eq_lists [115, 101, 110, 115, 111, 114] [115, 117, 112, 112, 108, 121]).trans (by decide)
  have q1 : ((⟨#[115, 101, 110, 115, 111, 114]⟩ : ByteArray).toList == (⟨#[98, 117, 115]⟩ : ByteArray).toList) = false := (eq_lists [115, 101, 110, 115, 111, 114] [98, 117, 115]).trans (by decide)
  have q2 : ((⟨#[115, 101, 110, 115, 111, 114]⟩ : ByteArray).toList == (⟨#[115, 101, 110, 115, 111, 114]⟩ : ByteArray).toList) = true := (eq_lists [115, 101, 110, 115, 111, 114] [115, 101, 110, 115, 111, 114]).trans (by decide)
  go_enter Tryd.func28, Tryd.ntmps28
  go_wp2_with fail
  go_ret
  exact ⟨some ⟨w.heap.size, 0, none⟩, 2, rfl, lit_cells w #[.string ⟨#[115, 117, 112, 112, 108, 121]⟩, .string ⟨#[98, 117, 115]⟩] 9 1 2 rfl, grows' w _⟩
set_option maxRecDepth 100000 in
set_option maxHeartbeats 4000000 in
theorem imports_4 (w : World) : Calls Tryd.prog 28 #[.string ⟨#[114, 97, 100, 105, 111]⟩] w (ImpPost 4 w) := by
  have q0 : ((⟨#[114, 97, 100, 105, 111]⟩ : ByteArray).toList == (⟨#[115, 117, 112, 112, 108, 121]⟩ : ByteArray).toList) = false := (eq_lists [114, 97, 100, 105, 111] [115, 117, 112, 112, 108, 121]).trans (by decide)
  have q1 : ((⟨#[114, 97, 100, 105, 111]⟩ : ByteArray).toList == (⟨#[98, 117, 115]⟩ : ByteArray).toList) = false := (eq_lists [114, 97, 100, 105, 111] [98, 117, 115]).trans (by decide)
  have q2 : ((⟨#[114, 97, 100, 105, 111]⟩ : ByteArray).toList == (⟨#[115, 101, 110, 115, 111, 114]⟩ : ByteArray).toList) = false := (eq_lists [114, 97, 100, 105, 111] [115, 101, 110, 115, 111, 114]).trans (by decide)
  have q3 : ((⟨#[114, 97, 100, 105, 111]⟩ : ByteArray).toList == (⟨#[114, 97, 100, 105, 111]⟩ : ByteArray).toList) = true := (eq_lists [114, 97, 100, 105, 111] [114, 97, 100, 105, 111]).trans (by decide)
  go_enter Tryd.func28, Tryd.ntmps28
  go_wp2_with fail
  go_ret
  exact ⟨some ⟨w.heap.size, 0, none⟩, 2, rfl, lit_cells w #[.string ⟨#[98, 117, 115]⟩, .string ⟨#[115, 101, 110, 115, 111, 114]⟩] 9 1 2 rfl, grows' w _⟩
set_option maxRecDepth 100000 in
set_option maxHeartbeats 4000000 in
theorem imports_5 (w : World) : Calls Tryd.prog 28 #[.string ⟨#[114, 111, 108, 108]⟩] w (ImpPost 5 w) := by
  have q0 : ((⟨#[114, 111, 108, 108]⟩ : ByteArray).toList == (⟨#[115, 117, 112, 112, 108, 121]⟩ : ByteArray).toList) = false := (eq_lists [114, 111, 108, 108] [115, 117, 112, 112, 108, 121]).trans (by decide)
  have q1 : ((⟨#[114, 111, 108, 108]⟩ : ByteArray).toList == (⟨#[98, 117, 115]⟩ : ByteArray).toList) = false := (eq_lists [114, 111, 108, 108] [98, 117, 115]).trans (by decide)
  have q2 : ((⟨#[114, 111, 108, 108]⟩ : ByteArray).toList == (⟨#[115, 101, 110, 115, 111, 114]⟩ : ByteArray).toList) = false := (eq_lists [114, 111, 108, 108] [115, 101, 110, 115, 111, 114]).trans (by decide)
  have q3 : ((⟨#[114, 111, 108, 108]⟩ : ByteArray).toList == (⟨#[114, 97, 100, 105, 111]⟩ : ByteArray).toList) = false := (eq_lists [114, 111, 108, 108] [114, 97, 100, 105, 111]).trans (by decide)
  have q4 : ((⟨#[114, 111, 108, 108]⟩ : ByteArray).toList == (⟨#[114, 111, 108, 108]⟩ : ByteArray).toList) = true := (eq_lists [114, 111, 108, 108] [114, 111, 108, 108]).trans (by decide)
  go_enter Tryd.func28, Tryd.ntmps28
  go_wp2_with fail
  go_ret
  exact ⟨some ⟨w.heap.size, 0, none⟩, 5, rfl, lit_cells w #[.string ⟨#[99, 114, 121, 115, 116, 97, 108]⟩, .string ⟨#[115, 117, 112, 112, 108, 121]⟩, .string ⟨#[98, 117, 115]⟩, .string ⟨#[115, 101, 110, 115, 111, 114]⟩, .string ⟨#[114, 97, 100, 105, 111]⟩] 9 1 5 rfl, grows' w _⟩
end Go.Proofs.YtnnaoneegeenkaaDoor.Rp
