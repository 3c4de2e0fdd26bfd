/- Readers of bytes: the program's in memory, the document's in memory; New, Left. -/
import Derived.Test.YtfafhkhamaccfaaClA
import Derived.Below
import Derived.Laws.OwnMore
import Derived.Laws.IdiomStrings
import Derived.Laws.Cover3
import Derived.Deep.Draws
import Derived.Deep.DeepFit
import Derived.Deep.Light
namespace Go.Proofs.Ytfafhkhamaccfaa.Cl
open Go.ChangeShapes Go.WideShapes Go.ChangeAt Go.RowKit

/-- The reader in block r, whose bytes lie in block g, has these bytes left. -/
def Rd (w : World) (r g : Nat) (l : List UInt8) : Prop :=
  ∃ off c, w.heap[r]? = some (.cells #[.slice (some ⟨g, off, none⟩) l.length c] 94 (0, 0)) ∧ l.length ≤ c ∧ g ≠ r ∧ g < w.heap.size ∧
    ∀ i, i < l.length → w.cell? ⟨g, off + i, none⟩ = some (.int .u8 ((l.getD i 0).toNat : Int))
theorem lt_heap {w : World} {r : Nat} {o : Obj} (h : w.heap[r]? = some o) : r < w.heap.size := (Array.getElem?_eq_some_iff.1 h).1
theorem cell_heap {w : World} {r : Nat} {cs : Array Value} {t : TypeId} {fr : Nat × Nat} (h : w.heap[r]? = some (.cells cs t fr)) (i : Nat) : w.cell? ⟨r, i, none⟩ = cs[i]? := cell_of_row w r i cs t fr h
theorem free_heap {w : World} {r : Nat} {cs : Array Value} {t : TypeId} (h : w.heap[r]? = some (.cells cs t (0, 0))) (i : Nat) : w.frozen? ⟨r, i, none⟩ = false := by simp [World.frozen?, h]
theorem Rd.lt {w : World} {r g : Nat} {l : List UInt8} (h : Rd w r g l) : r < w.heap.size := by
  obtain ⟨_, _, h, _⟩ := h; exact lt_heap h
theorem Rd.glt {w : World} {r g : Nat} {l : List UInt8} (h : Rd w r g l) : g < w.heap.size := by
  obtain ⟨_, _, _, _, _, h, _⟩ := h; exact h
theorem Rd.kept {w w' : World} {r g : Nat} {l : List UInt8} {row : Option Nat} (h : Rd w r g l) (hg : w.grownBy w' row) (h1 : some r ≠ row) (h2 : some g ≠ row) : Rd w' r g l := by
  obtain ⟨off, c, hb, hc, hne, hlt, hcell⟩ := h
  refine ⟨off, c, (hg.block r (lt_heap hb) h1).trans hb, hc, hne, Nat.lt_of_lt_of_le hlt hg.size, fun i hi => hg.cell (hcell i hi) h2⟩
theorem grown_of_below {a w : World} (h : Below a.heap.size a w) (row : Option Nat) : a.grownBy w row := ⟨h.os, h.tape, h.output, h.size, fun i hi _ => h.block i hi⟩
theorem below_of_grown {a w : World} {row : Option Nat} {B : Nat} (h : a.grownBy w row) (hB : B ≤ a.heap.size) (hr : ∀ k, row = some k → B ≤ k) : Below B a w :=
  ⟨h.os, h.tape, h.output, h.size, fun i hi => h.block i (by omega) (fun e => by have := hr i e.symm; omega)⟩

/-- Behind a step of the reader: m bytes more are read. -/
theorem rd_step {wr w1 : World} {r g o2 c2 m : Nat} {l : List UInt8} {n : Nat} (hb : wr.heap[r]? = some (.cells #[.slice (some ⟨g, o2, none⟩) n c2] 94 (0, 0))) (hne : g ≠ r) (hglt : g < wr.heap.size)
    (hcell : ∀ i, i < l.length → wr.cell? ⟨g, o2 + i, none⟩ = some (.int .u8 ((l.getD i 0).toNat : Int))) (hb1 : Below wr.heap.size wr w1) (o' n' c' : Nat) (ho : o' = o2 + m ∨ l.length ≤ m) (hn : n' = l.length - m) (hc' : n' ≤ c') :
    Rd (w1.setCell ⟨r, 0, none⟩ (.slice (some ⟨g, o', none⟩) n' c')) r g (l.drop m) ∧ wr.grownBy (w1.setCell ⟨r, 0, none⟩ (.slice (some ⟨g, o', none⟩) n' c')) (some r) := by
  have hr := lt_heap hb
  have hr1 : w1.heap[r]? = some (.cells #[.slice (some ⟨g, o2, none⟩) n c2] 94 (0, 0)) := (hb1.block r hr).trans hb
  have hld : (l.drop m).length = l.length - m := List.length_drop
  constructor
  · refine ⟨o', c', ?_, by omega, hne, by simp [World.setCell]; exact Nat.lt_of_lt_of_le hglt hb1.size, fun i hi => ?_⟩
    · rw [hld, ← hn]
      simp [World.setCell, Array.getElem?_modify, hr1]
    · rw [World.cell?_setCell_other _ _ _ _ (by intro e; injection e with e; exact hne e.symm), hb1.cell (p := ⟨g, o' + i, none⟩) hglt, List.getD_eq_getElem?_getD, List.getElem?_drop, ← List.getD_eq_getElem?_getD]
      rcases ho with rfl | ho
      · rw [Nat.add_assoc]
        exact hcell (m + i) (by omega)
      · omega
  · exact ⟨hb1.os, hb1.tape, hb1.output, by simp [World.setCell]; exact hb1.size, fun i hi hn => (Below.heap_setCell w1 _ _ i (by
      rintro rfl
      exact hn rfl)).trans (hb1.block i hi)⟩

theorem new_any (s : ByteArray) (w : World) :
    Calls Try.prog 69 #[.string s] w fun e w' => e = .returned (.pointer (some ⟨w.heap.size + 1, 0, none⟩)) ∧ Rd w' (w.heap.size + 1) w.heap.size s.data.toList ∧ Below w.heap.size w w' ∧ w'.heap.size = w.heap.size + 2 := by
  have hconv := fun W : World => run_bytes_of_string (P := Try.prog) W 9 92 5 s Try.underlying9 Try.underlying92 Try.underlying5
  go_enter Try.func69, Try.ntmps69
  go_wp2
  go_ret
  refine ⟨rfl, ⟨0, grownCap w s.size 0 5, ?_, grownCap_ge w s.size 0 5, by omega, by simp; omega, ?_⟩, by go_grown, by simp⟩
  · have h := heap_alloc_new (w.alloc (Obj.cells (bytesRow s (grownCap w s.size 0 5)) 5 ((bytesRow s (grownCap w s.size 0 5)).size, (bytesRow s (grownCap w s.size 0 5)).size + 1))) (Obj.cells #[Value.slice (some ⟨w.heap.size, 0, none⟩) s.size (grownCap w s.size 0 5)] 94)
    rw [World.size_alloc] at h
    exact h
  · intro i hi
    have hi' : i < s.data.size := by simpa using hi
    have h := heap_alloc_new w (Obj.cells (bytesRow s (grownCap w s.size 0 5)) 5 ((bytesRow s (grownCap w s.size 0 5)).size, (bytesRow s (grownCap w s.size 0 5)).size + 1))
    have h2 := cell_heap ((Below.heap_alloc _ (Obj.cells #[Value.slice (some ⟨w.heap.size, 0, none⟩) s.size (grownCap w s.size 0 5)] 94) w.heap.size (by simp)).trans h) i
    rw [bytesRow_at s _ i hi'] at h2
    rw [Nat.zero_add, List.getD_eq_getElem?_getD, List.getElem?_eq_getElem hi]
    exact h2

theorem new_ex (s : ByteArray) (w : World) :
    Calls Try.prog 69 #[.string s] w fun e w' => ∃ r g, e = .returned (.pointer (some ⟨r, 0, none⟩)) ∧ w.heap.size ≤ r ∧ w.heap.size ≤ g ∧ Rd w' r g s.data.toList ∧ Below w.heap.size w w' :=
  (new_any s w).mono fun _ _ ⟨he, h1, h2, _⟩ => ⟨_, _, he, by omega, by omega, h1, h2⟩

theorem left_any (r g : Nat) (l : List UInt8) (w : World) (h : Rd w r g l) :
    Calls Try.prog 70 #[.pointer (some ⟨r, 0, none⟩)] w fun e w' => e = .returned (.int .i64 l.length) ∧ w = w' := by
  obtain ⟨off, c, hb, hc, _⟩ := h
  have c0 : w.cell? ⟨r, 0, none⟩ = some (.slice (some ⟨g, off, none⟩) l.length c) := by rw [cell_heap hb]; rfl
  clear hb
  go_enter Try.func70, Try.ntmps70
  go_wp2
  go_ret
  exact ⟨rfl, rfl⟩
end Go.Proofs.Ytfafhkhamaccfaa.Cl
