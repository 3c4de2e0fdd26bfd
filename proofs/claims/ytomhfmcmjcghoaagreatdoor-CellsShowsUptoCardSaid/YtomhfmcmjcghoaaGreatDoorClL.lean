/- The walk of the law on reading. -/
import Derived.Test.YtomhfmcmjcghoaaGreatDoorClK
namespace Go.Proofs.YtomhfmcmjcghoaaGreatDoor.Cl
open Go.ChangeShapes Go.WideShapes Go.ChangeAt Go.RowKit Own

theorem trio_drewN {S : Nat → Prop} {W wr : World} {vb vd vl : Value} {nb nd nl : Nat} (h : Trio S W vb vd vl nb nd nl wr) (n : Nat) : Trio S W vb vd vl nb nd nl (wr.drewN n) := by
  obtain ⟨h1, h2, h3, h4, h5⟩ := h
  exact ⟨h1.drewN n, h2, h3, h4, h5⟩
theorem thirties_n (A B : Option Addr) (c d n : Nat) (xs : List Nat) (w : World) (hn : n = xs.length) (hx : n ≤ 140737488355328) (hA : Src w A n c (nats .u32 xs)) (hB : Src w B n d (nats .u32 xs)) :
    Calls Tryz.prog 15 #[.slice A n c, .slice B n d] w fun e w' => e = .returned (.bool true) ∧ Drawn w w' := by
  subst hn
  exact thirties_any A B c d xs w hx hA hB
theorem sixties_n (A B : Option Addr) (c d n : Nat) (xs : List Nat) (w : World) (hn : n = xs.length) (hx : n ≤ 140737488355328) (hA : Src w A n c (nats .u64 xs)) (hB : Src w B n d (nats .u64 xs)) :
    Calls Tryz.prog 16 #[.slice A n c, .slice B n d] w fun e w' => e = .returned (.bool true) ∧ Drawn w w' := by
  subst hn
  exact sixties_any A B c d xs w hx hA hB
theorem textsSame_n (A B : Option Addr) (c d n : Nat) (xs : List ByteArray) (w : World) (hn : n = xs.length) (hx : n ≤ 140737488355328) (hA : Src w A n c (strs xs)) (hB : Src w B n d (strs xs)) :
    Calls Tryz.prog 19 #[.slice A n c, .slice B n d] w fun e w' => e = .returned (.bool true) ∧ Drawn w w' := by
  subst hn
  exact textsSame_any A B c d xs w hx hA hB
theorem c32_len (l : List UInt8) : (c32 l).length ≤ l.length := by
  unfold c32; split
  · rw [chunk_len]; omega
  · simp
theorem c64_len (l : List UInt8) : (c64 l).length ≤ l.length := by
  unfold c64; split
  · rw [chunk_len]; omega
  · simp
theorem tx_len (l : List UInt8) : (tx l).length ≤ l.length := by
  unfold tx; split
  · rw [List.length_map]; exact split_len l []
  · simp
/-- The blocks beside the three that are spoilt. -/
def Rest (z1 z2 z4 z5 z7 z8 z9 g : Nat) : Prop := g < z9 ∧ (g < z1 ∨ z2 ≤ g) ∧ (g < z4 ∨ z5 ≤ g) ∧ (g < z7 ∨ z8 ≤ g)
theorem rest_lt {z1 z2 z4 z5 z7 z8 z9 : Nat} : ∀ g, Rest z1 z2 z4 z5 z7 z8 z9 g → g < z9 := fun _ h => h.1
theorem off_of {S : Nat → Prop} {w : World} {base : Nat} {E : TypeId} {v : Value} {n : Nat} {xs : List Value} (h : w.ownsRow base E 1 v n xs) (hS : ∀ g, base ≤ g → g < w.heap.size → ¬ S g) : Off S v := fun g hg => hS g (own_int h g hg).1 (own_int h g hg).2

end Go.Proofs.YtomhfmcmjcghoaaGreatDoor.Cl
