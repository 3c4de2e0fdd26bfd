/- Is there such a tree and such a place? The document's May, wrong; the program's checkPlace. -/
import Derived.Test.YtfafhkhamaccfaaTrT
namespace Go.Proofs.Ytfafhkhamaccfaa.Tr
open Go.ChangeShapes Go.WideShapes Go.ChangeAt Go.RowKit Own wordsNames

theorem chk_err {L : List Nd} {i : Nat} {er : Int} (h : Chk L i er) : er = 0 ∨ er = 40 := by
  rcases h with ⟨_, _, _, h⟩ | ⟨_, _, h⟩ | ⟨_, _, _, h⟩
  · exact .inr h
  · exact .inr h
  · exact .inl h
/-- What is wrong with nodes and a place. -/
def Pl (L : List Nd) (i : Int) (er : Int) : Prop :=
  ∃ i0 e0, Chk L i0 e0 ∧ ((e0 = 40 ∧ er = 40) ∨ (e0 = 0 ∧ (i < 0 ∨ (L.length : Int) ≤ i) ∧ er = 1) ∨ (e0 = 0 ∧ 0 ≤ i ∧ i < (L.length : Int) ∧ er = 0))
theorem pl_ex (L : List Nd) (i : Int) : ∃ er, Pl L i er := by
  obtain ⟨i0, e0, h⟩ := chk_ex L
  rcases chk_err h with rfl | rfl
  · by_cases h1 : i < 0 ∨ (L.length : Int) ≤ i
    · exact ⟨1, i0, 0, h, .inr (.inl ⟨rfl, h1, rfl⟩)⟩
    · exact ⟨0, i0, 0, h, .inr (.inr ⟨rfl, by omega, by omega, rfl⟩)⟩
  · exact ⟨40, i0, 40, h, .inl ⟨rfl, rfl⟩⟩
theorem may_any (A : Option Addr) (c n : Nat) (L : List Nd) (R : List Sl) (i0 : Nat) (e0 : Int) (g : Bool) (w : World) (hg : g = true ↔ e0 = 0) (hch : Chk L i0 e0) (hm : Mild L) (hA : NodesIn w A n L R) :
    Calls Try.prog 38 #[.slice A n c] w fun e w' => e = .returned (.bool g) ∧ Below w.heap.size w w' := by
  have HC := Lib.hid (refCheck_any A c n L R i0 e0 w hch hm hA)
  have HT : Hid ((e0 == 0) = g) := Lib.hid (by rw [Bool.eq_iff_iff, hg, beq_iff_eq])
  clear hg hch hm hA
  go_enter Try.func38, Try.ntmps38
  go_wp2_with fail
  refine HC.out.mono ?_
  rintro e w2 ⟨rfl, hb⟩
  go_wp2_with fail
  go_ret
  rw [HT.out]
  exact ⟨rfl, hb⟩
theorem wrong_any (A : Option Addr) (c n : Nat) (L : List Nd) (R : List Sl) (i er : Int) (w : World) (hp : Pl L i er) (hm : Mild L) (hA : NodesIn w A n L R) :
    Calls Try.prog 18 #[.slice A n c, .int .i64 i] w fun e w' => e = .returned (.int .i64 er) ∧ Below w.heap.size w w' := by
  obtain ⟨i0, e0, hch, hp⟩ := hp
  have hn := hA.1
  obtain ⟨g, hg⟩ := bool_ex (e0 = 0)
  have HM := Lib.hid (may_any A c n L R i0 e0 g w hg hch hm hA)
  rw [← hn] at hp
  clear hch hm hA
  rcases hp with ⟨rfl, rfl⟩ | ⟨rfl, h1, rfl⟩ | ⟨rfl, h1, h2, rfl⟩
  · obtain rfl : g = false := Bool.eq_false_iff.2 fun e => by have := hg.1 e; omega
    clear hg hn
    go_enter Try.func18, Try.ntmps18
    go_wp2_with fail
    refine HM.out.mono ?_
    rintro e w2 ⟨rfl, hb⟩
    go_wp2_with fail
    go_ret
    exact ⟨rfl, hb⟩
  · obtain rfl : g = true := hg.2 rfl
    clear hg hn
    go_enter Try.func18, Try.ntmps18
    go_wp2_with fail
    refine HM.out.mono ?_
    rintro e w2 ⟨rfl, hb⟩
    by_cases h0 : i < 0
    · have t1 : decide (i < 0) = true := decide_eq_true h0
      go_wp2_with fail
      go_ret
      exact ⟨rfl, hb⟩
    · have t1 : decide (i < 0) = false := decide_eq_false h0
      have t2 : decide ((n : Int) ≤ i) = true := decide_eq_true (by omega)
      go_wp2_with fail
      go_ret
      exact ⟨rfl, hb⟩
  · obtain rfl : g = true := hg.2 rfl
    clear hg hn
    have t1 : decide (i < 0) = false := decide_eq_false (by omega)
    have t2 : decide ((n : Int) ≤ i) = false := decide_eq_false (by omega)
    go_enter Try.func18, Try.ntmps18
    go_wp2_with fail
    refine HM.out.mono ?_
    rintro e w2 ⟨rfl, hb⟩
    go_wp2_with fail
    go_ret
    exact ⟨rfl, hb⟩
theorem place_any (A : Option Addr) (c n : Nat) (L : List Nd) (R : List Sl) (i er : Int) (w : World) (hp : Pl L i er) (hm : Mild L) (hw : Wf L) (hcp : Caps R) (hA : NodesIn w A n L R) :
    Calls Try.prog 16 #[.slice A n c, .int .i64 i] w fun e w' => e = .returned (.int .i64 er) ∧ Below w.heap.size w w' := by
  obtain ⟨i0, e0, hch, hp⟩ := hp
  have hn := hA.1
  have HC := Lib.hid (treeCheck_any A c n L R i0 e0 w hch hm hw hcp hA)
  rw [← hn] at hp
  clear hch hm hA hw hcp
  rcases hp with ⟨rfl, rfl⟩ | ⟨rfl, h1, rfl⟩ | ⟨rfl, h1, h2, rfl⟩
  · clear hn
    go_enter Try.func16, Try.ntmps16
    go_wp2_with fail
    refine HC.out.mono ?_
    rintro e w2 ⟨rfl, hb⟩
    go_wp2_with fail
    go_ret
    exact ⟨rfl, hb⟩
  · clear hn
    go_enter Try.func16, Try.ntmps16
    go_wp2_with fail
    refine HC.out.mono ?_
    rintro e w2 ⟨rfl, hb⟩
    by_cases h0 : i < 0
    · have t1 : decide (i < 0) = true := decide_eq_true h0
      go_wp2_with fail
      go_ret
      exact ⟨rfl, hb⟩
    · have t1 : decide (i < 0) = false := decide_eq_false h0
      have t2 : decide ((n : Int) ≤ i) = true := decide_eq_true (by omega)
      go_wp2_with fail
      go_ret
      exact ⟨rfl, hb⟩
  · clear hn
    have t1 : decide (i < 0) = false := decide_eq_false (by omega)
    have t2 : decide ((n : Int) ≤ i) = false := decide_eq_false (by omega)
    go_enter Try.func16, Try.ntmps16
    go_wp2_with fail
    refine HC.out.mono ?_
    rintro e w2 ⟨rfl, hb⟩
    go_wp2_with fail
    go_ret
    exact ⟨rfl, hb⟩
end Go.Proofs.Ytfafhkhamaccfaa.Tr
