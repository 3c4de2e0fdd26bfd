/- slices.Sort over small numbers: the order, and the insertion sort: each does what the plain function of the same name does. -/
import Derived.Test.YtjpimamjcckieaaDoorChecked
import Derived.Shelf.SlSortCmp.Kit1
import Derived.Sort.AssemblyPlain
import Derived.WalkKit
import Derived.ProofKit
import Derived.Below
import Derived.WalkLawsBesides
import Derived.WalkSpells
import Derived.Outline
import Derived.Lib.Hide
import Derived.Deep.QuietTactic
import Derived.Deep.LoopGhost
import Derived.RegionTactic
import Derived.BigQuiet
import Derived.BigRegion
namespace Go.Proofs.YtjpimamjcckieaaDoor.Pq
open Go.ChangeShapes Go.WideShapes Go.ChangeAt Go.RowKit Go.Sort Go.Shelf

/-- An element as it stands. -/
def enc (x : Int) : Value := .int .i8 x
theorem enc_one : OneCell enc := fun _ => rfl
set_option maxRecDepth 100000 in
set_option maxHeartbeats 8000000 in
theorem isNaN_any (x : Int) (w : World) : Calls Tryd.prog 28 #[.int .i8 x] w fun e w' => e = .returned (.bool false) ∧ w' = w := by
  go_enter Tryd.func28, Tryd.ntmps28
  go_wp2
  go_ret
  exact ⟨by simp, rfl⟩
set_option maxRecDepth 100000 in
set_option maxHeartbeats 8000000 in
theorem less_any (x y : Int) (w : World) : Calls Tryd.prog 18 #[.int .i8 x, .int .i8 y] w fun e w' => e = .returned (.bool (ltInt x y)) ∧ w' = w := by
  unfold ltInt
  go_enter Tryd.func18, Tryd.ntmps18
  go_wp2_with (go_at_call 28; refine (isNaN_any _ _).mono ?_; rintro e w' ⟨rfl, rfl⟩)
  go_ret
  exact ⟨rfl, rfl⟩
section
theorem insInner_stop {lt : Int → Int → Bool} {a j : Nat} {d : Array Int} (h : ¬ (a < j) ∨ lt d[j]! d[j - 1]! = false) : insInner lt a j d = d := by
  cases j with
  | zero => rfl
  | succ j =>
    unfold insInner
    rw [if_neg]
    intro h'
    simp only [Bool.and_eq_true, decide_eq_true_eq] at h'
    rcases h with h | h
    · exact h h'.1
    · rw [Nat.add_sub_cancel] at h
      rw [h] at h'
      exact absurd h'.2 (by decide)
theorem insInner_go {lt : Int → Int → Bool} {a j : Nat} {d : Array Int} (h1 : a < j) (h2 : lt d[j]! d[j - 1]! = true) : insInner lt a j d = insInner lt a (j - 1) (swp d j (j - 1)) := by
  cases j with
  | zero => omega
  | succ j =>
    rw [Nat.add_sub_cancel] at h2 ⊢
    conv => lhs; unfold insInner
    rw [if_pos]
    simp only [Bool.and_eq_true, decide_eq_true_eq]
    exact ⟨h1, h2⟩
theorem insOuter_go {lt : Int → Int → Bool} {a b i : Nat} {d : Array Int} (h : i < b) : insOuter lt a b i d = insOuter lt a b (i + 1) (insInner lt a i d) := by
  conv => lhs; unfold insOuter
  rw [if_pos h]
theorem insOuter_stop {lt : Int → Int → Bool} {a b i : Nat} {d : Array Int} (h : ¬ i < b) : insOuter lt a b i d = d := by
  unfold insOuter
  rw [if_neg h]
end
set_option maxRecDepth 100000 in
set_option maxHeartbeats 16000000 in
theorem insertion_any (blk off cap a b : Nat) (d0 d : Array Int) (w0 w : World) (R : Row1 enc w0 blk off d0) (hs : d.size = d0.size) (S : SW enc w0 blk off d w) (hb : b ≤ d.size) (hsz : d.size < 4611686018427387904) (hab : a ≤ b) :
    Calls Tryd.prog 12 #[.slice (some ⟨blk, off, none⟩) d.size cap, .int .i64 (a : Int), .int .i64 (b : Int)] w fun e w' => e = .returned (.tuple #[]) ∧ ∃ d', d'.size = d0.size ∧ d' = insertionSort ltInt d a b ∧ SW enc w0 blk off d' w' := by
  have S0 := Lib.hid S
  have HZ := Lib.hid hs
  clear S hs
  go_enter Tryd.func12, Tryd.ntmps12
  go_wp2
  go_loopg [6] (b - a) (fun g1 vi wr => ∃ (i : Nat) (dk : Array Int), vi = .int .i64 (i : Int) ∧ a < i ∧ i ≤ b + 1 ∧ b + 1 - i ≤ g1 + 1 ∧ dk.size = d.size ∧ Hid (SW enc w0 blk off dk wr) ∧ Hid (insOuter ltInt a b i dk = insertionSort ltInt d a b))
  case atStart => exact ⟨a + 1, d, by go_num, by omega, by omega, by omega, rfl, S0, Lib.hid rfl⟩
  case round =>
    clear S0
    obtain ⟨i, dk, rfl, hai, hib, hg1, hsk, S1, HI⟩ := hrel
    by_cases hlt : i < b
    · have hltz : (i : Int) < (b : Int) := by omega
      have HSK := Lib.hid hsk
      have HI1 := Lib.hid (show insOuter ltInt a b (i + 1) (insInner ltInt a i dk) = insertionSort ltInt d a b by rw [← insOuter_go hlt]; exact HI.out)
      clear HI
      go_wp2
      go_loopg [7] i (fun g2 vj wr2 => ∃ (j : Nat) (dj : Array Int), vj = .int .i64 (j : Int) ∧ j ≤ i ∧ j ≤ g2 ∧ dj.size = d.size ∧ Hid (SW enc w0 blk off dj wr2) ∧ Hid (insInner ltInt a j dj = insInner ltInt a i dk))
      case atStart => exact ⟨i, dk, rfl, Nat.le_refl _, Nat.le_refl _, hsk, S1, Lib.hid rfl⟩
      case round =>
        clear S1
        obtain ⟨j, dj, rfl, hji, hg2, hsj, SJ, HR⟩ := hrel
        have OUT := Lib.hid (fun (h : ¬ (a < j) ∨ ltInt dj[j]! dj[j - 1]! = false) => show insOuter ltInt a b (i + 1) dj = insertionSort ltInt d a b from by rw [← HI1.out, ← HR.out, insInner_stop h])
        by_cases hja : a < j
        · have hjaz : (a : Int) < (j : Int) := by omega
          obtain ⟨jp, hjp⟩ : ∃ q, q + 1 = j := ⟨j - 1, by omega⟩
          have zjp : (j : Int) = (jp : Int) + 1 := by omega
          have hjad : decide ((jp : Int) + 1 > (a : Int)) = true := decide_eq_true (by omega)
          have hjaz' : (a : Int) < (jp : Int) + 1 := by omega
          obtain ⟨iN, hiN⟩ : ∃ q, q = j := ⟨_, rfl⟩
          obtain ⟨jN, hjN⟩ : ∃ q, q = j - 1 := ⟨_, rfl⟩
          have ea : ((jp : Int) + 1).toNat = iN := by omega
          have pa : (0 : Int) ≤ (jp : Int) + 1 := by omega
          have ba : (jp : Int) + 1 < (d.size : Int) := by omega
          have ra : IntKind.i64.wrap ((jp : Int) + 1) = (jp : Int) + 1 := by rw [IntKind.wrap_i64]; omega
          have ec : ((jp : Int)).toNat = jN := by omega
          have pc : (0 : Int) ≤ (jp : Int) := by omega
          have bc : (jp : Int) < (d.size : Int) := by omega
          have rc : IntKind.i64.wrap ((jp : Int)) = (jp : Int) := by rw [IntKind.wrap_i64]; omega
          obtain ⟨x, hx⟩ : ∃ x, x = dj[j]! := ⟨_, rfl⟩
          obtain ⟨y, hy⟩ : ∃ x, x = dj[j - 1]! := ⟨_, rfl⟩
          have l1 := SJ.out.c1 R (by have := HZ.out; omega) j (by omega)
          have l2 := SJ.out.c1 R (by have := HZ.out; omega) (j - 1) (by omega)
          rw [← hx, ← hiN] at l1
          rw [← hy, ← hjN] at l2
          unfold enc at l1 l2
          rcases hlv : ltInt x y with _ | _
          · have OU := Lib.hid (OUT.out (.inr (by rw [← hx, ← hy]; exact hlv)))
            clear hx hy hiN hjN OUT
            go_wp2_with fail
            go_quiet (first | (go_at_call 18; refine Calls.quiet_of_same (less_any _ _ _)))
            have S2 : Hid (SW enc w0 blk off dj (wr.drewN nq)) := Lib.hid (SJ.out.drewN nq)
            clear l1 l2 SJ
            generalize wr.drewN nq = w2 at S2 ⊢
            clear nq ea ec
            go_wp2
            go_roundg (b - (i + 1))
            case measure => omega
            case rel => exact ⟨i + 1, dj, by go_num, by omega, by omega, by omega, hsj, S2, OU⟩
          · have H9 := Lib.hid (show insInner ltInt a (j - 1) (swp dj j (j - 1)) = insInner ltInt a i dk by rw [← HR.out, insInner_go hja (by rw [← hx, ← hy]; exact hlv)])
            have HX := Lib.hid (And.intro hx (And.intro hy (And.intro hiN hjN)))
            clear hx hy hiN hjN OUT HR
            go_wp2_with fail
            go_quiet (first | (go_at_call 18; refine Calls.quiet_of_same (less_any _ _ _)))
            have S2 : Hid (SW enc w0 blk off dj (wr.drewN nq)) := Lib.hid (SJ.out.drewN nq)
            clear l1 l2 SJ
            generalize wr.drewN nq = w2 at S2 ⊢
            clear nq
            have S3 := Lib.hid (S2.out.swapped R j (j - 1) (by omega) (by omega))
            have c1a := S2.out.c1 R (by have := HZ.out; omega) j (by omega)
            have c1b := S2.out.c1 R (by have := HZ.out; omega) (j - 1) (by omega)
            have f1a := S2.out.f1 R (by have := HZ.out; omega) j (by omega)
            have f1b := S2.out.f1 R (by have := HZ.out; omega) (j - 1) (by omega)
            obtain ⟨u, c1c⟩ := S2.out.c2 R (by have := HZ.out; omega) j (j - 1) (by omega) (by omega) (enc y)
            rw [← HX.out.1, ← HX.out.2.1, ← HX.out.2.2.2, ← HX.out.2.2.1] at S3
            rw [← HX.out.2.2.2, ← HX.out.2.2.1] at c1c
            rw [← HX.out.1, ← HX.out.2.2.1] at c1a
            rw [← HX.out.2.1, ← HX.out.2.2.2] at c1b
            rw [← HX.out.2.2.1] at f1a
            rw [← HX.out.2.2.2] at f1b
            rw [← HX.out.2.2.2, ← HX.out.2.2.1] at H9
            have hjN2 : jN + 1 = j := by have := HX.out.2.2.2; omega
            have HJ := Lib.hid hjN2
            have HSZ := Lib.hid (show (swp dj iN jN).size = d.size by rw [size_swp]; exact hsj)
            clear S2 hjN2 HX
            unfold enc at c1a c1b c1c S3
            go_wp2_with fail
            go_big_region
            clear c1a c1b c1c f1a f1b
            generalize ((w2.setCell ⟨blk, off + iN, none⟩ (.int .i8 y)).setCell ⟨blk, off + jN, none⟩ (.int .i8 x)).drew = w3 at S3 ⊢
            clear ea ec
            go_wp2
            go_roundg (j - 1)
            case measure => omega
            case rel => exact ⟨jN, _, by first | rfl | go_num | (congr 1; have := HJ.out; omega), by have := HJ.out; omega, by have := HJ.out; omega, HSZ.out, S3, H9⟩
        · have hjaz : decide ((j : Int) > (a : Int)) = false := decide_eq_false (by omega)
          have hjaz' : ¬ (a : Int) < (j : Int) := by omega
          have OU := Lib.hid (OUT.out (.inl hja))
          clear OUT
          go_wp2_with fail
          go_big_region
          have S2 := Lib.hid (SJ.out.drew)
          clear SJ
          generalize wr.drew = w2 at S2 ⊢
          go_wp2
          go_roundg (b - (i + 1))
          case measure => omega
          case rel => exact ⟨i + 1, dj, by go_num, by omega, by omega, by omega, hsj, S2, OU⟩
    · have hltz : ¬ (i : Int) < (b : Int) := by omega
      go_wp2
      go_end0
      exact ⟨rfl, dk, by rw [hsk]; exact HZ.out, by rw [← HI.out, insOuter_stop hlt], S1.out⟩
end Go.Proofs.YtjpimamjcckieaaDoor.Pq
