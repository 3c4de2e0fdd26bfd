/- slices.SortStableFunc's small ones: two stretches changed for one another, a turn, over a list whose elements stand for numbers. -/
import Derived.Test.YtjffemeeomogaaaDoorChecked
import Derived.Test.YtjffemeeomogaaaDoorStM
import Derived.Shelf.SlSortCmp.Kit1
import Derived.WalkKit
import Derived.ProofKit
import Derived.Below
import Derived.WalkLawsBesides
import Derived.WalkSpells
import Derived.Outline
import Derived.Lib.Hide
import Derived.Deep.QuietTactic
import Derived.Deep.LoopGhost
import Derived.RegionTactic
import Derived.BigQuiet
import Derived.BigRegion
namespace Go.Proofs.YtjffemeeomogaaaDoor.St
open Go.ChangeShapes Go.WideShapes Go.ChangeAt Go.RowKit Go.Sort Go.Shelf
variable {α : Type}

/-- An element as it stands. -/
def enc (num : α → Int) (x : α) : Value := .int .i64 (num x)
theorem enc_one (num : α → Int) : OneCell (enc num) := fun _ => rfl
variable [Inhabited α]
set_option maxRecDepth 100000 in
set_option maxHeartbeats 8000000 in
theorem swapRange_any (num : α → Int) (F : Value) (blk off cap a b n : Nat) (d0 d : Array α) (w0 w : World) (R : Row1 (enc num) w0 blk off d0) (hs : d.size = d0.size) (S : SW (enc num) w0 blk off d w) (hab : a + n ≤ b) (hb : b + n ≤ d.size) (hsz : d.size < 4611686018427387904) :
    Calls Tryd.prog 169 #[.slice (some ⟨blk, off, none⟩) d.size cap, .int .i64 (a : Int), .int .i64 (b : Int), .int .i64 (n : Int), F] w fun e w' => e = .returned (.tuple #[]) ∧ ∃ d', Swr a b n d d' ∧ SW (enc num) w0 blk off d' w' := by
  have HS := Lib.hid S
  have HZ := Lib.hid hs
  clear S hs
  go_enter Tryd.func169, Tryd.ntmps169
  go_wp2
  go_loopg [10] n (fun g1 v10 wr => ∃ (k : Nat) (dk : Array α), v10 = .int .i64 (k : Int) ∧ k ≤ n ∧ n - k ≤ g1 ∧ Hid (Swr a b k d dk) ∧ Hid (SW (enc num) w0 blk off dk wr))
  case atStart => exact ⟨0, d, rfl, by omega, by omega, Lib.hid (Swr.zero a b d), HS⟩
  case round =>
    obtain ⟨k, dk, rfl, hk, hg1, H1, H2⟩ := hrel
    by_cases hlt : k < n
    · have l1 : (k : Int) < (n : Int) := by omega
      have hz : dk.size = d.size := H1.out.1
      have hz0 : dk.size = d0.size := hz.trans HZ.out
      obtain ⟨iN, hiN⟩ : ∃ q, q = a + k := ⟨_, rfl⟩
      obtain ⟨jN, hjN⟩ : ∃ q, q = b + k := ⟨_, rfl⟩
      obtain ⟨x, hx⟩ : ∃ x, x = dk[a + k]! := ⟨_, rfl⟩
      obtain ⟨y, hy⟩ : ∃ x, x = dk[b + k]! := ⟨_, rfl⟩
      have H3 := Lib.hid (H2.out.swapped R (a + k) (b + k) (by omega) (by omega))
      have c1 := H2.out.c1 R hz0 (a + k) (by omega)
      have c2 := H2.out.c1 R hz0 (b + k) (by omega)
      have f1 := H2.out.f1 R hz0 (a + k) (by omega)
      have f2 := H2.out.f1 R hz0 (b + k) (by omega)
      obtain ⟨u, c3⟩ := H2.out.c2 R hz0 (a + k) (b + k) (by omega) (by omega) (enc num y)
      have H4 := Lib.hid (H1.out.step (by omega) (by omega))
      rw [← hx, ← hy, ← hiN, ← hjN] at H3
      rw [← hjN, ← hiN] at H4
      rw [← hx, ← hiN] at c1
      rw [← hy, ← hjN] at c2
      rw [← hiN] at f1
      rw [← hjN] at f2
      rw [← hiN, ← hjN] at c3
      have r1 : IntKind.i64.wrap ((a : Int) + (k : Int)) = (a : Int) + (k : Int) := by rw [IntKind.wrap_i64]; omega
      have r2 : IntKind.i64.wrap ((b : Int) + (k : Int)) = (b : Int) + (k : Int) := by rw [IntKind.wrap_i64]; omega
      have r3 : ((a : Int) + (k : Int)).toNat = iN := by omega
      have r4 : ((b : Int) + (k : Int)).toNat = jN := by omega
      have r5 : (0 : Int) ≤ (a : Int) + (k : Int) := by omega
      have r6 : (0 : Int) ≤ (b : Int) + (k : Int) := by omega
      have r7 : (a : Int) + (k : Int) < (d.size : Int) := by omega
      have r8 : (b : Int) + (k : Int) < (d.size : Int) := by omega
      clear H1 H2 hx hy hiN hjN hz hz0
      unfold enc at c1 c2 c3 H3
      go_wp2
      go_big_region
      clear c1 c2 c3 f1 f2 r1 r2 r3 r4
      generalize ((wr.setCell ⟨blk, off + iN, none⟩ (.int .i64 (num y))).setCell ⟨blk, off + jN, none⟩ (.int .i64 (num x))).drew = w3 at H3 ⊢
      go_wp2
      go_roundg (n - (k + 1))
      case measure => omega
      case rel => exact ⟨k + 1, _, by go_num, by omega, Nat.le_refl _, H4, H3⟩
    · obtain rfl : n = k := by omega
      go_wp2
      go_end0
      exact ⟨rfl, dk, H1.out, H2.out⟩
end Go.Proofs.YtjffemeeomogaaaDoor.St
