/- slices.SortStableFunc's turn. -/
import Derived.Test.YtjffemeeomogaaaDoorStA
namespace Go.Proofs.YtjffemeeomogaaaDoor.St
open Go.ChangeShapes Go.WideShapes Go.ChangeAt Go.RowKit Go.Sort Go.Shelf
variable {α : Type} [Inhabited α]

set_option maxRecDepth 100000 in
set_option maxHeartbeats 8000000 in
theorem rotate_any (num : α → Int) (F : Value) (blk off cap a m b : Nat) (d0 d : Array α) (w0 w : World) (R : Row1 (enc num) w0 blk off d0) (hs : d.size = d0.size) (S : SW (enc num) w0 blk off d w) (h1 : a < m) (h2 : m < b) (hb : b ≤ d.size) (hsz : d.size < 4611686018427387904) :
    Calls Tryd.prog 162 #[.slice (some ⟨blk, off, none⟩) d.size cap, .int .i64 (a : Int), .int .i64 (m : Int), .int .i64 (b : Int), F] w fun e w' => e = .returned (.tuple #[]) ∧ ∃ d', Rot a m b d d' ∧ SW (enc num) w0 blk off d' w' := by
  obtain ⟨T, hT⟩ := rot_ex a m b d hb
  have HS := Lib.hid S
  have HZ := Lib.hid hs
  have HT := Lib.hid hT
  have HT0 := Lib.hid (show Rot (m - (m - a)) m (m + (b - m)) d T by rw [show m - (m - a) = a by omega, show m + (b - m) = b by omega]; exact hT)
  clear S hs hT
  go_enter Tryd.func162, Tryd.ntmps162
  go_wp2
  go_loopg [10, 11] (m + b) (fun g1 v10 v11 wr => ∃ (i j : Nat) (dk : Array α), v10 = .int .i64 (i : Int) ∧ v11 = .int .i64 (j : Int) ∧ 0 < i ∧ 0 < j ∧ i ≤ m ∧ m + j ≤ d.size ∧ i + j ≤ g1 ∧ Hid (dk.size = d.size) ∧ Hid (Rot (m - i) m (m + j) dk T) ∧ Hid (SW (enc num) w0 blk off dk wr))
  case atStart => exact ⟨m - a, b - m, d, congrArg _ (by omega), congrArg _ (by omega), by omega, by omega, by omega, by omega, by omega, Lib.hid rfl, HT0, HS⟩
  case round =>
    clear HT0
    obtain ⟨i, j, dk, rfl, rfl, hi, hj, him, hmj, hg1, H0, H1, H2⟩ := hrel
    rcases Nat.lt_trichotomy i j with hlt | he | hlt
    · have l1 : ¬ (i : Int) = (j : Int) := by omega
      have l2 : ¬ (j : Int) < (i : Int) := by omega
      have HC := swapRange_any num F blk off cap (m - i) (m + j - i) i d0 dk w0 wr R (H0.out.trans HZ.out) H2.out (by omega) (by rw [H0.out]; omega) (by rw [H0.out]; exact hsz)
      rw [H0.out, show ((m - i : Nat) : Int) = (m : Int) - (i : Int) by omega, show ((m + j - i : Nat) : Int) = (m : Int) + (j : Int) - (i : Int) by omega] at HC
      have HC' := Lib.hid HC
      clear HC
      go_wp2_with fail
      refine HC'.out.mono ?_
      rintro e w1 ⟨rfl, d', hd, hS⟩
      have H3 := Lib.hid (H1.out.less him hlt hd)
      have H4 := Lib.hid (hd.1.trans H0.out)
      have H5 := Lib.hid hS
      clear hd hS HC' H0 H1 H2
      go_wp2_with fail
      go_roundg (i + (j - i))
      case measure => omega
      case rel => exact ⟨i, j - i, d', rfl, congrArg _ (by omega), hi, by omega, him, by omega, Nat.le_refl _, H4, H3, H5⟩
    · subst he
      have HC := swapRange_any num F blk off cap (m - i) m i d0 dk w0 wr R (H0.out.trans HZ.out) H2.out (by omega) (by rw [H0.out]; omega) (by rw [H0.out]; exact hsz)
      rw [H0.out, show ((m - i : Nat) : Int) = (m : Int) - (i : Int) by omega] at HC
      have HC' := Lib.hid HC
      clear HC
      go_wp2_with fail
      refine HC'.out.mono ?_
      rintro e w1 ⟨rfl, d', hd, hS⟩
      have H3 := Lib.hid (H1.out.same him hd)
      have H5 := Lib.hid hS
      clear hd hS HC' H0 H1 H2
      go_wp2_with fail
      go_end0
      exact ⟨rfl, d', by rw [H3.out]; exact HT.out, H5.out⟩
    · have l1 : ¬ (i : Int) = (j : Int) := by omega
      have l2 : (j : Int) < (i : Int) := by omega
      have HC := swapRange_any num F blk off cap (m - i) m j d0 dk w0 wr R (H0.out.trans HZ.out) H2.out (by omega) (by rw [H0.out]; omega) (by rw [H0.out]; exact hsz)
      rw [H0.out, show ((m - i : Nat) : Int) = (m : Int) - (i : Int) by omega] at HC
      have HC' := Lib.hid HC
      clear HC
      go_wp2_with fail
      refine HC'.out.mono ?_
      rintro e w1 ⟨rfl, d', hd, hS⟩
      have H3 := Lib.hid (H1.out.great him hlt hd)
      have H4 := Lib.hid (hd.1.trans H0.out)
      have H5 := Lib.hid hS
      clear hd hS HC' H0 H1 H2
      go_wp2_with fail
      go_roundg (i - j + j)
      case measure => omega
      case rel => exact ⟨i - j, j, d', congrArg _ (by omega), rfl, by omega, hj, by omega, hmj, Nat.le_refl _, H4, H3, H5⟩
end Go.Proofs.YtjffemeeomogaaaDoor.St
