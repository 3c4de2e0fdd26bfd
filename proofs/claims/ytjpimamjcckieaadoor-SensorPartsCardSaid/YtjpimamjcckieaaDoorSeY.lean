/- Marks: what Zone makes of them, read one after the other. -/
import Derived.Test.YtjpimamjcckieaaDoorChecked
import Derived.Test.YtjpimamjcckieaaDoorRo
import Derived.WalkKit
import Derived.ProofKit
import Derived.Below
import Derived.WalkLawsBesides
import Derived.WalkSpells
import Derived.Outline
import Derived.Lib.Hide
import Derived.Deep.QuietTactic
import Derived.Deep.LoopGhost
import Derived.Deep.Cut
import Derived.Deep.DeepCutAuto
import Derived.Deep.CutBlock
import Derived.RegionTactic
import Derived.BigQuiet
import Derived.BigRegion
namespace Go.Proofs.YtjpimamjcckieaaDoor.Se
open Go.ChangeShapes Go.WideShapes Go.ChangeAt Go.RowKit Own Ro

def i8s (xs : List Int) : List Value := xs.map fun x => .int .i8 x
/-- What is reached of the first k marks; nothing where one of them is not above the one ahead of it. -/
def zr (xs : List Int) (deg : Int) : Nat → Option Nat
  | 0 => some 0
  | k + 1 => match zr xs deg k with
    | none => none
    | some r => if 0 < k ∧ xs[k]! ≤ xs[k - 1]! then none else some (if xs[k]! ≤ deg then k + 1 else r)
theorem zr_none {xs : List Int} {deg : Int} {k m : Nat} (h : zr xs deg k = none) (hm : k ≤ m) : zr xs deg m = none := by
  induction m with
  | zero => obtain rfl : k = 0 := by omega
            exact h
  | succ m ih =>
    by_cases e : k = m + 1
    · subst e; exact h
    · unfold zr; rw [ih (by omega)]
theorem zr_stop {xs : List Int} {deg : Int} {k r : Nat} (h : zr xs deg k = some r) (h0 : 0 < k) (hl : xs[k]! ≤ xs[k - 1]!) : zr xs deg (k + 1) = none := by
  unfold zr; rw [h]; exact if_pos ⟨h0, hl⟩
theorem zr_go {xs : List Int} {deg : Int} {k r : Nat} (h : zr xs deg k = some r) (hl : ¬ (0 < k ∧ xs[k]! ≤ xs[k - 1]!)) : zr xs deg (k + 1) = some (if xs[k]! ≤ deg then k + 1 else r) := by
  conv => lhs; unfold zr
  rw [h]; exact if_neg hl
def zoneV : Option Nat → Value
  | none => .tuple #[.int .i64 0, .int .i64 1]
  | some r => .tuple #[.int .i64 (r : Nat), .int .i64 0]
theorem i8_at {w : World} {b o n : Nat} {xs : List Int} (hn : n = xs.length) (hc : ∀ j u, (i8s xs)[j]? = some u → w.cell? ⟨b, o + j, none⟩ = some u) {j : Nat} (hj : j < n) : w.cell? ⟨b, o + j, none⟩ = some (.int .i8 xs[j]!) :=
  hc j _ (by unfold i8s; rw [List.getElem?_map, List.getElem?_eq_getElem (by omega), getElem!_pos xs j (by omega)]; rfl)
set_option maxRecDepth 100000 in
set_option maxHeartbeats 8000000 in
theorem zone_any (A : Option Addr) (c n : Nat) (xs : List Int) (deg : Int) (w : World) (hn : n = xs.length) (hb : n ≤ 64) (hs : CellsIn w 1 A n (i8s xs)) :
    Calls Tryd.prog 5 #[.slice A n c, .int .i8 deg] w (fun e w' => e = .returned (zoneV (zr xs deg n)) ∧ w' = w) := by
  have GA := Lib.hid hs
  have HN := Lib.hid hn
  have b1 : ¬ (64 : Int) < (n : Int) := by omega
  have b2 : decide ((64 : Int) < (n : Int)) = false := decide_eq_false b1
  have HZ0 := Lib.hid (show zr xs deg 0 = some 0 from rfl)
  clear hs hn
  go_enter Tryd.func5, Tryd.ntmps5
  go_wp2
  go_loopg [6, 14] n (fun g v6 v14 wr => ∃ k r : Nat, v6 = .int .i64 (r : Int) ∧ v14 = .int .i64 (k : Int) ∧ k ≤ n ∧ n - k ≤ g ∧ wr = w ∧ Hid (zr xs deg k = some r))
  case atStart => exact ⟨0, 0, by first | rfl | simp, by first | rfl | simp, by omega, by omega, rfl, HZ0⟩
  case round =>
    clear HZ0
    obtain ⟨k, r, rfl, rfl, hk, hg, rfl, HK⟩ := hrel
    by_cases hlt : k < n
    · obtain ⟨b, o, rfl, hlt2, hc⟩ := GA.out.at (by omega)
      have hkz : (k : Int) < (n : Int) := by omega
      have hkp : (0 : Int) ≤ (k : Int) := by omega
      have cx := i8_at HN.out hc hlt
      have HC := Lib.hid hc
      clear hc hlt2
      by_cases hk0 : k = 0
      · subst hk0
        obtain ⟨x, hx⟩ : ∃ x, x = xs[0]! := ⟨_, rfl⟩
        rw [← hx, Nat.add_zero] at cx
        have HX := Lib.hid hx
        clear hx
        by_cases hd : x ≤ deg
        · have HK2 := Lib.hid (show zr xs deg 1 = some 1 by rw [zr_go HK.out (by omega), if_pos (by rw [← HX.out]; exact hd)])
          go_wp2
          go_roundg (n - 1)
          case measure => omega
          case rel => exact ⟨1, 1, by first | rfl | simp, by first | rfl | simp, by omega, Nat.le_refl _, rfl, HK2⟩
        · have hdb : decide (x ≤ deg) = false := decide_eq_false hd
          have HK2 := Lib.hid (show zr xs deg 1 = some r by rw [zr_go HK.out (by omega), if_neg (by rw [← HX.out]; exact hd)])
          go_wp2
          go_roundg (n - 1)
          case measure => omega
          case rel => exact ⟨1, r, by first | rfl | simp, by first | rfl | simp, by omega, Nat.le_refl _, rfl, HK2⟩
      · obtain ⟨jp, hjp⟩ : ∃ q, q + 1 = k := ⟨k - 1, by omega⟩
        subst hjp
        have cy := i8_at HN.out HC.out (j := jp) (by omega)
        obtain ⟨x, hx⟩ : ∃ x, x = xs[jp + 1]! := ⟨_, rfl⟩
        obtain ⟨y, hy⟩ : ∃ y, y = xs[jp]! := ⟨_, rfl⟩
        rw [← hx] at cx
        rw [← hy] at cy
        have HX := Lib.hid (And.intro hx hy)
        clear hx hy
        have zk : ((jp + 1 : Nat) : Int) = (jp : Int) + 1 := by omega
        rw [zk] at hkz hkp ⊢
        have ga : (0 : Int) < (jp : Int) + 1 := by omega
        have ibp : (0 : Int) ≤ (jp : Int) := by omega
        have ibb : (jp : Int) < (n : Int) := by omega
        have iar : ((jp : Int) + 1).toNat = jp + 1 := by omega
        have ibr : IntKind.i64.wrap ((jp : Int)) = (jp : Int) := by rw [IntKind.wrap_i64]; omega
        have icr : IntKind.i64.wrap ((jp : Int) + 1) = (jp : Int) + 1 := by rw [IntKind.wrap_i64]; omega
        have idr : IntKind.i64.wrap ((jp : Int) + 1 + 1) = (jp : Int) + 1 + 1 := by rw [IntKind.wrap_i64]; omega
        by_cases hle : x ≤ y
        · have HF := Lib.hid (show zr xs deg n = none from zr_none (zr_stop HK.out (by omega) (by rw [Nat.add_sub_cancel, ← HX.out.1, ← HX.out.2]; exact hle)) (by omega))
          go_wp2
          go_ret2
          rw [HF.out]
          exact ⟨rfl, rfl⟩
        · have hleb : decide (x ≤ y) = false := decide_eq_false hle
          have HS := Lib.hid (show ¬ (0 < jp + 1 ∧ xs[jp + 1]! ≤ xs[jp + 1 - 1]!) by rw [Nat.add_sub_cancel, ← HX.out.1, ← HX.out.2]; exact fun h => hle h.2)
          by_cases hd : x ≤ deg
          · have HK2 := Lib.hid (show zr xs deg (jp + 1 + 1) = some (jp + 1 + 1) by rw [zr_go HK.out HS.out, if_pos (by rw [← HX.out.1]; exact hd)])
            go_wp2
            go_roundg (n - (jp + 1 + 1))
            case measure => omega
            case rel => exact ⟨jp + 1 + 1, jp + 1 + 1, by first | go_num | (congr 1; omega), by first | go_num | (congr 1; omega), by omega, Nat.le_refl _, rfl, HK2⟩
          · have hdb : decide (x ≤ deg) = false := decide_eq_false hd
            have HK2 := Lib.hid (show zr xs deg (jp + 1 + 1) = some r by rw [zr_go HK.out HS.out, if_neg (by rw [← HX.out.1]; exact hd)])
            go_wp2
            go_roundg (n - (jp + 1 + 1))
            case measure => omega
            case rel => exact ⟨jp + 1 + 1, r, rfl, by first | go_num | (congr 1; omega), by omega, Nat.le_refl _, rfl, HK2⟩
    · obtain rfl : k = n := by omega
      have HF := HK
      go_wp2
      go_ret2
      rw [HF.out]
      exact ⟨rfl, rfl⟩
theorem zone_bad (A : Option Addr) (c n : Nat) (deg : Int) (w : World) (h : 64 < n) :
    Calls Tryd.prog 5 #[.slice A n c, .int .i8 deg] w (fun e w' => e = .returned (zoneV none) ∧ w' = w) := by
  have n2 : (64 : Int) < (n : Int) := by omega
  have n2b : decide ((64 : Int) < (n : Int)) = true := decide_eq_true n2
  clear h
  go_enter Tryd.func5, Tryd.ntmps5
  go_wp2
  go_ret2
  exact ⟨rfl, rfl⟩
end Go.Proofs.YtjpimamjcckieaaDoor.Se
