/- The middle one of some readings, of the document: the least number that half of them are at or below. -/
import Derived.Test.YtjpimamjcckieaaChecked
import Derived.Test.YtjpimamjcckieaaRo
import Derived.WalkKit
import Derived.ProofKit
import Derived.Below
import Derived.WalkLawsBesides
import Derived.WalkSpells
import Derived.Outline
import Derived.Lib.Hide
import Derived.Deep.QuietTactic
import Derived.Deep.LoopGhost
import Derived.Deep.Cut
import Derived.Deep.DeepCutAuto
import Derived.Deep.CutBlock
import Derived.RegionTactic
import Derived.BigQuiet
import Derived.BigRegion
namespace Go.Proofs.Ytjpimamjcckieaa.Sv
open Go.ChangeShapes Go.WideShapes Go.ChangeAt Go.RowKit Own Ro

def i8s (xs : List Int) : List Value := xs.map fun x => .int .i8 x
def cnt (L : List Int) (d : Int) (k : Nat) : Nat := (L.take k).countP fun x => decide (x ≤ d)
theorem cnt_all (L : List Int) (d : Int) : cnt L d L.length = L.countP fun x => decide (x ≤ d) := by unfold cnt; rw [List.take_length]
theorem cnt_step {L : List Int} {d : Int} {k : Nat} (h : k < L.length) : cnt L d (k + 1) = cnt L d k + (if L[k]! ≤ d then 1 else 0) := by
  unfold cnt
  rw [List.take_add_one, List.countP_append, List.getElem?_eq_getElem h, getElem!_pos L k h]
  simp [List.countP_cons]
theorem i8_at {w : World} {b o n : Nat} {xs : List Int} (hn : n = xs.length) (hc : ∀ j u, (i8s xs)[j]? = some u → w.cell? ⟨b, o + j, none⟩ = some u) {j : Nat} (hj : j < n) : w.cell? ⟨b, o + j, none⟩ = some (.int .i8 xs[j]!) :=
  hc j _ (by unfold i8s; rw [List.getElem?_map, List.getElem?_eq_getElem (by omega), getElem!_pos xs j (by omega)]; rfl)
set_option maxRecDepth 100000 in
set_option maxHeartbeats 8000000 in
theorem refMedian_any (A : Option Addr) (c n : Nat) (L : List Int) (m : Int) (w : World) (hn : n = L.length) (h1 : 1 ≤ n) (hb : n ≤ 4096) (hs : CellsIn w 1 A n (i8s L)) (hr : ∀ x, x ∈ L → -128 ≤ x ∧ x ≤ 127)
    (hm0 : -128 ≤ m) (hm1 : m ≤ 127) (hle : n ≤ 2 * L.countP fun x => decide (x ≤ m)) (hlt : ∀ d, d < m → 2 * (L.countP fun x => decide (x ≤ d)) < n) :
    Calls Try.prog 6 #[.slice A n c] w (fun e w' => e = .returned (.tuple #[.int .i8 m, .int .i64 0]) ∧ w' = w) := by
  have GA := Lib.hid hs
  have HN := Lib.hid hn
  have HR := Lib.hid hr
  have HLE := Lib.hid (show n ≤ 2 * cnt L m n by rw [hn, cnt_all, ← hn]; exact hle)
  have HLT := Lib.hid (fun d (h : d < m) => show 2 * cnt L d n < n by have := hlt d h; rw [← cnt_all, ← hn] at this; exact this)
  have HCB := Lib.hid (fun d => show cnt L d n ≤ n by unfold cnt; exact Nat.le_trans List.countP_le_length (by rw [List.length_take]; omega))
  have n1 : ¬ (n : Int) < 1 := by omega
  have n1b : decide ((n : Int) < 1) = false := decide_eq_false n1
  have n2 : ¬ (4096 : Int) < (n : Int) := by omega
  have n2b : decide ((4096 : Int) < (n : Int)) = false := decide_eq_false n2
  have w8 : IntKind.i8.wrap m = m := by simp [IntKind.wrap, IntKind.bits, IntKind.signed]; split <;> omega
  clear hs hn hr hle hlt
  go_enter Try.func6, Try.ntmps6
  go_wp2
  go_loopg [4, 5, 6] (m + 128).toNat (fun g v4 _ _ wr => ∃ d : Int, v4 = .int .i64 d ∧ -128 ≤ d ∧ d ≤ m ∧ (m - d).toNat ≤ g ∧ wr = w)
  case atStart => exact ⟨-128, rfl, by omega, hm0, by omega, rfl⟩
  case round =>
    obtain ⟨d, rfl, hd0, hd1, hg, rfl⟩ := hrel
    have hdz : d ≤ 127 := by omega
    go_upto_block 2 with fail
    go_cut [5, 6] (fun t5 _ wx => t5 = .int .i64 (cnt L d n : Nat) ∧ wx = wr)
    case first =>
      go_wp2_with fail
      go_loopg [5, 6] n (fun g v5 v6 wx => ∃ k r : Nat, v5 = .int .i64 (r : Int) ∧ v6 = .int .i64 (k : Int) ∧ k ≤ n ∧ r ≤ k ∧ n - k ≤ g ∧ wx = wr ∧ Hid (r = cnt L d k))
      case atStart => exact ⟨0, 0, by first | rfl | simp, by first | rfl | simp, by omega, by omega, by omega, rfl, Lib.hid (by simp [cnt])⟩
      case round =>
        obtain ⟨k, r, rfl, rfl, hk, hrk, hg2, rfl, HK⟩ := hrel
        by_cases hkl : k < n
        · obtain ⟨b, o, rfl, hlt2, hc⟩ := GA.out.at (by omega)
          have hkz : (k : Int) < (n : Int) := by omega
          have hkp : (0 : Int) ≤ (k : Int) := by omega
          have cx := i8_at HN.out hc hkl
          obtain ⟨x, hx⟩ : ∃ x, x = L[k]! := ⟨_, rfl⟩
          have hxr := HR.out x (by rw [hx, getElem!_pos L k (by rw [← HN.out]; exact hkl)]; exact List.getElem_mem _)
          have wx : IntKind.i64.wrap x = x := by rw [IntKind.wrap_i64]; omega
          have wk : IntKind.i64.wrap ((k : Int) + 1) = (k : Int) + 1 := by rw [IntKind.wrap_i64]; omega
          have wr' : IntKind.i64.wrap ((r : Int) + 1) = (r : Int) + 1 := by rw [IntKind.wrap_i64]; omega
          rw [← hx] at cx
          have HST := Lib.hid (show cnt L d (k + 1) = cnt L d k + (if x ≤ d then 1 else 0) by rw [cnt_step (by rw [← HN.out]; exact hkl), ← hx])
          clear hc hlt2 hx hxr
          by_cases hd : x ≤ d
          · have HK2 := Lib.hid (show r + 1 = cnt L d (k + 1) by rw [HST.out, if_pos hd, ← HK.out])
            go_wp2
            go_roundg (n - (k + 1))
            case measure => omega
            case rel => exact ⟨k + 1, r + 1, by first | go_num | (congr 1; omega), by first | go_num | (congr 1; omega), by omega, by omega, Nat.le_refl _, rfl, HK2⟩
          · have hdb : decide (x ≤ d) = false := decide_eq_false hd
            have HK2 := Lib.hid (show r = cnt L d (k + 1) by rw [HST.out, if_neg hd, ← HK.out, Nat.add_zero])
            go_wp2
            go_roundg (n - (k + 1))
            case measure => omega
            case rel => exact ⟨k + 1, r, rfl, by first | go_num | (congr 1; omega), by omega, by omega, Nat.le_refl _, rfl, HK2⟩
        · obtain rfl : k = n := by omega
          have hkz : ¬ (k : Int) < (k : Int) := by omega
          go_wp2
          go_meet
          exact ⟨by rw [← HK.out], rfl⟩
    case rest =>
    obtain ⟨rfl, hw⟩ := hcut
    rw [hw]
    clear hw wc
    have hcb := HCB.out d
    have HL1 := Lib.hid (fun (e : d = m) => show n ≤ 2 * cnt L d n by rw [e]; exact HLE.out)
    have HL2 := HLT.out d
    generalize cnt L d n = C at HL1 HL2 hcb ⊢
    have wC : IntKind.i64.wrap (2 * (C : Int)) = 2 * (C : Int) := by rw [IntKind.wrap_i64]; omega
    have wd : IntKind.i64.wrap (d + 1) = d + 1 := by rw [IntKind.wrap_i64]; omega
    by_cases hm : d = m
    · have hq : (n : Int) ≤ 2 * (C : Int) := by have := HL1.out hm; omega
      subst hm
      go_wp2
      go_ret2
      exact ⟨rfl, rfl⟩
    · have hq : ¬ (n : Int) ≤ 2 * (C : Int) := by have := HL2 (by omega); omega
      have hqb : decide ((n : Int) ≤ 2 * (C : Int)) = false := decide_eq_false hq
      go_wp2
      go_roundg (m - (d + 1)).toNat
      case measure => omega
      case rel => exact ⟨d + 1, rfl, by omega, by omega, Nat.le_refl _, rfl⟩
set_option maxRecDepth 100000 in
set_option maxHeartbeats 8000000 in
theorem refMedian_bad (A : Option Addr) (c n : Nat) (w : World) (h : n < 1 ∨ 4096 < n) :
    Calls Try.prog 6 #[.slice A n c] w fun e w' => e = .returned (.tuple #[.int .i8 0, .int .i64 1]) ∧ w' = w := by
  by_cases h1 : n < 1
  · obtain rfl : n = 0 := by omega
    go_enter Try.func6, Try.ntmps6
    go_wp2
    go_ret2
    exact ⟨rfl, rfl⟩
  · have n1 : ¬ (n : Int) < 1 := by omega
    have n1b : decide ((n : Int) < 1) = false := decide_eq_false n1
    have n2 : (4096 : Int) < (n : Int) := by omega
    have n2b : decide ((4096 : Int) < (n : Int)) = true := decide_eq_true n2
    clear h h1
    go_enter Try.func6, Try.ntmps6
    go_wp2
    go_ret2
    exact ⟨rfl, rfl⟩
end Go.Proofs.Ytjpimamjcckieaa.Sv
