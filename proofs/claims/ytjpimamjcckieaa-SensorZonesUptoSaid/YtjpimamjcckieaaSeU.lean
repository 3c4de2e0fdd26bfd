/- Marks: what the document makes of them. -/
import Derived.Test.YtjpimamjcckieaaSeY
namespace Go.Proofs.Ytjpimamjcckieaa.Se
open Go.ChangeShapes Go.WideShapes Go.ChangeAt Go.RowKit Own Ro

/-- The document counts; where they rise it is the same. -/
theorem zr_count {xs : List Int} {deg : Int} {k r : Nat} (h : zr xs deg k = some r) (hl : ¬ (0 < k ∧ xs[k]! ≤ xs[k - 1]!)) (hd : xs[k]! ≤ deg) : zr xs deg (k + 1) = some (r + 1) := by
  rw [zr_go h hl, if_pos hd]
  have hr : r = k := by
    have facts : ∀ {k r : Nat}, zr xs deg k = some r → r ≤ k ∧ (∀ i, r ≤ i → i < k → deg < xs[i]!) := by
      intro k
      induction k with
      | zero =>
        intro r h
        obtain rfl : 0 = r := Option.some.inj h
        exact ⟨Nat.le_refl _, fun i _ hi => absurd hi (Nat.not_lt_zero _)⟩
      | succ k ih =>
        intro r h
        cases e : zr xs deg k with
        | none => rw [zr_none e (Nat.le_succ k)] at h; cases h
        | some r0 =>
          obtain ⟨h1, h3⟩ := ih e
          by_cases hl : 0 < k ∧ xs[k]! ≤ xs[k - 1]!
          · rw [zr_stop e hl.1 hl.2] at h; cases h
          · rw [zr_go e hl] at h
            by_cases hd : xs[k]! ≤ deg
            · rw [if_pos hd] at h
              obtain rfl : k + 1 = r := Option.some.inj h
              exact ⟨Nat.le_refl _, fun i hi hi' => by omega⟩
            · rw [if_neg hd] at h
              obtain rfl : r0 = r := Option.some.inj h
              refine ⟨by omega, fun i hi hi' => ?_⟩
              by_cases c : i = k
              · rw [c]; omega
              · exact h3 i hi (by omega)
    obtain ⟨g1, g2⟩ := facts h
    by_cases c : r = k
    · exact c
    · have g3 := g2 (k - 1) (by omega) (by omega)
      have g4 : ¬ xs[k]! ≤ xs[k - 1]! := fun q => hl ⟨by omega, q⟩
      omega
  rw [hr]
set_option maxRecDepth 100000 in
set_option maxHeartbeats 8000000 in
theorem refZone_any (A : Option Addr) (c n : Nat) (xs : List Int) (deg : Int) (w : World) (hn : n = xs.length) (hb : n ≤ 64) (hs : CellsIn w 1 A n (i8s xs)) :
    Calls Try.prog 4 #[.slice A n c, .int .i8 deg] w (fun e w' => e = .returned (zoneV (zr xs deg n)) ∧ ∃ q, w' = w.drewN q) := by
  have GA := Lib.hid hs
  have HN := Lib.hid hn
  have b1 : ¬ (64 : Int) < (n : Int) := by omega
  have b2 : decide ((64 : Int) < (n : Int)) = false := decide_eq_false b1
  have HZ0 := Lib.hid (show zr xs deg 0 = some 0 from rfl)
  clear hs hn
  go_enter Try.func4, Try.ntmps4
  go_wp2
  go_loopg [6, 7] n (fun g v6 v14 wr => ∃ k r : Nat, v6 = .int .i64 (r : Int) ∧ v14 = .int .i64 (k : Int) ∧ k ≤ n ∧ r ≤ k ∧ n - k ≤ g ∧ Hid (∃ q, wr = w.drewN q) ∧ Hid (zr xs deg k = some r))
  case atStart => exact ⟨0, 0, by first | rfl | simp, by first | rfl | simp, by omega, by omega, by omega, Lib.hid ⟨0, rfl⟩, HZ0⟩
  case round =>
    clear HZ0
    obtain ⟨k, r, rfl, rfl, hk, hrk, hg, HW, HK⟩ := hrel
    by_cases hlt : k < n
    · obtain ⟨b, o, rfl, hlt2, hc⟩ := (show CellsIn wr 1 A n (i8s xs) from by obtain ⟨q, e⟩ := HW.out; rw [e]; exact GA.out.below (below_dr (Below.refl _ _) q)).at (by omega)
      have hkz : (k : Int) < (n : Int) := by omega
      have hkp : (0 : Int) ≤ (k : Int) := by omega
      have wr1 : IntKind.i64.wrap ((r : Int) + 1) = (r : Int) + 1 := by rw [IntKind.wrap_i64]; omega
      by_cases hk0 : k = 0
      · subst hk0
        have cx := i8_at HN.out hc hlt
        have cxb : ∀ q, (wr.drewN q).cell? ⟨b, o + 0, none⟩ = some (.int .i8 xs[0]!) := fun q => cx
        obtain ⟨x, hx⟩ : ∃ x, x = xs[0]! := ⟨_, rfl⟩
        rw [← hx, Nat.add_zero] at cx
        have HX := Lib.hid hx
        clear hx cxb hc hlt2
        go_wp2_with fail
        go_big_region
        have HW2 : Hid (∃ q, wr.drew = w.drewN q) := Lib.hid (by obtain ⟨q, e⟩ := HW.out; exact ⟨q + 1, by rw [e]; rfl⟩)
        replace cx : wr.drew.cell? ⟨b, o, none⟩ = some (.int .i8 x) := cx
        generalize wr.drew = w2 at cx HW2 ⊢
        by_cases hd : x ≤ deg
        · have HK2 := Lib.hid (show zr xs deg 1 = some (r + 1) from zr_count HK.out (by omega) (by rw [← HX.out]; exact hd))
          go_wp2
          go_roundg (n - 1)
          case measure => omega
          case rel => exact ⟨1, r + 1, by first | go_num | (congr 1; omega), by first | rfl | simp, by omega, by omega, Nat.le_refl _, HW2, HK2⟩
        · have hdb : decide (x ≤ deg) = false := decide_eq_false hd
          have HK2 := Lib.hid (show zr xs deg 1 = some r by rw [zr_go HK.out (by omega), if_neg (by rw [← HX.out]; exact hd)])
          go_wp2
          go_roundg (n - 1)
          case measure => omega
          case rel => exact ⟨1, r, by first | rfl | simp, by first | rfl | simp, by omega, by omega, Nat.le_refl _, HW2, HK2⟩
      · obtain ⟨jp, hjp⟩ : ∃ q, q + 1 = k := ⟨k - 1, by omega⟩
        subst hjp
        have cx := i8_at HN.out hc hlt
        have cy := i8_at HN.out hc (j := jp) (by omega)
        obtain ⟨x, hx⟩ : ∃ x, x = xs[jp + 1]! := ⟨_, rfl⟩
        obtain ⟨y, hy⟩ : ∃ y, y = xs[jp]! := ⟨_, rfl⟩
        rw [← hx] at cx
        rw [← hy] at cy
        have HX := Lib.hid (And.intro hx hy)
        clear hx hy hc hlt2
        have zk : ((jp + 1 : Nat) : Int) = (jp : Int) + 1 := by omega
        rw [zk] at hkz hkp ⊢
        have ga : (0 : Int) < (jp : Int) + 1 := by omega
        have ibp : (0 : Int) ≤ (jp : Int) := by omega
        have ibb : (jp : Int) < (n : Int) := by omega
        have iar : ((jp : Int) + 1).toNat = jp + 1 := by omega
        have ibr : IntKind.i64.wrap ((jp : Int)) = (jp : Int) := by rw [IntKind.wrap_i64]; omega
        have icr : IntKind.i64.wrap ((jp : Int) + 1) = (jp : Int) + 1 := by rw [IntKind.wrap_i64]; omega
        have idr : IntKind.i64.wrap ((jp : Int) + 1 + 1) = (jp : Int) + 1 + 1 := by rw [IntKind.wrap_i64]; omega
        go_wp2_with fail
        go_region
        have HW2 : Hid (∃ q, wr.drew = w.drewN q) := Lib.hid (by obtain ⟨q, e⟩ := HW.out; exact ⟨q + 1, by rw [e]; rfl⟩)
        replace cx : wr.drew.cell? ⟨b, o + (jp + 1), none⟩ = some (.int .i8 x) := cx
        clear cy
        generalize wr.drew = w2 at cx HW2 ⊢
        by_cases hle : x ≤ y
        · have HF := Lib.hid (show zr xs deg n = none from zr_none (zr_stop HK.out (by omega) (by rw [Nat.add_sub_cancel, ← HX.out.1, ← HX.out.2]; exact hle)) (by omega))
          go_wp2
          go_ret2
          rw [HF.out]
          exact ⟨rfl, HW2.out⟩
        · have hleb : decide (x ≤ y) = false := decide_eq_false hle
          have HS := Lib.hid (show ¬ (0 < jp + 1 ∧ xs[jp + 1]! ≤ xs[jp + 1 - 1]!) by rw [Nat.add_sub_cancel, ← HX.out.1, ← HX.out.2]; exact fun h => hle h.2)
          by_cases hd : x ≤ deg
          · have HK2 := Lib.hid (show zr xs deg (jp + 1 + 1) = some (r + 1) from zr_count HK.out HS.out (by rw [← HX.out.1]; exact hd))
            go_wp2
            go_roundg (n - (jp + 1 + 1))
            case measure => omega
            case rel => exact ⟨jp + 1 + 1, r + 1, by first | go_num | (congr 1; omega), by first | go_num | (congr 1; omega), by omega, by omega, Nat.le_refl _, HW2, HK2⟩
          · have hdb : decide (x ≤ deg) = false := decide_eq_false hd
            have HK2 := Lib.hid (show zr xs deg (jp + 1 + 1) = some r by rw [zr_go HK.out HS.out, if_neg (by rw [← HX.out.1]; exact hd)])
            go_wp2
            go_roundg (n - (jp + 1 + 1))
            case measure => omega
            case rel => exact ⟨jp + 1 + 1, r, rfl, by first | go_num | (congr 1; omega), by omega, by omega, Nat.le_refl _, HW2, HK2⟩
    · obtain rfl : k = n := by omega
      have HF := HK
      have hkz : ¬ (k : Int) < (k : Int) := by omega
      go_wp2
      go_ret2
      rw [HF.out]
      exact ⟨rfl, HW.out⟩
theorem refZone_bad (A : Option Addr) (c n : Nat) (deg : Int) (w : World) (h : 64 < n) :
    Calls Try.prog 4 #[.slice A n c, .int .i8 deg] w (fun e w' => e = .returned (zoneV none) ∧ w' = w) := by
  have n2 : (64 : Int) < (n : Int) := by omega
  have n2b : decide ((64 : Int) < (n : Int)) = true := decide_eq_true n2
  clear h
  go_enter Try.func4, Try.ntmps4
  go_wp2
  go_ret2
  exact ⟨rfl, rfl⟩
end Go.Proofs.Ytjpimamjcckieaa.Se
