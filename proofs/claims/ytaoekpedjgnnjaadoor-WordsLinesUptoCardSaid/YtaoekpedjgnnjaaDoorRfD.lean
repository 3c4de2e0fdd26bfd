/- The document's own digit. -/
import Derived.Test.YtaoekpedjgnnjaaDoorRfL
namespace Go.Proofs.YtaoekpedjgnnjaaDoor.Wd
open Go.ChangeShapes Go.WideShapes Go.ChangeAt Go.RowKit Own Bld Go.Lib Nums

def hexL : List UInt8 := [48, 49, 50, 51, 52, 53, 54, 55, 56, 57, 97, 98, 99, 100, 101, 102]
/-- The value of a digit to the base 16, or -1. -/
def digV (c : UInt8) : Int := if hexL.idxOf c < 16 then (hexL.idxOf c : Int) else -1
theorem dig_at0 : ∀ k : Fin 16, hexL.getD k.val 0 = hexT[k.val]'(k.isLt) := by decide +kernel
theorem dig_step0 : ∀ (k : Fin 16) (c : Fin 256), k.val ≤ hexL.idxOf (UInt8.ofNat c.val) → (hexL.getD k.val 0 = UInt8.ofNat c.val → hexL.idxOf (UInt8.ofNat c.val) = k.val) ∧ (hexL.getD k.val 0 ≠ UInt8.ofNat c.val → k.val + 1 ≤ hexL.idxOf (UInt8.ofNat c.val)) := by decide +kernel
theorem dig_step (k : Nat) (hk : k < 16) (c : UInt8) (h : k ≤ hexL.idxOf c) : (hexT[k]'(hk) = c → hexL.idxOf c = k) ∧ (hexT[k]'(hk) ≠ c → k + 1 ≤ hexL.idxOf c) := by
  have h1 := dig_step0 ⟨k, hk⟩ ⟨c.toNat, c.toNat_lt⟩
  have h2 := dig_at0 ⟨k, hk⟩
  simp only [UInt8.ofNat_toNat] at h1
  rw [← h2]
  exact h1 h

set_option maxRecDepth 100000 in
set_option maxHeartbeats 2000000 in
theorem digit_any (c : UInt8) (w : World) :
    Calls Tryd.prog 40 #[.int .u8 (c.toNat : Int)] w fun e w' => e = .returned (.int .i64 (digV c)) ∧ w = w' := by
  have hc256 : c.toNat < 256 := c.toNat_lt
  go_enter Tryd.func40, Tryd.ntmps40
  go_wp2_with fail
  go_loop [3] (fun i => ∃ k : Nat, k ≤ 16 ∧ i = .int .i64 k ∧ Hid (k ≤ hexL.idxOf c)) (fun i => 16 - (RowKit.intOf i).toNat)
  case atStart => exact ⟨0, by omega, rfl, Lib.hid (Nat.zero_le _)⟩
  case round =>
    obtain ⟨k, hk, rfl, HA⟩ := hrel
    by_cases hlt : k < 16
    · have hst := dig_step k hlt c HA.out
      have hsz : k < hexT.size := hlt
      have h256 : (hexT[k]'(hlt)).toNat < 256 := (hexT[k]'(hlt)).toNat_lt
      by_cases he : hexT[k]'(hlt) = c
      · have t0 : (((hexT[k]'(hlt)).toNat : Int) == (c.toNat : Int)) = true := beq_iff_eq.2 (by rw [he])
        have t1 : ((((⟨#[48, 49, 50, 51, 52, 53, 54, 55, 56, 57, 97, 98, 99, 100, 101, 102]⟩ : ByteArray)[k]'(hlt)).toNat : Int) == (c.toNat : Int)) = true := t0
        have HV : Hid (digV c = k) := Lib.hid (by unfold digV; rw [hst.1 he, if_pos hlt])
        clear hst he t0
        go_wp2_with fail
        go_ret
        rw [HV.out]
        exact ⟨rfl, rfl⟩
      · have t0 : (((hexT[k]'(hlt)).toNat : Int) == (c.toNat : Int)) = false := beq_eq_false_iff_ne.2 fun h => he (UInt8.toNat_inj.1 (by omega))
        have t1 : ((((⟨#[48, 49, 50, 51, 52, 53, 54, 55, 56, 57, 97, 98, 99, 100, 101, 102]⟩ : ByteArray)[k]'(hlt)).toNat : Int) == (c.toNat : Int)) = false := t0
        have HN := Lib.hid (hst.2 he)
        clear hst he t0
        go_wp2_with fail
        go_round
        case rel => exact ⟨k + 1, by omega, by go_num, HN⟩
        case measure => simp [RowKit.intOf]; omega
    · obtain rfl : k = 16 := by omega
      have HV : Hid (digV c = -1) := Lib.hid (by unfold digV; rw [if_neg (by have := HA.out; omega)])
      go_wp2_with fail
      go_ret
      rw [HV.out]
      exact ⟨rfl, rfl⟩
end Go.Proofs.YtaoekpedjgnnjaaDoor.Wd
