/- The library's reader of base-16 digits at 64 bits. -/
import Derived.Test.YtoepejokkfhiaaaGreatDoorPu
namespace Go.Proofs.YtoepejokkfhiaaaGreatDoor.Nums
open Go.ChangeShapes Go.WideShapes Go.ChangeAt Go.RowKit

/-- The number, nothing (no such digits), or nothing of the size. -/
def parse16 (acc : Nat) : List UInt8 → Option (Option Nat)
  | [] => some (some acc)
  | c :: r => if 16 ≤ worth c.toNat then none else if 1152921504606846976 ≤ acc then some none else parse16 (acc * 16 + (worth c.toNat).toNat) r

def tup : Option (Option Nat) → Value
  | some (some n) => .tuple #[.int .u64 n, .nilIface]
  | none => .tuple #[.int .u64 0, .iface 118 (.int .i64 2)]
  | some none => .tuple #[.int .u64 18446744073709551615, .iface 118 (.int .i64 1)]

set_option maxHeartbeats 32000000 in
set_option maxRecDepth 100000 in
theorem parse_any (t : ByteArray) (hne : t.size ≠ 0) (hmax : t.size ≤ 9223372036854775806) (w : World) :
    Calls Tryz.prog 69 #[.string t, .int .i64 16, .int .i64 64] w fun e w' => e = .returned (tup (parse16 0 t.data.toList)) ∧ w' = Lib.bytesWorld w 5 t := by
  have hemp : t.toList.isEmpty = false := by
    rw [← decide_eq_emptyBytes]
    exact decide_eq_false (fun h => hne (by rw [h]; rfl))
  have hcv := Lib.run_convert_string_bytes (P := Tryz.prog) w 9 60 5 t (u := .string) Tryz.underlying9 Tryz.underlying60 Tryz.underlying5
  have hB : ∀ j, j < t.size → (Lib.bytesWorld w 5 t).cell? ⟨w.heap.size, j, none⟩ = some (.int .u8 (t.data.toList.getD j 0).toNat) := fun j hj => Lib.bytesWorld_cell w 5 t j hj
  obtain ⟨W1, hW1⟩ : ∃ W1, W1 = Lib.bytesWorld w 5 t := ⟨_, rfl⟩
  rw [← hW1] at hcv hB ⊢
  clear hW1
  obtain ⟨bs, hL⟩ : ∃ bs, bs = t.data.toList := ⟨_, rfl⟩
  have hLn : bs.length = t.size := by rw [hL, Lib.size_eq]
  rw [← hL] at hB ⊢
  clear hL
  have hmv : IntKind.u64.wrap (IntKind.u64.wrap 18446744073709551616 - 1) = 18446744073709551615 := by
    rw [IntKind.wrap_u64, IntKind.wrap_u64]
    decide
  go_enter Tryz.func69, Tryz.ntmps69
  go_wp2
  go_loop [12, 13, 101] (fun vu vn vi => ∃ (k acc : Nat) (a : Int), vu = .bool false ∧ vn = .int .u64 a ∧ vi = .int .i64 k ∧ k ≤ t.size ∧ Hid (a = (acc : Int) ∧ acc < 18446744073709551616 ∧ parse16 0 bs = parse16 acc (bs.drop k)))
    (fun _ _ vi => t.size - (intOf vi).toNat)
  case atStart => exact ⟨0, 0, 0, rfl, rfl, rfl, by omega, rfl, by omega, rfl⟩
  case round =>
    obtain ⟨k, acc, a, rfl, rfl, rfl, hk, hh⟩ := hrel
    obtain ⟨ha, hacc, hdec⟩ := hh.out
    clear hh
    have a0 : 0 ≤ a := by omega
    have a1 : a < 18446744073709551616 := by omega
    by_cases hkn : k < t.size
    · have hc := hB k hkn
      have hdrop : bs.drop k = bs[k]'(by omega) :: bs.drop (k + 1) := List.drop_eq_getElem_cons (by omega)
      have hget : bs.getD k 0 = bs[k]'(by omega) := by simp [List.getD, List.getElem?_eq_getElem (show k < bs.length by omega)]
      rw [hdrop] at hdec
      rw [hget] at hc
      generalize bs[k]'(by omega) = c at hc hdec
      have hc256 : c.toNat < 256 := c.toNat_lt
      clear hB hdrop hget
      obtain ⟨_, l0, l1⟩ := low_at (c.toNat : Int) (by omega) (by omega)
      have hP : parse16 acc (c :: bs.drop (k + 1)) = if 16 ≤ worth c.toNat then none else if 1152921504606846976 ≤ acc then some none else parse16 (acc * 16 + (worth c.toNat).toNat) (bs.drop (k + 1)) := rfl
      rw [hP] at hdec
      clear hP
      by_cases hdig : 48 ≤ (c.toNat : Int) ∧ (c.toNat : Int) ≤ 57
      · have hw : worth c.toNat = (c.toNat : Int) - 48 := by unfold worth; rw [if_pos hdig]
        rw [hw, if_neg (by omega)] at hdec
        obtain ⟨hd0, hd1⟩ := hdig
        by_cases hcut : 1152921504606846976 ≤ acc
        · rw [if_pos hcut] at hdec
          have icut : 1152921504606846976 ≤ a := by omega
          have HD := Lib.hid hdec
          clear hcut hacc ha hdec hw
          go_wp2
          go_ret2
          exact ⟨by rw [HD.out]; rfl, rfl⟩
        · rw [if_neg hcut] at hdec
          have icut : a < 1152921504606846976 := by omega
          have HN : Hid (a * 16 + ((c.toNat : Int) - 48) = ((acc * 16 + ((c.toNat : Int) - 48).toNat : Nat) : Int) ∧ acc * 16 + ((c.toNat : Int) - 48).toNat < 18446744073709551616 ∧ parse16 0 bs = parse16 (acc * 16 + ((c.toNat : Int) - 48).toNat) (bs.drop (k + 1))) := Lib.hid ⟨by omega, by omega, hdec⟩
          clear hcut hacc ha hdec hw
          go_wp2
          exact ⟨⟨k + 1, _, _, rfl, rfl, by go_num, by omega, HN⟩, by simp [intOf]; omega⟩
      · by_cases hlow : 97 ≤ low c.toNat ∧ low c.toNat ≤ 122
        · have hw : worth c.toNat = low c.toNat - 87 := by unfold worth; rw [if_neg hdig, if_pos hlow]
          obtain ⟨hl0, hl1⟩ := hlow
          have h95 : ((c.toNat : Int) == 95) = false := beq_eq_false_iff_ne.2 (fun h => by rw [h] at hl1; exact absurd hl1 (by decide))
          by_cases h16 : 103 ≤ low c.toNat
          · rw [hw, if_pos (by omega)] at hdec
            have HD := Lib.hid hdec
            clear hacc ha hdec hw
            go_wp2_with (go_at_call 97; refine (lower_any _ _ (by omega) (by omega)).mono ?_; rintro e w' ⟨rfl, rfl⟩)
            all_goals
              go_ret2
              exact ⟨by rw [HD.out]; rfl, rfl⟩
          · rw [hw, if_neg (by omega)] at hdec
            by_cases hcut : 1152921504606846976 ≤ acc
            · rw [if_pos hcut] at hdec
              have icut : 1152921504606846976 ≤ a := by omega
              have HD := Lib.hid hdec
              clear hcut hacc ha hdec hw
              go_wp2_with (go_at_call 97; refine (lower_any _ _ (by omega) (by omega)).mono ?_; rintro e w' ⟨rfl, rfl⟩)
              all_goals
                go_ret2
                exact ⟨by rw [HD.out]; rfl, rfl⟩
            · rw [if_neg hcut] at hdec
              have icut : a < 1152921504606846976 := by omega
              generalize hlc : low c.toNat = lc at l0 l1 hl0 hl1 h16 hdec
              have HL := Lib.hid hlc
              have HN : Hid (a * 16 + (lc - 97 + 10) = ((acc * 16 + (lc - 87).toNat : Nat) : Int) ∧ acc * 16 + (lc - 87).toNat < 18446744073709551616 ∧ parse16 0 bs = parse16 (acc * 16 + (lc - 87).toNat) (bs.drop (k + 1))) := Lib.hid ⟨by omega, by omega, hdec⟩
              clear hcut hacc ha hdec hw hlc
              go_wp2_with (go_at_call 97; refine (lower_any _ _ (by omega) (by omega)).mono ?_; rintro e w' ⟨rfl, rfl⟩; rw [HL.out])
              all_goals exact ⟨⟨k + 1, _, _, rfl, rfl, by go_num, by omega, HN⟩, by simp [intOf]; omega⟩
        · have hw : worth c.toNat = 99 := by unfold worth; rw [if_neg hdig, if_neg hlow]
          rw [hw, if_pos (by omega)] at hdec
          have HD := Lib.hid hdec
          clear hacc ha hdec hw
          go_wp2_with (go_at_call 97; refine (lower_any _ _ (by omega) (by omega)).mono ?_; rintro e w' ⟨rfl, rfl⟩)
          all_goals
            go_ret2
            exact ⟨by rw [HD.out]; rfl, rfl⟩
    · have hkk : k = t.size := by omega
      subst hkk
      have he : bs.drop t.size = [] := List.drop_eq_nil_of_le (by omega)
      rw [he] at hdec
      have HD : Hid (parse16 0 bs = some (some acc)) := hdec
      clear hdec he hB
      go_wp2
      go_ret2
      exact ⟨by rw [HD.out]; show _ = Ending.returned (.tuple #[.int .u64 (acc : Int), .nilIface]); rw [← ha]; rfl, rfl⟩
end Go.Proofs.YtoepejokkfhiaaaGreatDoor.Nums
