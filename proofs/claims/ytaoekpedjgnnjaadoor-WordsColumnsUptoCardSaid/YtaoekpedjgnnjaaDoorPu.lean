/- What a text of base-16 digits says below a limit, and the contract of the library's reader of such texts at base 16 and 32 bits. -/
import Derived.Test.YtaoekpedjgnnjaaDoorProg
import Derived.WalkKit
import Derived.ProofKit
import Derived.WalkLawsBesides
import Derived.WalkSpells
import Derived.Outline
import Derived.Lib.Hide
import Derived.Lib.Strings
import Derived.Lib.Walk
import Derived.Lib.ConvBytes
import Derived.Lib.AtoiAllMem
import Derived.Laws.Strings3
import Derived.Laws.Closers25
import Derived.Laws.Closers25b
import Derived.BigCall
import Derived.BigGuard
namespace Go.Proofs.YtaoekpedjgnnjaaDoor.Nums
open Go.ChangeShapes Go.WideShapes Go.ChangeAt Go.RowKit

/-- A byte with the bit of the small letters set. -/
def low (c : Int) : Int := ((c.toNat ||| 32 : Nat) : Int)
theorem low0 : ∀ k : Fin 256, bits .or .u8 (k.val : Int) 32 = low k.val ∧ 0 ≤ low k.val ∧ low k.val ≤ 255 := by decide +kernel
theorem low_at (c : Int) (h0 : 0 ≤ c) (h1 : c ≤ 255) : bits .or .u8 c 32 = low c ∧ 0 ≤ low c ∧ low c ≤ 255 := by
  have := low0 ⟨c.toNat, by omega⟩
  have e : ((c.toNat : Nat) : Int) = c := by omega
  simp only [e] at this
  exact this
/-- What a byte is worth as a digit of a base up to 36; 99: it is none. -/
def worth (c : Int) : Int := if 48 ≤ c ∧ c ≤ 57 then c - 48 else if 97 ≤ low c ∧ low c ≤ 122 then low c - 87 else 99
theorem worth_nn (c : Int) (_ : 0 ≤ c) : 0 ≤ worth c := by unfold worth; split <;> (try split) <;> omega
/-- The number that base-16 digits are behind acc, if they are digits and it is at most M. -/
def parseM (M acc : Nat) : List UInt8 → Option Nat
  | [] => some acc
  | c :: r => if 16 ≤ worth c.toNat then none else if M < acc * 16 + (worth c.toNat).toNat then none else parseM M (acc * 16 + (worth c.toNat).toNat) r
/-- What is answered: the number, or some error. -/
def Pu : Option Nat → Ending → Prop
  | some n, e => e = .returned (.tuple #[.int .u64 n, .nilIface])
  | none, e => ∃ (m : Int) (t : TypeId) (v : Value), e = .returned (.tuple #[.int .u64 m, .iface t v])

theorem lower_any (c : Int) (w : World) (h0 : 0 ≤ c) (h1 : c ≤ 255) :
    Calls Tryd.prog 95 #[.int .u8 c] w fun e w' => e = .returned (.int .u8 (low c)) ∧ w = w' := by
  obtain ⟨hl, _, _⟩ := low_at c h0 h1
  have HL := Lib.hid hl
  clear hl
  go_enter Tryd.func95, Tryd.ntmps95
  go_wp2
  go_ret
  exact ⟨by rw [← HL.out]; rfl, rfl⟩


set_option maxHeartbeats 32000000 in
set_option maxRecDepth 100000 in
theorem parse32_any (t : ByteArray) (hne : t.size ≠ 0) (hmax : t.size ≤ 9223372036854775806) (w : World) :
    Calls Tryd.prog 90 #[.string t, .int .i64 16, .int .i64 32] w fun e w' => Pu (parseM 4294967295 0 t.data.toList) e ∧ Below w.heap.size w w' := by
  have hemp : t.toList.isEmpty = false := by
    rw [← decide_eq_emptyBytes]
    exact decide_eq_false (fun h => hne (by rw [h]; rfl))
  have hcv := Lib.run_convert_string_bytes (P := Tryd.prog) w 9 39 5 t (u := .string) Tryd.underlying9 Tryd.underlying39 Tryd.underlying5
  have hB : ∀ j, j < t.size → (Lib.bytesWorld w 5 t).cell? ⟨w.heap.size, j, none⟩ = some (.int .u8 (t.data.toList.getD j 0).toNat) := fun j hj => Lib.bytesWorld_cell w 5 t j hj
  have hbel : Below w.heap.size w (Lib.bytesWorld w 5 t) := ⟨rfl, rfl, rfl, by rw [Lib.bytesWorld_size]; omega, fun i hi => Lib.bytesWorld_at_old w 5 t i hi⟩
  obtain ⟨W1, hW1⟩ : ∃ W1, W1 = Lib.bytesWorld w 5 t := ⟨_, rfl⟩
  rw [← hW1] at hcv hB hbel
  clear hW1
  have HBE := Lib.hid hbel
  clear hbel
  obtain ⟨bs, hL⟩ : ∃ bs, bs = t.data.toList := ⟨_, rfl⟩
  have hLn : bs.length = t.size := by rw [hL, Lib.size_eq]
  rw [← hL] at hB ⊢
  clear hL
  have hmv : IntKind.u64.wrap (IntKind.u64.wrap 4294967296 - 1) = 4294967295 := by
    rw [IntKind.wrap_u64, IntKind.wrap_u64]
    decide
  go_enter Tryd.func90, Tryd.ntmps90
  go_wp2
  go_loop [12, 13, 101] (fun vu vn vi => ∃ (k acc : Nat) (a : Int), vu = .bool false ∧ vn = .int .u64 a ∧ vi = .int .i64 k ∧ k ≤ t.size ∧ Hid (a = (acc : Int) ∧ acc ≤ 4294967295 ∧ parseM 4294967295 0 bs = parseM 4294967295 acc (bs.drop k)))
    (fun _ _ vi => t.size - (intOf vi).toNat)
  case atStart => exact ⟨0, 0, 0, rfl, rfl, rfl, by omega, rfl, by omega, rfl⟩
  case round =>
    obtain ⟨k, acc, a, rfl, rfl, rfl, hk, hh⟩ := hrel
    obtain ⟨ha, hacc, hdec⟩ := hh.out
    clear hh
    have a0 : 0 ≤ a := by omega
    have a1 : a ≤ 4294967295 := by omega
    by_cases hkn : k < t.size
    · have hc := hB k hkn
      have hdrop : bs.drop k = bs[k]'(by omega) :: bs.drop (k + 1) := List.drop_eq_getElem_cons (by omega)
      have hget : bs.getD k 0 = bs[k]'(by omega) := by simp [List.getD, List.getElem?_eq_getElem (show k < bs.length by omega)]
      rw [hdrop] at hdec
      rw [hget] at hc
      generalize bs[k]'(by omega) = c at hc hdec
      have hc256 : c.toNat < 256 := c.toNat_lt
      clear hB hdrop hget
      obtain ⟨_, l0, l1⟩ := low_at (c.toNat : Int) (by omega) (by omega)
      have hP : parseM 4294967295 acc (c :: bs.drop (k + 1)) = if 16 ≤ worth c.toNat then none else if 4294967295 < acc * 16 + (worth c.toNat).toNat then none else parseM 4294967295 (acc * 16 + (worth c.toNat).toNat) (bs.drop (k + 1)) := rfl
      rw [hP] at hdec
      clear hP
      by_cases hdig : 48 ≤ (c.toNat : Int) ∧ (c.toNat : Int) ≤ 57
      · have hw : worth c.toNat = (c.toNat : Int) - 48 := by unfold worth; rw [if_pos hdig]
        rw [hw, if_neg (by omega)] at hdec
        obtain ⟨hd0, hd1⟩ := hdig
        by_cases hcut : 4294967295 < acc * 16 + ((c.toNat : Int) - 48).toNat
        · rw [if_pos hcut] at hdec
          have icut : 4294967295 < a * 16 + ((c.toNat : Int) - 48) := by omega
          have HD := Lib.hid hdec
          clear hcut hacc ha hdec hw
          go_wp2
          go_ret2
          exact ⟨by rw [HD.out]; exact ⟨_, _, _, rfl⟩, HBE.out⟩
        · rw [if_neg hcut] at hdec
          have icut : a * 16 + ((c.toNat : Int) - 48) ≤ 4294967295 := by omega
          have HN : Hid (a * 16 + ((c.toNat : Int) - 48) = ((acc * 16 + ((c.toNat : Int) - 48).toNat : Nat) : Int) ∧ acc * 16 + ((c.toNat : Int) - 48).toNat ≤ 4294967295 ∧ parseM 4294967295 0 bs = parseM 4294967295 (acc * 16 + ((c.toNat : Int) - 48).toNat) (bs.drop (k + 1))) := Lib.hid ⟨by omega, by omega, hdec⟩
          clear hcut hacc ha hdec hw
          go_wp2
          exact ⟨⟨k + 1, _, _, rfl, rfl, by go_num, by omega, HN⟩, by simp [intOf]; omega⟩
      · by_cases hlow : 97 ≤ low c.toNat ∧ low c.toNat ≤ 122
        · have hw : worth c.toNat = low c.toNat - 87 := by unfold worth; rw [if_neg hdig, if_pos hlow]
          obtain ⟨hl0, hl1⟩ := hlow
          have h95 : ((c.toNat : Int) == 95) = false := beq_eq_false_iff_ne.2 (fun h => by rw [h] at hl1; exact absurd hl1 (by decide))
          by_cases h16 : 103 ≤ low c.toNat
          · rw [hw, if_pos (by omega)] at hdec
            have HD := Lib.hid hdec
            clear hacc ha hdec hw
            go_wp2_with (go_at_call 95; refine (lower_any _ _ (by omega) (by omega)).mono ?_; rintro e w' ⟨rfl, rfl⟩)
            all_goals
              go_ret2
              exact ⟨by rw [HD.out]; exact ⟨_, _, _, rfl⟩, HBE.out⟩
          · rw [hw, if_neg (by omega)] at hdec
            by_cases hcut : 4294967295 < acc * 16 + (low c.toNat - 87).toNat
            · rw [if_pos hcut] at hdec
              have icut : 4294967295 < a * 16 + (low c.toNat - 97 + 10) := by omega
              have HD := Lib.hid hdec
              clear hcut hacc ha hdec hw
              go_wp2_with (go_at_call 95; refine (lower_any _ _ (by omega) (by omega)).mono ?_; rintro e w' ⟨rfl, rfl⟩)
              all_goals
                go_ret2
                exact ⟨by rw [HD.out]; exact ⟨_, _, _, rfl⟩, HBE.out⟩
            · rw [if_neg hcut] at hdec
              have icut : a * 16 + (low c.toNat - 97 + 10) ≤ 4294967295 := by omega
              generalize hlc : low c.toNat = lc at l0 l1 hl0 hl1 h16 hdec icut hcut
              have HL := Lib.hid hlc
              have HN : Hid (a * 16 + (lc - 97 + 10) = ((acc * 16 + (lc - 87).toNat : Nat) : Int) ∧ acc * 16 + (lc - 87).toNat ≤ 4294967295 ∧ parseM 4294967295 0 bs = parseM 4294967295 (acc * 16 + (lc - 87).toNat) (bs.drop (k + 1))) := Lib.hid ⟨by omega, by omega, hdec⟩
              clear hcut hacc ha hdec hw hlc
              go_wp2_with (go_at_call 95; refine (lower_any _ _ (by omega) (by omega)).mono ?_; rintro e w' ⟨rfl, rfl⟩; rw [HL.out])
              all_goals exact ⟨⟨k + 1, _, _, rfl, rfl, by go_num, by omega, HN⟩, by simp [intOf]; omega⟩
        · have hw : worth c.toNat = 99 := by unfold worth; rw [if_neg hdig, if_neg hlow]
          rw [hw, if_pos (by omega)] at hdec
          have HD := Lib.hid hdec
          clear hacc ha hdec hw
          go_wp2_with (go_at_call 95; refine (lower_any _ _ (by omega) (by omega)).mono ?_; rintro e w' ⟨rfl, rfl⟩)
          all_goals
            go_ret2
            exact ⟨by rw [HD.out]; exact ⟨_, _, _, rfl⟩, HBE.out⟩
    · have hkk : k = t.size := by omega
      subst hkk
      have he : bs.drop t.size = [] := List.drop_eq_nil_of_le (by omega)
      rw [he] at hdec
      have HD : Hid (parseM 4294967295 0 bs = some acc) := hdec
      clear hdec he hB
      go_wp2
      go_ret2
      exact ⟨by rw [HD.out]; show _ = Ending.returned (.tuple #[.int .u64 (acc : Int), .nilIface]); rw [← ha]; rfl, HBE.out⟩

theorem parseUint32_ok (t : ByteArray) (hne : t.size ≠ 0) (hmax : t.size ≤ 9223372036854775806) (w : World) (n : Nat) (hn : parseM 4294967295 0 t.data.toList = some n) :
    Calls Tryd.prog 79 #[.string t, .int .i64 16, .int .i64 32] w fun e w' => e = .returned (.tuple #[.int .u64 n, .nilIface]) ∧ Below w.heap.size w w' := by
  have HN := Lib.hid hn
  clear hn
  go_enter Tryd.func79, Tryd.ntmps79
  go_wp2_with fail
  refine (parse32_any t hne hmax _).mono ?_
  rw [HN.out]
  rintro e w1 ⟨he, hb⟩
  obtain rfl : e = .returned (.tuple #[.int .u64 n, .nilIface]) := he
  have HB := Lib.hid hb
  clear hb
  go_wp2_with fail
  go_ret2
  exact ⟨rfl, HB.out⟩
end Go.Proofs.YtaoekpedjgnnjaaDoor.Nums
