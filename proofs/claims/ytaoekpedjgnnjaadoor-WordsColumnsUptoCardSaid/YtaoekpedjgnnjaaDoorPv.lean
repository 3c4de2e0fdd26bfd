/- The library's reader of base-16 digits at 32 and at 8 bits, each answer told; the public one. -/
import Derived.Test.YtaoekpedjgnnjaaDoorPu
import Derived.Test.YtaoekpedjgnnjaaDoorShelf
import Derived.WalkSmall
namespace Go.Proofs.YtaoekpedjgnnjaaDoor.Nums
open Go.ChangeShapes Go.WideShapes Go.ChangeAt Go.RowKit

/-- What base-16 digits say behind acc: nothing (no digit), too much (none), a number. -/
def parse3 (M acc : Nat) : List UInt8 → Option (Option Nat)
  | [] => some (some acc)
  | c :: r => if 16 ≤ worth c.toNat then none else if M < acc * 16 + (worth c.toNat).toNat then some none else parse3 M (acc * 16 + (worth c.toNat).toNat) r
theorem parse3_M (M : Nat) : ∀ (l : List UInt8) (acc : Nat), parseM M acc l = (parse3 M acc l).bind id
  | [], _ => rfl
  | c :: r, acc => by
    unfold parseM parse3
    split
    · rfl
    · split
      · rfl
      · exact parse3_M M r _
def tupM (M : Nat) : Option (Option Nat) → Value
  | some (some n) => .tuple #[.int .u64 n, .nilIface]
  | none => .tuple #[.int .u64 0, .iface 114 (.int .i64 2)]
  | some none => .tuple #[.int .u64 M, .iface 114 (.int .i64 1)]

set_option maxHeartbeats 32000000 in
set_option maxRecDepth 100000 in
theorem parse3_32_any (t : ByteArray) (hne : t.size ≠ 0) (hmax : t.size ≤ 9223372036854775806) (w : World) :
    Calls Tryd.prog 90 #[.string t, .int .i64 16, .int .i64 32] w fun e w' => e = .returned (tupM 4294967295 (parse3 4294967295 0 t.data.toList)) ∧ Below w.heap.size w w' := by
  have hemp : t.toList.isEmpty = false := by
    rw [← decide_eq_emptyBytes]
    exact decide_eq_false (fun h => hne (by rw [h]; rfl))
  have hcv := Lib.run_convert_string_bytes (P := Tryd.prog) w 9 39 5 t (u := .string) Tryd.underlying9 Tryd.underlying39 Tryd.underlying5
  have hB : ∀ j, j < t.size → (Lib.bytesWorld w 5 t).cell? ⟨w.heap.size, j, none⟩ = some (.int .u8 (t.data.toList.getD j 0).toNat) := fun j hj => Lib.bytesWorld_cell w 5 t j hj
  have hbel : Below w.heap.size w (Lib.bytesWorld w 5 t) := ⟨rfl, rfl, rfl, by rw [Lib.bytesWorld_size]; omega, fun i hi => Lib.bytesWorld_at_old w 5 t i hi⟩
  obtain ⟨W1, hW1⟩ : ∃ W1, W1 = Lib.bytesWorld w 5 t := ⟨_, rfl⟩
  rw [← hW1] at hcv hB hbel
  clear hW1
  have HBE := Lib.hid hbel
  clear hbel
  obtain ⟨bs, hL⟩ : ∃ bs, bs = t.data.toList := ⟨_, rfl⟩
  have hLn : bs.length = t.size := by rw [hL, Lib.size_eq]
  rw [← hL] at hB ⊢
  clear hL
  have hmv : IntKind.u64.wrap (IntKind.u64.wrap 4294967296 - 1) = 4294967295 := by
    rw [IntKind.wrap_u64, IntKind.wrap_u64]
    decide
  go_enter Tryd.func90, Tryd.ntmps90
  go_wp2
  go_loop [12, 13, 101] (fun vu vn vi => ∃ (k acc : Nat) (a : Int), vu = .bool false ∧ vn = .int .u64 a ∧ vi = .int .i64 k ∧ k ≤ t.size ∧ Hid (a = (acc : Int) ∧ acc ≤ 4294967295 ∧ parse3 4294967295 0 bs = parse3 4294967295 acc (bs.drop k)))
    (fun _ _ vi => t.size - (intOf vi).toNat)
  case atStart => exact ⟨0, 0, 0, rfl, rfl, rfl, by omega, rfl, by omega, rfl⟩
  case round =>
    obtain ⟨k, acc, a, rfl, rfl, rfl, hk, hh⟩ := hrel
    obtain ⟨ha, hacc, hdec⟩ := hh.out
    clear hh
    have a0 : 0 ≤ a := by omega
    have a1 : a ≤ 4294967295 := by omega
    by_cases hkn : k < t.size
    · have hc := hB k hkn
      have hdrop : bs.drop k = bs[k]'(by omega) :: bs.drop (k + 1) := List.drop_eq_getElem_cons (by omega)
      have hget : bs.getD k 0 = bs[k]'(by omega) := by simp [List.getD, List.getElem?_eq_getElem (show k < bs.length by omega)]
      rw [hdrop] at hdec
      rw [hget] at hc
      generalize bs[k]'(by omega) = c at hc hdec
      have hc256 : c.toNat < 256 := c.toNat_lt
      clear hB hdrop hget
      obtain ⟨_, l0, l1⟩ := low_at (c.toNat : Int) (by omega) (by omega)
      have hP : parse3 4294967295 acc (c :: bs.drop (k + 1)) = if 16 ≤ worth c.toNat then none else if 4294967295 < acc * 16 + (worth c.toNat).toNat then some none else parse3 4294967295 (acc * 16 + (worth c.toNat).toNat) (bs.drop (k + 1)) := rfl
      rw [hP] at hdec
      clear hP
      by_cases hdig : 48 ≤ (c.toNat : Int) ∧ (c.toNat : Int) ≤ 57
      · have hw : worth c.toNat = (c.toNat : Int) - 48 := by unfold worth; rw [if_pos hdig]
        rw [hw, if_neg (by omega)] at hdec
        obtain ⟨hd0, hd1⟩ := hdig
        by_cases hcut : 4294967295 < acc * 16 + ((c.toNat : Int) - 48).toNat
        · rw [if_pos hcut] at hdec
          have icut : 4294967295 < a * 16 + ((c.toNat : Int) - 48) := by omega
          have HD := Lib.hid hdec
          clear hcut hacc ha hdec hw
          go_wp2
          go_ret2
          exact ⟨by rw [HD.out]; rfl, HBE.out⟩
        · rw [if_neg hcut] at hdec
          have icut : a * 16 + ((c.toNat : Int) - 48) ≤ 4294967295 := by omega
          have HN : Hid (a * 16 + ((c.toNat : Int) - 48) = ((acc * 16 + ((c.toNat : Int) - 48).toNat : Nat) : Int) ∧ acc * 16 + ((c.toNat : Int) - 48).toNat ≤ 4294967295 ∧ parse3 4294967295 0 bs = parse3 4294967295 (acc * 16 + ((c.toNat : Int) - 48).toNat) (bs.drop (k + 1))) := Lib.hid ⟨by omega, by omega, hdec⟩
          clear hcut hacc ha hdec hw
          go_wp2
          exact ⟨⟨k + 1, _, _, rfl, rfl, by go_num, by omega, HN⟩, by simp [intOf]; omega⟩
      · by_cases hlow : 97 ≤ low c.toNat ∧ low c.toNat ≤ 122
        · have hw : worth c.toNat = low c.toNat - 87 := by unfold worth; rw [if_neg hdig, if_pos hlow]
          obtain ⟨hl0, hl1⟩ := hlow
          have h95 : ((c.toNat : Int) == 95) = false := beq_eq_false_iff_ne.2 (fun h => by rw [h] at hl1; exact absurd hl1 (by decide))
          by_cases h16 : 103 ≤ low c.toNat
          · rw [hw, if_pos (by omega)] at hdec
            have HD := Lib.hid hdec
            clear hacc ha hdec hw
            go_wp2_with (go_at_call 95; refine (lower_any _ _ (by omega) (by omega)).mono ?_; rintro e w' ⟨rfl, rfl⟩)
            all_goals
              go_ret2
              exact ⟨by rw [HD.out]; rfl, HBE.out⟩
          · rw [hw, if_neg (by omega)] at hdec
            by_cases hcut : 4294967295 < acc * 16 + (low c.toNat - 87).toNat
            · rw [if_pos hcut] at hdec
              have icut : 4294967295 < a * 16 + (low c.toNat - 97 + 10) := by omega
              have HD := Lib.hid hdec
              clear hcut hacc ha hdec hw
              go_wp2_with (go_at_call 95; refine (lower_any _ _ (by omega) (by omega)).mono ?_; rintro e w' ⟨rfl, rfl⟩)
              all_goals
                go_ret2
                exact ⟨by rw [HD.out]; rfl, HBE.out⟩
            · rw [if_neg hcut] at hdec
              have icut : a * 16 + (low c.toNat - 97 + 10) ≤ 4294967295 := by omega
              generalize hlc : low c.toNat = lc at l0 l1 hl0 hl1 h16 hdec icut hcut
              have HL := Lib.hid hlc
              have HN : Hid (a * 16 + (lc - 97 + 10) = ((acc * 16 + (lc - 87).toNat : Nat) : Int) ∧ acc * 16 + (lc - 87).toNat ≤ 4294967295 ∧ parse3 4294967295 0 bs = parse3 4294967295 (acc * 16 + (lc - 87).toNat) (bs.drop (k + 1))) := Lib.hid ⟨by omega, by omega, hdec⟩
              clear hcut hacc ha hdec hw hlc
              go_wp2_with (go_at_call 95; refine (lower_any _ _ (by omega) (by omega)).mono ?_; rintro e w' ⟨rfl, rfl⟩; rw [HL.out])
              all_goals exact ⟨⟨k + 1, _, _, rfl, rfl, by go_num, by omega, HN⟩, by simp [intOf]; omega⟩
        · have hw : worth c.toNat = 99 := by unfold worth; rw [if_neg hdig, if_neg hlow]
          rw [hw, if_pos (by omega)] at hdec
          have HD := Lib.hid hdec
          clear hacc ha hdec hw
          go_wp2_with (go_at_call 95; refine (lower_any _ _ (by omega) (by omega)).mono ?_; rintro e w' ⟨rfl, rfl⟩)
          all_goals
            go_ret2
            exact ⟨by rw [HD.out]; rfl, HBE.out⟩
    · have hkk : k = t.size := by omega
      subst hkk
      have he : bs.drop t.size = [] := List.drop_eq_nil_of_le (by omega)
      rw [he] at hdec
      have HD : Hid (parse3 4294967295 0 bs = some (some acc)) := hdec
      clear hdec he hB
      go_wp2
      go_ret2
      exact ⟨by rw [HD.out]; show _ = Ending.returned (.tuple #[.int .u64 (acc : Int), .nilIface]); rw [← ha]; rfl, HBE.out⟩

set_option maxHeartbeats 32000000 in
set_option maxRecDepth 100000 in
theorem parse3_8_any (t : ByteArray) (hne : t.size ≠ 0) (hmax : t.size ≤ 9223372036854775806) (w : World) :
    Calls Tryd.prog 90 #[.string t, .int .i64 16, .int .i64 8] w fun e w' => e = .returned (tupM 255 (parse3 255 0 t.data.toList)) ∧ Below w.heap.size w w' := by
  have hemp : t.toList.isEmpty = false := by
    rw [← decide_eq_emptyBytes]
    exact decide_eq_false (fun h => hne (by rw [h]; rfl))
  have hcv := Lib.run_convert_string_bytes (P := Tryd.prog) w 9 39 5 t (u := .string) Tryd.underlying9 Tryd.underlying39 Tryd.underlying5
  have hB : ∀ j, j < t.size → (Lib.bytesWorld w 5 t).cell? ⟨w.heap.size, j, none⟩ = some (.int .u8 (t.data.toList.getD j 0).toNat) := fun j hj => Lib.bytesWorld_cell w 5 t j hj
  have hbel : Below w.heap.size w (Lib.bytesWorld w 5 t) := ⟨rfl, rfl, rfl, by rw [Lib.bytesWorld_size]; omega, fun i hi => Lib.bytesWorld_at_old w 5 t i hi⟩
  obtain ⟨W1, hW1⟩ : ∃ W1, W1 = Lib.bytesWorld w 5 t := ⟨_, rfl⟩
  rw [← hW1] at hcv hB hbel
  clear hW1
  have HBE := Lib.hid hbel
  clear hbel
  obtain ⟨bs, hL⟩ : ∃ bs, bs = t.data.toList := ⟨_, rfl⟩
  have hLn : bs.length = t.size := by rw [hL, Lib.size_eq]
  rw [← hL] at hB ⊢
  clear hL
  have hmv : IntKind.u64.wrap (IntKind.u64.wrap 256 - 1) = 255 := by
    rw [IntKind.wrap_u64, IntKind.wrap_u64]
    decide
  go_enter Tryd.func90, Tryd.ntmps90
  go_wp2
  go_loop [12, 13, 101] (fun vu vn vi => ∃ (k acc : Nat) (a : Int), vu = .bool false ∧ vn = .int .u64 a ∧ vi = .int .i64 k ∧ k ≤ t.size ∧ Hid (a = (acc : Int) ∧ acc ≤ 255 ∧ parse3 255 0 bs = parse3 255 acc (bs.drop k)))
    (fun _ _ vi => t.size - (intOf vi).toNat)
  case atStart => exact ⟨0, 0, 0, rfl, rfl, rfl, by omega, rfl, by omega, rfl⟩
  case round =>
    obtain ⟨k, acc, a, rfl, rfl, rfl, hk, hh⟩ := hrel
    obtain ⟨ha, hacc, hdec⟩ := hh.out
    clear hh
    have a0 : 0 ≤ a := by omega
    have a1 : a ≤ 255 := by omega
    by_cases hkn : k < t.size
    · have hc := hB k hkn
      have hdrop : bs.drop k = bs[k]'(by omega) :: bs.drop (k + 1) := List.drop_eq_getElem_cons (by omega)
      have hget : bs.getD k 0 = bs[k]'(by omega) := by simp [List.getD, List.getElem?_eq_getElem (show k < bs.length by omega)]
      rw [hdrop] at hdec
      rw [hget] at hc
      generalize bs[k]'(by omega) = c at hc hdec
      have hc256 : c.toNat < 256 := c.toNat_lt
      clear hB hdrop hget
      obtain ⟨_, l0, l1⟩ := low_at (c.toNat : Int) (by omega) (by omega)
      have hP : parse3 255 acc (c :: bs.drop (k + 1)) = if 16 ≤ worth c.toNat then none else if 255 < acc * 16 + (worth c.toNat).toNat then some none else parse3 255 (acc * 16 + (worth c.toNat).toNat) (bs.drop (k + 1)) := rfl
      rw [hP] at hdec
      clear hP
      by_cases hdig : 48 ≤ (c.toNat : Int) ∧ (c.toNat : Int) ≤ 57
      · have hw : worth c.toNat = (c.toNat : Int) - 48 := by unfold worth; rw [if_pos hdig]
        rw [hw, if_neg (by omega)] at hdec
        obtain ⟨hd0, hd1⟩ := hdig
        by_cases hcut : 255 < acc * 16 + ((c.toNat : Int) - 48).toNat
        · rw [if_pos hcut] at hdec
          have icut : 255 < a * 16 + ((c.toNat : Int) - 48) := by omega
          have HD := Lib.hid hdec
          clear hcut hacc ha hdec hw
          go_wp2
          go_ret2
          exact ⟨by rw [HD.out]; rfl, HBE.out⟩
        · rw [if_neg hcut] at hdec
          have icut : a * 16 + ((c.toNat : Int) - 48) ≤ 255 := by omega
          have HN : Hid (a * 16 + ((c.toNat : Int) - 48) = ((acc * 16 + ((c.toNat : Int) - 48).toNat : Nat) : Int) ∧ acc * 16 + ((c.toNat : Int) - 48).toNat ≤ 255 ∧ parse3 255 0 bs = parse3 255 (acc * 16 + ((c.toNat : Int) - 48).toNat) (bs.drop (k + 1))) := Lib.hid ⟨by omega, by omega, hdec⟩
          clear hcut hacc ha hdec hw
          go_wp2
          exact ⟨⟨k + 1, _, _, rfl, rfl, by go_num, by omega, HN⟩, by simp [intOf]; omega⟩
      · by_cases hlow : 97 ≤ low c.toNat ∧ low c.toNat ≤ 122
        · have hw : worth c.toNat = low c.toNat - 87 := by unfold worth; rw [if_neg hdig, if_pos hlow]
          obtain ⟨hl0, hl1⟩ := hlow
          have h95 : ((c.toNat : Int) == 95) = false := beq_eq_false_iff_ne.2 (fun h => by rw [h] at hl1; exact absurd hl1 (by decide))
          by_cases h16 : 103 ≤ low c.toNat
          · rw [hw, if_pos (by omega)] at hdec
            have HD := Lib.hid hdec
            clear hacc ha hdec hw
            go_wp2_with (go_at_call 95; refine (lower_any _ _ (by omega) (by omega)).mono ?_; rintro e w' ⟨rfl, rfl⟩)
            all_goals
              go_ret2
              exact ⟨by rw [HD.out]; rfl, HBE.out⟩
          · rw [hw, if_neg (by omega)] at hdec
            by_cases hcut : 255 < acc * 16 + (low c.toNat - 87).toNat
            · rw [if_pos hcut] at hdec
              have icut : 255 < a * 16 + (low c.toNat - 97 + 10) := by omega
              have HD := Lib.hid hdec
              clear hcut hacc ha hdec hw
              go_wp2_with (go_at_call 95; refine (lower_any _ _ (by omega) (by omega)).mono ?_; rintro e w' ⟨rfl, rfl⟩)
              all_goals
                go_ret2
                exact ⟨by rw [HD.out]; rfl, HBE.out⟩
            · rw [if_neg hcut] at hdec
              have icut : a * 16 + (low c.toNat - 97 + 10) ≤ 255 := by omega
              generalize hlc : low c.toNat = lc at l0 l1 hl0 hl1 h16 hdec icut hcut
              have HL := Lib.hid hlc
              have HN : Hid (a * 16 + (lc - 97 + 10) = ((acc * 16 + (lc - 87).toNat : Nat) : Int) ∧ acc * 16 + (lc - 87).toNat ≤ 255 ∧ parse3 255 0 bs = parse3 255 (acc * 16 + (lc - 87).toNat) (bs.drop (k + 1))) := Lib.hid ⟨by omega, by omega, hdec⟩
              clear hcut hacc ha hdec hw hlc
              go_wp2_with (go_at_call 95; refine (lower_any _ _ (by omega) (by omega)).mono ?_; rintro e w' ⟨rfl, rfl⟩; rw [HL.out])
              all_goals exact ⟨⟨k + 1, _, _, rfl, rfl, by go_num, by omega, HN⟩, by simp [intOf]; omega⟩
        · have hw : worth c.toNat = 99 := by unfold worth; rw [if_neg hdig, if_neg hlow]
          rw [hw, if_pos (by omega)] at hdec
          have HD := Lib.hid hdec
          clear hacc ha hdec hw
          go_wp2_with (go_at_call 95; refine (lower_any _ _ (by omega) (by omega)).mono ?_; rintro e w' ⟨rfl, rfl⟩)
          all_goals
            go_ret2
            exact ⟨by rw [HD.out]; rfl, HBE.out⟩
    · have hkk : k = t.size := by omega
      subst hkk
      have he : bs.drop t.size = [] := List.drop_eq_nil_of_le (by omega)
      rw [he] at hdec
      have HD : Hid (parse3 255 0 bs = some (some acc)) := hdec
      clear hdec he hB
      go_wp2
      go_ret2
      exact ⟨by rw [HD.out]; show _ = Ending.returned (.tuple #[.int .u64 (acc : Int), .nilIface]); rw [← ha]; rfl, HBE.out⟩


/-- What a text says to the base 16, at most M. -/
def readM (M : Nat) (t : List UInt8) : Option (Option Nat) := if t = [] then none else parse3 M 0 t
/-- An error of the reader's. -/
def IsErr (v : Value) : Prop := ∃ N, v = .iface 116 (.pointer (some ⟨N, 0, none⟩))
def GotM (n : Nat) (w : World) (e : Ending) (w' : World) : Prop := e = .returned (.tuple #[.int .u64 n, .nilIface]) ∧ Below w.heap.size w w'
def FellM (w : World) (e : Ending) (w' : World) : Prop := ∃ (n : Nat) (v : Value), IsErr v ∧ e = .returned (.tuple #[.int .u64 n, v]) ∧ Below w.heap.size w w'
/-- What stands in the variables that the errors read. -/
structure Errs (w : World) : Prop where
  syn : ∃ te pe, w.cell? ⟨3, 0, none⟩ = some (.iface te pe)
  rng : ∃ te pe, w.cell? ⟨4, 0, none⟩ = some (.iface te pe)
theorem Errs.below {w w' : World} (h : Errs w) (hb : Below w.heap.size w w') : Errs w' := by
  obtain ⟨te, pe, h1⟩ := h.syn
  obtain ⟨te2, pe2, h2⟩ := h.rng
  refine ⟨⟨te, pe, ?_⟩, ⟨te2, pe2, ?_⟩⟩
  · rw [hb.cell (World.block_lt_of_cell? _ _ h1)]; exact h1
  · rw [hb.cell (World.block_lt_of_cell? _ _ h2)]; exact h2

set_option maxRecDepth 100000 in
theorem parse_calls32 (t : ByteArray) (hmax : t.size ≤ 281474976710656) (w : World) :
    Calls Tryd.prog 90 #[.string t, .int .i64 16, .int .i64 32] w fun e w' => e = .returned (tupM 4294967295 (readM 4294967295 t.data.toList)) ∧ Below w.heap.size w w' := by
  by_cases h : t.size = 0
  · have ht : t = ⟨#[]⟩ := by
      have := Lib.size_eq t
      rw [h] at this
      have h2 : t.data.toList = [] := List.eq_nil_of_length_eq_zero this.symm
      obtain ⟨⟨l⟩⟩ := t
      simp at h2
      rw [h2]
    subst ht
    go_enter Tryd.func90, Tryd.ntmps90
    go_wp2
    go_ret2
    exact ⟨rfl, Below.refl _ _⟩
  · refine (parse3_32_any t h (by omega) w).mono ?_
    rintro e w' ⟨rfl, hb⟩
    have hr : readM 4294967295 t.data.toList = parse3 4294967295 0 t.data.toList := by
      unfold readM
      rw [if_neg (by intro h2; have := Lib.size_eq t; rw [h2] at this; exact h this)]
    exact ⟨by rw [hr], hb⟩
set_option maxHeartbeats 400000 in
theorem uint32_ok (t : ByteArray) (hmax : t.size ≤ 281474976710656) (n : Nat) (h : readM 4294967295 t.data.toList = some (some n)) (w : World) :
    Calls Tryd.prog 79 #[.string t, .int .i64 16, .int .i64 32] w (GotM n w) := by
  have HN := Lib.hid h
  clear h
  go_enter Tryd.func79, Tryd.ntmps79
  go_wp2_with fail
  refine (parse_calls32 t hmax w).mono ?_
  rw [HN.out]
  unfold tupM
  rintro e w1 ⟨rfl, hb1⟩
  have HB := Lib.hid hb1
  clear hb1
  go_wp2_with fail
  go_ret2
  exact ⟨rfl, HB.out⟩
set_option maxHeartbeats 400000 in
theorem uint32_bad (t : ByteArray) (hmax : t.size ≤ 281474976710656) (h : readM 4294967295 t.data.toList = none) (w : World) (hv : Errs w) :
    Calls Tryd.prog 79 #[.string t, .int .i64 16, .int .i64 32] w (FellM w) := by
  have HN := Lib.hid h
  have HV := Lib.hid hv
  clear h hv
  go_enter Tryd.func79, Tryd.ntmps79
  go_wp2_with fail
  refine (parse_calls32 t hmax w).mono ?_
  rw [HN.out]
  unfold tupM
  rintro e w1 ⟨rfl, hb1⟩
  have HB := Lib.hid hb1
  clear hb1
  obtain ⟨te, pe, hc⟩ := (HV.out.below HB.out).syn
  have HC := Lib.hid hc
  clear hc
  go_wp2_with fail
  refine (Tryd.strconv_toError_syntax _ t _ _ (.iface te pe) w1 hmax HC.out (.inr ⟨te, pe, rfl⟩)).mono ?_
  rintro e w2 ⟨N, rfl, hN, hcell, hb2⟩
  have HB2 := Lib.hid hb2
  clear hb2 hcell hN
  go_wp2_with fail
  go_ret2
  exact ⟨0, _, ⟨N, rfl⟩, rfl, HB.out.trans (HB2.out.mono HB.out.size)⟩
set_option maxHeartbeats 400000 in
theorem uint32_range (t : ByteArray) (hmax : t.size ≤ 281474976710656) (h : readM 4294967295 t.data.toList = some none) (w : World) (hv : Errs w) :
    Calls Tryd.prog 79 #[.string t, .int .i64 16, .int .i64 32] w (FellM w) := by
  have HN := Lib.hid h
  have HV := Lib.hid hv
  clear h hv
  go_enter Tryd.func79, Tryd.ntmps79
  go_wp2_with fail
  refine (parse_calls32 t hmax w).mono ?_
  rw [HN.out]
  unfold tupM
  rintro e w1 ⟨rfl, hb1⟩
  have HB := Lib.hid hb1
  clear hb1
  obtain ⟨te, pe, hc⟩ := (HV.out.below HB.out).rng
  have HC := Lib.hid hc
  clear hc
  go_wp2_with fail
  refine (Tryd.strconv_toError_range _ t _ _ (.iface te pe) w1 hmax HC.out (.inr ⟨te, pe, rfl⟩)).mono ?_
  rintro e w2 ⟨N, rfl, hN, hcell, hb2⟩
  have HB2 := Lib.hid hb2
  clear hb2 hcell hN
  go_wp2_with fail
  go_ret2
  exact ⟨4294967295, _, ⟨N, rfl⟩, rfl, HB.out.trans (HB2.out.mono HB.out.size)⟩
/-- What the public reader answers where there is no number. -/
theorem uint32_no (t : ByteArray) (hmax : t.size ≤ 281474976710656) (h : (readM 4294967295 t.data.toList).bind id = none) (w : World) (hv : Errs w) :
    Calls Tryd.prog 79 #[.string t, .int .i64 16, .int .i64 32] w (FellM w) := by
  match hr : readM 4294967295 t.data.toList with
  | none => exact uint32_bad t hmax hr w hv
  | some none => exact uint32_range t hmax hr w hv
  | some (some n) => rw [hr] at h; cases h

set_option maxRecDepth 100000 in
theorem parse_calls8 (t : ByteArray) (hmax : t.size ≤ 281474976710656) (w : World) :
    Calls Tryd.prog 90 #[.string t, .int .i64 16, .int .i64 8] w fun e w' => e = .returned (tupM 255 (readM 255 t.data.toList)) ∧ Below w.heap.size w w' := by
  by_cases h : t.size = 0
  · have ht : t = ⟨#[]⟩ := by
      have := Lib.size_eq t
      rw [h] at this
      have h2 : t.data.toList = [] := List.eq_nil_of_length_eq_zero this.symm
      obtain ⟨⟨l⟩⟩ := t
      simp at h2
      rw [h2]
    subst ht
    go_enter Tryd.func90, Tryd.ntmps90
    go_wp2
    go_ret2
    exact ⟨rfl, Below.refl _ _⟩
  · refine (parse3_8_any t h (by omega) w).mono ?_
    rintro e w' ⟨rfl, hb⟩
    have hr : readM 255 t.data.toList = parse3 255 0 t.data.toList := by
      unfold readM
      rw [if_neg (by intro h2; have := Lib.size_eq t; rw [h2] at this; exact h this)]
    exact ⟨by rw [hr], hb⟩
set_option maxHeartbeats 400000 in
theorem uint8_ok (t : ByteArray) (hmax : t.size ≤ 281474976710656) (n : Nat) (h : readM 255 t.data.toList = some (some n)) (w : World) :
    Calls Tryd.prog 79 #[.string t, .int .i64 16, .int .i64 8] w (GotM n w) := by
  have HN := Lib.hid h
  clear h
  go_enter Tryd.func79, Tryd.ntmps79
  go_wp2_with fail
  refine (parse_calls8 t hmax w).mono ?_
  rw [HN.out]
  unfold tupM
  rintro e w1 ⟨rfl, hb1⟩
  have HB := Lib.hid hb1
  clear hb1
  go_wp2_with fail
  go_ret2
  exact ⟨rfl, HB.out⟩
set_option maxHeartbeats 400000 in
theorem uint8_bad (t : ByteArray) (hmax : t.size ≤ 281474976710656) (h : readM 255 t.data.toList = none) (w : World) (hv : Errs w) :
    Calls Tryd.prog 79 #[.string t, .int .i64 16, .int .i64 8] w (FellM w) := by
  have HN := Lib.hid h
  have HV := Lib.hid hv
  clear h hv
  go_enter Tryd.func79, Tryd.ntmps79
  go_wp2_with fail
  refine (parse_calls8 t hmax w).mono ?_
  rw [HN.out]
  unfold tupM
  rintro e w1 ⟨rfl, hb1⟩
  have HB := Lib.hid hb1
  clear hb1
  obtain ⟨te, pe, hc⟩ := (HV.out.below HB.out).syn
  have HC := Lib.hid hc
  clear hc
  go_wp2_with fail
  refine (Tryd.strconv_toError_syntax _ t _ _ (.iface te pe) w1 hmax HC.out (.inr ⟨te, pe, rfl⟩)).mono ?_
  rintro e w2 ⟨N, rfl, hN, hcell, hb2⟩
  have HB2 := Lib.hid hb2
  clear hb2 hcell hN
  go_wp2_with fail
  go_ret2
  exact ⟨0, _, ⟨N, rfl⟩, rfl, HB.out.trans (HB2.out.mono HB.out.size)⟩
set_option maxHeartbeats 400000 in
theorem uint8_range (t : ByteArray) (hmax : t.size ≤ 281474976710656) (h : readM 255 t.data.toList = some none) (w : World) (hv : Errs w) :
    Calls Tryd.prog 79 #[.string t, .int .i64 16, .int .i64 8] w (FellM w) := by
  have HN := Lib.hid h
  have HV := Lib.hid hv
  clear h hv
  go_enter Tryd.func79, Tryd.ntmps79
  go_wp2_with fail
  refine (parse_calls8 t hmax w).mono ?_
  rw [HN.out]
  unfold tupM
  rintro e w1 ⟨rfl, hb1⟩
  have HB := Lib.hid hb1
  clear hb1
  obtain ⟨te, pe, hc⟩ := (HV.out.below HB.out).rng
  have HC := Lib.hid hc
  clear hc
  go_wp2_with fail
  refine (Tryd.strconv_toError_range _ t _ _ (.iface te pe) w1 hmax HC.out (.inr ⟨te, pe, rfl⟩)).mono ?_
  rintro e w2 ⟨N, rfl, hN, hcell, hb2⟩
  have HB2 := Lib.hid hb2
  clear hb2 hcell hN
  go_wp2_with fail
  go_ret2
  exact ⟨255, _, ⟨N, rfl⟩, rfl, HB.out.trans (HB2.out.mono HB.out.size)⟩
/-- What the public reader answers where there is no number. -/
theorem uint8_no (t : ByteArray) (hmax : t.size ≤ 281474976710656) (h : (readM 255 t.data.toList).bind id = none) (w : World) (hv : Errs w) :
    Calls Tryd.prog 79 #[.string t, .int .i64 16, .int .i64 8] w (FellM w) := by
  match hr : readM 255 t.data.toList with
  | none => exact uint8_bad t hmax hr w hv
  | some none => exact uint8_range t hmax hr w hv
  | some (some n) => rw [hr] at h; cases h
end Go.Proofs.YtaoekpedjgnnjaaDoor.Nums
