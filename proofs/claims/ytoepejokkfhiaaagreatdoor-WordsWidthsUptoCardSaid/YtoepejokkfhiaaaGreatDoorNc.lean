/- Hex of Digits, Number of what a number is written as. -/
import Derived.Test.YtoepejokkfhiaaaGreatDoorNb
import Derived.Test.YtoepejokkfhiaaaGreatDoorFmt
import Derived.Test.YtoepejokkfhiaaaGreatDoorNu0
import Derived.Test.YtoepejokkfhiaaaGreatDoorPv
import Derived.Lib.LaidTab
import Derived.WalkSmall
import Derived.Lib.AppendIntMem
import Derived.Lib.ParseIntBTie
namespace Go.Proofs.YtoepejokkfhiaaaGreatDoor.Nums
open Go.ChangeShapes Go.WideShapes Go.ChangeAt Go.RowKit

/-- The tables that writing numbers reads. -/
structure Vars (w : World) : Prop where
  tab : Lib.TabIs Tryz.prog w "internal/strconv.uint64pow10" .u64 Lib.pow10Tab
  deb : w.cell? ⟨7, 15, none⟩ = some (.int .u8 4)
theorem Vars.below {w w' : World} (h : Vars w) (hb : Below w.heap.size w w') : Vars w' := by
  refine ⟨?_, ?_⟩
  · have hg : Tryz.prog.globalNamed "internal/strconv.uint64pow10" = some 0 := by kernel_rfl
    exact var?_below hb hg (World.block_lt_of_cell? _ _ (h.tab.cell hg 0 (by decide))) h.tab
  · rw [hb.cell (World.block_lt_of_cell? _ _ h.deb)]; exact h.deb

theorem hx_len : ∀ f n, (hx f n).length ≤ f
  | 0, _ => by simp [hx]
  | f + 1, n => by
    rw [hx]
    split
    · simp
    · have := hx_len f (n / 16)
      simp
      exact this
theorem digitsS_size (u : Nat) : (digitsS u).size ≤ 16 := by
  rw [Lib.size_eq]
  exact hx_len 16 u

def hexS (u : Nat) : ByteArray := ⟨#[48, 120]⟩ ++ digitsS u
set_option maxHeartbeats 400000 in
theorem digits_any (u : Nat) (hu : u < 18446744073709551616) (w : World) (hv : Vars w) :
    Calls Tryz.prog 27 #[.int .u64 u] w fun e w' => e = .returned (.string (hexS u)) ∧ Below w.heap.size w w' := by
  have HV := Lib.hid hv
  clear hv
  have hz := digitsS_size u
  have HD : Hid (hexS u = ⟨#[48, 120]⟩ ++ digitsS u) := Lib.hid rfl
  generalize hexS u = x at HD
  go_enter Tryz.func27, Tryz.ntmps27
  go_wp2_with fail
  refine (formatUint_any u hu _ HV.out.deb).mono ?_
  generalize digitsS u = d at hz HD
  rintro e w1 ⟨rfl, hb1⟩
  have HB := Lib.hid hb1
  clear hb1
  go_wp2_with fail
  go_ret
  exact ⟨by rw [HD.out]; rfl, HB.out⟩

/-- What a text says to the base 16. -/
def read16 (t : List UInt8) : Option (Option Nat) := if t = [] then none else parse16 0 t

def Got (n : Nat) (w : World) (e : Ending) (w' : World) : Prop := e = .returned (.tuple #[.int .u64 n, .nilIface]) ∧ Below w.heap.size w w'
set_option maxRecDepth 100000 in
theorem parse_calls (t : ByteArray) (hmax : t.size ≤ 281474976710656) (w : World) :
    Calls Tryz.prog 69 #[.string t, .int .i64 16, .int .i64 64] w fun e w' => e = .returned (tup (read16 t.data.toList)) ∧ Below w.heap.size w w' := by
  by_cases h : t.size = 0
  · have ht : t = ⟨#[]⟩ := by
      have := Lib.size_eq t
      rw [h] at this
      have h2 : t.data.toList = [] := List.eq_nil_of_length_eq_zero this.symm
      obtain ⟨⟨l⟩⟩ := t
      simp at h2
      rw [h2]
    subst ht
    go_enter Tryz.func69, Tryz.ntmps69
    go_wp2
    go_ret2
    exact ⟨rfl, Below.refl _ _⟩
  · refine (parse_any t h (by omega) w).mono ?_
    rintro e w' ⟨rfl, rfl⟩
    have hr : read16 t.data.toList = parse16 0 t.data.toList := by
      unfold read16
      rw [if_neg (by intro h2; have := Lib.size_eq t; rw [h2] at this; exact h this)]
    exact ⟨by rw [hr], Lib.bytesWorld_below w 5 t⟩

set_option maxHeartbeats 400000 in
theorem uint_ok (t : ByteArray) (hmax : t.size ≤ 281474976710656) (n : Nat) (h : read16 t.data.toList = some (some n)) (w : World) :
    Calls Tryz.prog 45 #[.string t, .int .i64 16, .int .i64 64] w (Got n w) := by
  have HN := Lib.hid h
  clear h
  go_enter Tryz.func45, Tryz.ntmps45
  go_wp2_with fail
  refine (parse_calls t hmax w).mono ?_
  rw [HN.out]
  unfold tup
  rintro e w1 ⟨rfl, hb1⟩
  have HB := Lib.hid hb1
  clear hb1
  go_wp2_with fail
  go_ret2
  exact ⟨rfl, HB.out⟩

theorem worth_dg : ∀ k : Fin 16, worth (dg k.val).toNat = (k.val : Int) := by decide +kernel
theorem hx_read : ∀ (f n : Nat), n < 16 ^ (f + 1) → n < 18446744073709551616 → ∀ r, parse16 0 (hx (f + 1) n ++ r) = parse16 n r
  | f, n, hf, hn, r => by
    by_cases h : n < 16
    · rw [hx_last _ _ h]
      show parse16 0 (dg n :: r) = _
      have hw : worth (dg n).toNat = (n : Int) := worth_dg ⟨n, h⟩
      rw [parse16, hw, if_neg (by omega), if_neg (by omega)]
      congr 1
      omega
    · rcases f with _ | f
      · simp at hf; omega
      · rw [hx_step _ _ h, List.append_assoc, hx_read f (n / 16) (div_lt _ _ hf) (by omega)]
        show parse16 (n / 16) (dg (n % 16) :: r) = _
        have hw : worth (dg (n % 16)).toNat = ((n % 16 : Nat) : Int) := worth_dg ⟨n % 16, by omega⟩
        rw [parse16, hw, if_neg (by omega), if_neg (by omega)]
        congr 1
        omega
theorem hx_ne : ∀ (f n : Nat), hx (f + 1) n ≠ []
  | f, n => by
    by_cases h : n < 16
    · rw [hx_last _ _ h]; exact List.cons_ne_nil _ _
    · rw [hx_step _ _ h]; simp
theorem read_hx (n : Nat) (hn : n < 18446744073709551616) : read16 (hx 16 n) = some (some n) := by
  unfold read16
  rw [if_neg (hx_ne 15 n)]
  have := hx_read 15 n hn hn []
  rw [List.append_nil] at this
  exact this
theorem parse16_lt : ∀ (l : List UInt8) (acc n : Nat), acc < 18446744073709551616 → parse16 acc l = some (some n) → n < 18446744073709551616
  | [], acc, n, ha, h => by
    rw [parse16] at h
    injection h with h
    injection h with h
    omega
  | c :: r, acc, n, ha, h => by
    rw [parse16] at h
    split at h
    · cases h
    · split at h
      · cases h
      · have h0 := worth_nn (c.toNat : Int) (by omega)
        exact parse16_lt r _ n (by omega) h
theorem read16_lt {l : List UInt8} {n : Nat} (h : read16 l = some (some n)) : n < 18446744073709551616 := by
  unfold read16 at h
  split at h
  · cases h
  · exact parse16_lt l 0 n (by omega) h
theorem hexS_data (n : Nat) : (hexS n).data.toList = 48 :: 120 :: hx 16 n := by
  unfold hexS digitsS
  simp
theorem hexS_size (n : Nat) : (hexS n).size = (hx 16 n).length + 2 := by rw [Lib.size_eq, hexS_data]; rfl

def hexYes (n : Nat) : Value := .tuple #[.int .u64 n, .int .i64 0]
def hexNo : Value := .tuple #[.int .u64 0, .int .i64 11]

set_option maxHeartbeats 400000 in
theorem hex_yes (n : Nat) (hn : n < 18446744073709551616) (w : World) (hv : Vars w) :
    Calls Tryz.prog 26 #[.string (hexS n)] w fun e w' => e = .returned (hexYes n) ∧ Below w.heap.size w w' := by
  have HV := Lib.hid hv
  have hT : Lib.trimPrefix (hexS n).data.toList (⟨#[48, 120]⟩ : ByteArray).data.toList = hx 16 n := by
    rw [hexS_data]; rfl
  have HT := Lib.hid hT
  have HR := Lib.hid (read_hx n hn)
  have hz := digitsS_size n
  clear hv hT
  generalize hs : hexS n = s
  rw [hs] at HT
  have HSS := Lib.hid hs
  clear hs
  go_enter Tryz.func26, Tryz.ntmps26
  go_wp2_with fail
  refine (Tryz.strings_TrimPrefix _ _ _).mono ?_
  rw [HT.out]
  rintro e w1 ⟨rfl, rfl⟩
  go_wp2_with fail
  refine (uint_ok ⟨(hx 16 n).toArray⟩ (by have : (⟨(hx 16 n).toArray⟩ : ByteArray).size ≤ 16 := hz; omega) n HR.out _).mono ?_
  rintro e w2 ⟨rfl, hb2⟩
  have HB := Lib.hid hb2
  clear hb2
  go_wp2_with fail
  refine (digits_any n hn _ (HV.out.below HB.out)).mono ?_
  rw [HSS.out]
  rintro e w3 ⟨rfl, hb3⟩
  have HB3 := Lib.hid hb3
  clear hb3
  go_wp2_with fail
  go_ret2
  exact ⟨rfl, HB.out.trans (HB3.out.mono HB.out.size)⟩

def decS (n : Int) : ByteArray := ⟨(Lib.itoa n).toArray⟩
def numYes (n : Int) : Value := .tuple #[.int .i64 n, .int .i64 0]
theorem formatInt_any (n : Int) (h0 : -9223372036854775808 ≤ n) (h1 : n ≤ 9223372036854775807) (w : World) (hv : Vars w) :
    Calls Tryz.prog 25 #[.int .i64 n, .int .i64 10] w fun e w' => e = .returned (.string (decS n)) ∧ Below w.heap.size w w' :=
  (Tryz.strconv_FormatInt_10 n h0 h1 w hv.tab).mono fun e w' ⟨he, k, os, hw⟩ => ⟨he, by subst hw; exact Lib.below_grow _ w (Nat.le_refl _) k os⟩

def IGot (n : Int) (w : World) (e : Ending) (w' : World) : Prop := e = .returned (.tuple #[.int .i64 n, .nilIface]) ∧ Below w.heap.size w w'
theorem int_ok (s : ByteArray) (hz : s.size ≤ 281474976710656) (n : Int) (h : Lib.parseIntB 64 s.data.toList = .ok n) (w : World) :
    Calls Tryz.prog 43 #[.string s, .int .i64 10, .int .i64 64] w (IGot n w) :=
  (Tryz.strconv_ParseInt_10_at64_ok s (by omega) n h w).mono fun e w' ⟨he, hw⟩ => ⟨he, by
    rcases hw with rfl | ⟨t, rfl⟩
    · exact Below.refl _ _
    · exact Lib.bytesWorld_below w 5 t⟩
set_option maxHeartbeats 400000 in
theorem number_yes (n : Int) (h0 : -9223372036854775808 ≤ n) (h1 : n ≤ 9223372036854775807) (hz : (decS n).size ≤ 281474976710656) (w : World) (hv : Vars w) :
    Calls Tryz.prog 24 #[.string (decS n)] w fun e w' => e = .returned (numYes n) ∧ Below w.heap.size w w' := by
  have HV := Lib.hid hv
  have HR : Hid (Lib.parseIntB 64 (decS n).data.toList = .ok n) := Lib.hid (int_read n h0 h1)
  clear hv
  generalize hs : decS n = s at hz HR ⊢
  have HSS := Lib.hid hs
  clear hs
  go_enter Tryz.func24, Tryz.ntmps24
  go_wp2_with fail
  refine (int_ok s hz n HR.out _).mono ?_
  rintro e w1 ⟨rfl, hb1⟩
  have HB := Lib.hid hb1
  clear hb1
  go_wp2_with fail
  refine (formatInt_any n h0 h1 _ (HV.out.below HB.out)).mono ?_
  rw [HSS.out]
  rintro e w3 ⟨rfl, hb3⟩
  have HB3 := Lib.hid hb3
  clear hb3
  go_wp2_with fail
  go_ret2
  exact ⟨rfl, HB.out.trans (HB3.out.mono HB.out.size)⟩

end Go.Proofs.YtoepejokkfhiaaaGreatDoor.Nums
