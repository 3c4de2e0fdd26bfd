/- The contracts of the public readers and writers of numbers to the base 16. -/
import Derived.Test.YtnnldhgjmlohmaaDoorNu2
import Derived.Test.YtnnldhgjmlohmaaDoorShelf
import Derived.Lib.AtoiErrMem
import Derived.Lib.LaidTab
import Derived.WalkSmall
namespace Go.Proofs.YtnnldhgjmlohmaaDoor.Nums
open Go.ChangeShapes Go.WideShapes Go.ChangeAt Go.RowKit

/-- What stands in the library's variables that these functions read. -/
structure Vars (w : World) : Prop where
  syn : ∃ te pe, w.cell? ⟨2, 0, none⟩ = some (.iface te pe)
  rng : ∃ te pe, w.cell? ⟨3, 0, none⟩ = some (.iface te pe)
  tab : Lib.TabIs Tryd.prog w "internal/strconv.uint64pow10" .u64 Lib.pow10Tab
  deb : w.cell? ⟨7, 15, none⟩ = some (.int .u8 4)
theorem Vars.below {w w' : World} (h : Vars w) (hb : Below w.heap.size w w') : Vars w' := by
  obtain ⟨te, pe, h1⟩ := h.syn
  obtain ⟨te2, pe2, h2⟩ := h.rng
  refine ⟨⟨te, pe, ?_⟩, ⟨te2, pe2, ?_⟩, ?_, ?_⟩
  · rw [hb.cell (World.block_lt_of_cell? _ _ h1)]; exact h1
  · rw [hb.cell (World.block_lt_of_cell? _ _ h2)]; exact h2
  · have hg : Tryd.prog.globalNamed "internal/strconv.uint64pow10" = some 4 := by kernel_rfl
    exact var?_below hb hg (World.block_lt_of_cell? _ _ (h.tab.cell hg 0 (by decide))) h.tab
  · rw [hb.cell (World.block_lt_of_cell? _ _ h.deb)]; exact h.deb

def digitsS (u : Nat) : ByteArray := ⟨(hx 16 u).toArray⟩

theorem format74 (u : Nat) (hu : u < 18446744073709551616) (w : World) (hv : Vars w) :
    Calls Tryd.prog 74 #[.int .u64 u, .int .i64 16] w fun e w' => e = .returned (.string (digitsS u)) ∧ Below w.heap.size w w' := by
  have HV := Lib.hid hv
  clear hv
  go_enter Tryd.func74, Tryd.ntmps74
  go_wp2_with fail
  refine (format_any u hu _ HV.out.deb).mono ?_
  rintro e w1 ⟨rfl, hb1⟩
  have HB := Lib.hid hb1
  clear hb1
  go_wp2_with fail
  go_ret
  exact ⟨rfl, HB.out⟩
theorem formatUint_any (u : Nat) (hu : u < 18446744073709551616) (w : World) (hv : Vars w) :
    Calls Tryd.prog 51 #[.int .u64 u, .int .i64 16] w fun e w' => e = .returned (.string (digitsS u)) ∧ Below w.heap.size w w' := by
  have HV := Lib.hid hv
  clear hv
  go_enter Tryd.func51, Tryd.ntmps51
  go_wp2_with fail
  refine (format74 u hu _ HV.out).mono ?_
  rintro e w1 ⟨rfl, hb1⟩
  have HB := Lib.hid hb1
  clear hb1
  go_wp2_with fail
  go_ret
  exact ⟨rfl, HB.out⟩
theorem hx_len : ∀ f n, (hx f n).length ≤ f
  | 0, _ => by simp [hx]
  | f + 1, n => by
    rw [hx]
    split
    · simp
    · have := hx_len f (n / 16)
      simp
      exact this
theorem digitsS_size (u : Nat) : (digitsS u).size ≤ 16 := by
  rw [Lib.size_eq]
  exact hx_len 16 u

def hexS (u : Nat) : ByteArray := ⟨#[48, 120]⟩ ++ digitsS u
set_option maxHeartbeats 400000 in
theorem digits_any (u : Nat) (hu : u < 18446744073709551616) (w : World) (hv : Vars w) :
    Calls Tryd.prog 27 #[.int .u64 u] w fun e w' => e = .returned (.string (hexS u)) ∧ Below w.heap.size w w' := by
  have HV := Lib.hid hv
  clear hv
  have hz := digitsS_size u
  have HD : Hid (hexS u = ⟨#[48, 120]⟩ ++ digitsS u) := Lib.hid rfl
  generalize hexS u = x at HD
  go_enter Tryd.func27, Tryd.ntmps27
  go_wp2_with fail
  refine (formatUint_any u hu _ HV.out).mono ?_
  generalize digitsS u = d at hz HD
  rintro e w1 ⟨rfl, hb1⟩
  have HB := Lib.hid hb1
  clear hb1
  go_wp2_with fail
  go_ret
  exact ⟨by rw [HD.out]; rfl, HB.out⟩

theorem refDigits_any (u : Nat) (hu : u < 18446744073709551616) (w : World) (hv : Vars w) :
    Calls Tryd.prog 28 #[.int .u64 u] w fun e w' => e = .returned (.string (hexS u)) ∧ Below w.heap.size w w' := by
  have HV := Lib.hid hv
  clear hv
  have hz := digitsS_size u
  have HD : Hid (hexS u = ⟨#[48, 120]⟩ ++ digitsS u) := Lib.hid rfl
  generalize hexS u = x at HD
  go_enter Tryd.func28, Tryd.ntmps28
  go_wp2_with fail
  refine (formatUint_any u hu _ HV.out).mono ?_
  generalize digitsS u = d at hz HD
  rintro e w1 ⟨rfl, hb1⟩
  have HB := Lib.hid hb1
  clear hb1
  go_wp2_with fail
  go_ret
  exact ⟨by rw [HD.out]; rfl, HB.out⟩

/-- What a text says to the base 16. -/
def read16 (t : List UInt8) : Option (Option Nat) := if t = [] then none else parse16 0 t

/-- An error of the reader's. -/
def IsErr (v : Value) : Prop := ∃ N, v = .iface 110 (.pointer (some ⟨N, 0, none⟩))
def Got (n : Nat) (w : World) (e : Ending) (w' : World) : Prop := e = .returned (.tuple #[.int .u64 n, .nilIface]) ∧ Below w.heap.size w w'
def Fell (n : Nat) (w : World) (e : Ending) (w' : World) : Prop := ∃ v, IsErr v ∧ e = .returned (.tuple #[.int .u64 n, v]) ∧ Below w.heap.size w w'

set_option maxRecDepth 100000 in
theorem parse_calls (t : ByteArray) (hmax : t.size ≤ 281474976710656) (w : World) :
    Calls Tryd.prog 72 #[.string t, .int .i64 16, .int .i64 64] w fun e w' => e = .returned (tup (read16 t.data.toList)) ∧ Below w.heap.size w w' := by
  by_cases h : t.size = 0
  · have ht : t = ⟨#[]⟩ := by
      have := Lib.size_eq t
      rw [h] at this
      have h2 : t.data.toList = [] := List.eq_nil_of_length_eq_zero this.symm
      obtain ⟨⟨l⟩⟩ := t
      simp at h2
      rw [h2]
    subst ht
    go_enter Tryd.func72, Tryd.ntmps72
    go_wp2
    go_ret2
    exact ⟨rfl, Below.refl _ _⟩
  · refine (parse_any t h (by omega) w).mono ?_
    rintro e w' ⟨rfl, rfl⟩
    have hr : read16 t.data.toList = parse16 0 t.data.toList := by
      unfold read16
      rw [if_neg (by intro h2; have := Lib.size_eq t; rw [h2] at this; exact h this)]
    exact ⟨by rw [hr], Lib.bytesWorld_below w 5 t⟩

set_option maxHeartbeats 400000 in
theorem uint_ok (t : ByteArray) (hmax : t.size ≤ 281474976710656) (n : Nat) (h : read16 t.data.toList = some (some n)) (w : World) :
    Calls Tryd.prog 49 #[.string t, .int .i64 16, .int .i64 64] w (Got n w) := by
  have HN := Lib.hid h
  clear h
  go_enter Tryd.func49, Tryd.ntmps49
  go_wp2_with fail
  refine (parse_calls t hmax w).mono ?_
  rw [HN.out]
  unfold tup
  rintro e w1 ⟨rfl, hb1⟩
  have HB := Lib.hid hb1
  clear hb1
  go_wp2_with fail
  go_ret2
  exact ⟨rfl, HB.out⟩

set_option maxHeartbeats 400000 in
theorem uint_bad (t : ByteArray) (hmax : t.size ≤ 281474976710656) (h : read16 t.data.toList = none) (w : World) (hv : Vars w) :
    Calls Tryd.prog 49 #[.string t, .int .i64 16, .int .i64 64] w (Fell 0 w) := by
  have HN := Lib.hid h
  have HV := Lib.hid hv
  clear h hv
  go_enter Tryd.func49, Tryd.ntmps49
  go_wp2_with fail
  refine (parse_calls t hmax w).mono ?_
  rw [HN.out]
  unfold tup
  rintro e w1 ⟨rfl, hb1⟩
  have HB := Lib.hid hb1
  clear hb1
  obtain ⟨te, pe, hc⟩ := (HV.out.below HB.out).syn
  have HC := Lib.hid hc
  clear hc
  go_wp2_with fail
  refine (Tryd.strconv_toError_bad _ t _ _ (.iface te pe) w1 hmax HC.out (.inr ⟨te, pe, rfl⟩)).mono ?_
  rintro e w2 ⟨N, rfl, hN, hcell, hb2⟩
  have HB2 := Lib.hid hb2
  clear hb2 hcell hN
  go_wp2_with fail
  go_ret2
  exact ⟨_, ⟨N, rfl⟩, rfl, HB.out.trans (HB2.out.mono HB.out.size)⟩

set_option maxHeartbeats 400000 in
theorem uint_range (t : ByteArray) (hmax : t.size ≤ 281474976710656) (h : read16 t.data.toList = some none) (w : World) (hv : Vars w) :
    Calls Tryd.prog 49 #[.string t, .int .i64 16, .int .i64 64] w (Fell 18446744073709551615 w) := by
  have HN := Lib.hid h
  have HV := Lib.hid hv
  clear h hv
  go_enter Tryd.func49, Tryd.ntmps49
  go_wp2_with fail
  refine (parse_calls t hmax w).mono ?_
  rw [HN.out]
  unfold tup
  rintro e w1 ⟨rfl, hb1⟩
  have HB := Lib.hid hb1
  clear hb1
  obtain ⟨te, pe, hc⟩ := (HV.out.below HB.out).rng
  have HC := Lib.hid hc
  clear hc
  go_wp2_with fail
  refine (Tryd.strconv_toError_range _ t _ _ (.iface te pe) w1 hmax HC.out (.inr ⟨te, pe, rfl⟩)).mono ?_
  rintro e w2 ⟨N, rfl, hN, hcell, hb2⟩
  have HB2 := Lib.hid hb2
  clear hb2 hcell hN
  go_wp2_with fail
  go_ret2
  exact ⟨_, ⟨N, rfl⟩, rfl, HB.out.trans (HB2.out.mono HB.out.size)⟩
end Go.Proofs.YtnnldhgjmlohmaaDoor.Nums
