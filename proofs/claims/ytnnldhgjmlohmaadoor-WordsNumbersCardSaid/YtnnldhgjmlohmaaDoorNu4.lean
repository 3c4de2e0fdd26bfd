/- The contracts of Hex and Number, the program's and the document's. -/
import Derived.Test.YtnnldhgjmlohmaaDoorNu3
import Derived.Test.YtnnldhgjmlohmaaDoorNu0
namespace Go.Proofs.YtnnldhgjmlohmaaDoor.Nums
open Go.ChangeShapes Go.WideShapes Go.ChangeAt Go.RowKit

theorem worth_dg : ∀ k : Fin 16, worth (dg k.val).toNat = (k.val : Int) := by decide +kernel
theorem hx_read : ∀ (f n : Nat), n < 16 ^ (f + 1) → n < 18446744073709551616 → ∀ r, parse16 0 (hx (f + 1) n ++ r) = parse16 n r
  | f, n, hf, hn, r => by
    by_cases h : n < 16
    · rw [hx_last _ _ h]
      show parse16 0 (dg n :: r) = _
      have hw : worth (dg n).toNat = (n : Int) := worth_dg ⟨n, h⟩
      rw [parse16, hw, if_neg (by omega), if_neg (by omega)]
      congr 1
      omega
    · rcases f with _ | f
      · simp at hf; omega
      · rw [hx_step _ _ h, List.append_assoc, hx_read f (n / 16) (div_lt _ _ hf) (by omega)]
        show parse16 (n / 16) (dg (n % 16) :: r) = _
        have hw : worth (dg (n % 16)).toNat = ((n % 16 : Nat) : Int) := worth_dg ⟨n % 16, by omega⟩
        rw [parse16, hw, if_neg (by omega), if_neg (by omega)]
        congr 1
        omega
theorem hx_ne : ∀ (f n : Nat), hx (f + 1) n ≠ []
  | f, n => by
    by_cases h : n < 16
    · rw [hx_last _ _ h]; exact List.cons_ne_nil _ _
    · rw [hx_step _ _ h]; simp
theorem read_hx (n : Nat) (hn : n < 18446744073709551616) : read16 (hx 16 n) = some (some n) := by
  unfold read16
  rw [if_neg (hx_ne 15 n)]
  have := hx_read 15 n hn hn []
  rw [List.append_nil] at this
  exact this
theorem parse16_lt : ∀ (l : List UInt8) (acc n : Nat), acc < 18446744073709551616 → parse16 acc l = some (some n) → n < 18446744073709551616
  | [], acc, n, ha, h => by
    rw [parse16] at h
    injection h with h
    injection h with h
    omega
  | c :: r, acc, n, ha, h => by
    rw [parse16] at h
    split at h
    · cases h
    · split at h
      · cases h
      · have h0 := worth_nn (c.toNat : Int) (by omega)
        exact parse16_lt r _ n (by omega) h
theorem read16_lt {l : List UInt8} {n : Nat} (h : read16 l = some (some n)) : n < 18446744073709551616 := by
  unfold read16 at h
  split at h
  · cases h
  · exact parse16_lt l 0 n (by omega) h
theorem hexS_data (n : Nat) : (hexS n).data.toList = 48 :: 120 :: hx 16 n := by
  unfold hexS digitsS
  simp
theorem hexS_size (n : Nat) : (hexS n).size = (hx 16 n).length + 2 := by rw [Lib.size_eq, hexS_data]; rfl

def hexYes (n : Nat) : Value := .tuple #[.int .u64 n, .int .i64 0]
def hexNo : Value := .tuple #[.int .u64 0, .int .i64 11]

set_option maxHeartbeats 400000 in
theorem hex_yes (n : Nat) (hn : n < 18446744073709551616) (w : World) (hv : Vars w) :
    Calls Tryd.prog 25 #[.string (hexS n)] w fun e w' => e = .returned (hexYes n) ∧ Below w.heap.size w w' := by
  have HV := Lib.hid hv
  have hT : Lib.trimPrefix (hexS n).data.toList (⟨#[48, 120]⟩ : ByteArray).data.toList = hx 16 n := by
    rw [hexS_data]; rfl
  have HT := Lib.hid hT
  have HR := Lib.hid (read_hx n hn)
  have hz := digitsS_size n
  clear hv hT
  generalize hs : hexS n = s
  rw [hs] at HT
  have HSS := Lib.hid hs
  clear hs
  go_enter Tryd.func25, Tryd.ntmps25
  go_wp2_with fail
  refine (Tryd.strings_TrimPrefix _ _ _).mono ?_
  rw [HT.out]
  rintro e w1 ⟨rfl, rfl⟩
  go_wp2_with fail
  refine (uint_ok ⟨(hx 16 n).toArray⟩ (by have : (⟨(hx 16 n).toArray⟩ : ByteArray).size ≤ 16 := hz; omega) n HR.out _).mono ?_
  rintro e w2 ⟨rfl, hb2⟩
  have HB := Lib.hid hb2
  clear hb2
  go_wp2_with fail
  refine (digits_any n hn _ (HV.out.below HB.out)).mono ?_
  rw [HSS.out]
  rintro e w3 ⟨rfl, hb3⟩
  have HB3 := Lib.hid hb3
  clear hb3
  go_wp2_with fail
  go_ret2
  exact ⟨rfl, HB.out.trans (HB3.out.mono HB.out.size)⟩

set_option maxHeartbeats 400000 in
theorem refHex_yes (n : Nat) (hn : n < 18446744073709551616) (w : World) (hv : Vars w) :
    Calls Tryd.prog 26 #[.string (hexS n)] w fun e w' => e = .returned (hexYes n) ∧ Below w.heap.size w w' := by
  have HV := Lib.hid hv
  have h3 : 3 ≤ (hexS n).size := by
    rw [hexS_size]
    have := hx_ne 15 n
    have : 0 < (hx 16 n).length := List.length_pos_iff.2 this
    omega
  have h18 : (hexS n).size ≤ 18 := by
    rw [hexS_size]
    have := hx_len 16 n
    omega
  have hT : ((hexS n).extract 2 (hexS n).size).data.toList = hx 16 n := by
    rw [Lib.extract_to_end, hexS_data]; rfl
  have HR : Hid (read16 ((hexS n).extract 2 (hexS n).size).data.toList = some (some n)) := Lib.hid (by rw [hT]; exact read_hx n hn)
  clear hv hT
  generalize hs : hexS n = s at h3 h18 HR ⊢
  have HSS := Lib.hid hs
  clear hs
  go_enter Tryd.func26, Tryd.ntmps26
  go_wp2_with fail
  refine (uint_ok _ (by rw [ByteArray.size_extract]; omega) n HR.out _).mono ?_
  rintro e w2 ⟨rfl, hb2⟩
  have HB := Lib.hid hb2
  clear hb2
  go_wp2_with fail
  refine (refDigits_any n hn _ (HV.out.below HB.out)).mono ?_
  rw [HSS.out]
  rintro e w3 ⟨rfl, hb3⟩
  have HB3 := Lib.hid hb3
  clear hb3
  go_wp2_with fail
  go_ret2
  exact ⟨rfl, HB.out.trans (HB3.out.mono HB.out.size)⟩
end Go.Proofs.YtnnldhgjmlohmaaDoor.Nums
