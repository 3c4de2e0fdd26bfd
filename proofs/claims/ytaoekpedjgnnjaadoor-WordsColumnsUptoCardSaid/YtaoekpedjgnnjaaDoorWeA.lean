/- The contract of Line. -/
import Derived.Test.YtaoekpedjgnnjaaDoorWeM
import Derived.Test.YtaoekpedjgnnjaaDoorWdQ
namespace Go.Proofs.YtaoekpedjgnnjaaDoor.Wd
open Go.ChangeShapes Go.WideShapes Go.ChangeAt Go.RowKit Own Bld Go.Lib Nums

theorem bulk_at (xs : List (List UInt8)) : ∀ k, k < xs.length → (xs.getD k []).length + 1 ≤ bulkL xs := by
  induction xs with
  | nil => intro k hk; exact absurd hk (by simp)
  | cons x xs ih =>
    intro k hk
    have e : bulkL (x :: xs) = x.length + 1 + bulkL xs := rfl
    match k, hk with
    | 0, _ => show x.length + 1 ≤ _; omega
    | k + 1, hk =>
      have := ih k (by simpa using hk)
      show (xs.getD k []).length + 1 ≤ _
      omega
theorem bulk_len (xs : List (List UInt8)) : xs.length ≤ bulkL xs := by
  induction xs with
  | nil => exact Nat.zero_le _
  | cons x xs ih =>
    have e : bulkL (x :: xs) = x.length + 1 + bulkL xs := rfl
    rw [List.length_cons]
    omega
theorem bulk_take (xs : List (List UInt8)) : ∀ k, bulkL (xs.take k) ≤ bulkL xs := by
  induction xs with
  | nil => intro k; simp
  | cons x xs ih =>
    intro k
    have e : bulkL (x :: xs) = x.length + 1 + bulkL xs := rfl
    match k with
    | 0 => exact Nat.zero_le _
    | k + 1 =>
      have h : bulkL ((x :: xs).take (k + 1)) = x.length + 1 + bulkL (xs.take k) := rfl
      have := ih k
      omega
theorem take_snoc (xs : List (List UInt8)) (k : Nat) (h : k < xs.length) : xs.take (k + 1) = xs.take k ++ [xs.getD k []] := by
  rw [List.take_succ_eq_append_getElem h, List.getD_eq_getElem?_getD, List.getElem?_eq_getElem h]
  rfl
theorem line_zero (xs : List (List UInt8)) (h : 0 < xs.length) : lineL (xs.take 1) = inW (xs.getD 0 []) := by
  cases xs with
  | nil => exact absurd h (by simp)
  | cons x xs =>
    show inW x ++ tailL [] = _
    show inW x ++ [] = inW x
    rw [List.append_nil]
theorem line_step (xs : List (List UInt8)) (k : Nat) (h : k < xs.length) (h0 : 0 < k) : lineL (xs.take (k + 1)) = lineL (xs.take k) ++ [32] ++ inW (xs.getD k []) := by
  rw [take_snoc xs k h]
  cases hx : xs.take k with
  | nil =>
    have := congrArg List.length hx
    rw [List.length_take, List.length_nil] at this
    omega
  | cons x ys => exact line_snoc x ys _

set_option maxRecDepth 100000 in
set_option maxHeartbeats 4000000 in
theorem line_big (A : Option Addr) (c n : Nat) (xs : List (List UInt8)) (w : World) (hn : n = xs.length) (hx : bulkL xs ≤ 2097152) (hA : Src w A n c (strs xs)) (he : En w) :
    Calls Tryd.prog 9 #[.slice A n c] w fun e w' => e = .returned (.string (str (lineL xs))) ∧ Below w.heap.size w w' := by
  have HE := Lib.hid he
  have GA := Lib.hid hA
  have HN := Lib.hid hn
  have hnb : n ≤ 2097152 := by have := bulk_len xs; omega
  have HL : Hid (∀ k, (lineL (xs.take k)).length ≤ 16777216) := Lib.hid fun k => by
    have h1 := line_len (xs.take k)
    have h2 := bulk_take xs k
    omega
  have HX := Lib.hid hx
  clear hA he hn hx
  go_enter Tryd.func9, Tryd.ntmps9
  go_wp2_with fail
  go_loopw [8] (fun i wr => ∃ k : Nat, k ≤ n ∧ i = .int .i64 k ∧ Bd w.heap.size w.heap.size (lineL (xs.take k)) wr ∧ Below w.heap.size w wr) (fun i _ => n - (RowKit.intOf i).toNat)
  case atStart => exact ⟨0, by omega, rfl, Bd.fresh w, (Below.refl _ _).alloc (Nat.le_refl _) _⟩
  case round =>
    obtain ⟨k, hk, rfl, hbd, hbw⟩ := hrel
    have HBD := Lib.hid hbd
    have HBW := Lib.hid hbw
    have hsz := hbw.size
    clear hbd hbw
    by_cases hlt : k < n
    · obtain ⟨b, o, rfl, _, hc1⟩ := src_get' (GA.out.below HBW.out) (by omega)
      have hkx : k < xs.length := by rw [← HN.out]; exact hlt
      have e1 := hc1 k _ (strs_at xs k hkx)
      have hxs : (str (xs.getD k [])).size ≤ 2097152 := by have := bulk_at xs k hkx; have := HX.out; rw [str_size]; omega
      have HLE := Lib.hid (HL.out k)
      have HIL := Lib.hid (in_len (xs.getD k []))
      have HIN := Lib.hid fun W (h : En W) => inLine_any (str (xs.getD k [])) W (by omega) (quote_room _ (by omega)) h
      have HSTEP : Hid (∀ h0 : 0 < k, lineL (xs.take (k + 1)) = lineL (xs.take k) ++ [32] ++ inW (xs.getD k [])) := Lib.hid fun h0 => line_step xs k hkx h0
      have HZERO : Hid (k = 0 → lineL (xs.take (k + 1)) = inW (xs.getD k [])) := Lib.hid fun h0 => by subst h0; exact line_zero xs hkx
      have HNIL : Hid (k = 0 → lineL (xs.take k) = []) := Lib.hid fun h0 => by subst h0; rfl
      clear hc1 hkx
      rw [str_list] at HIN
      have hxs' : (xs.getD k []).length ≤ 2097152 := by rw [str_size] at hxs; exact hxs
      clear hxs
      generalize xs.getD k [] = x at e1 HSTEP HZERO HIL HIN hxs'
      generalize lineL (xs.take k) = acc at HBD HSTEP HNIL HLE
      have HIZ : Hid ((str (inW x)).size ≤ 16777218) := Lib.hid (by rw [str_size]; have := HIL.out; omega)
      by_cases h0 : k = 0
      · have t0 : decide (0 < k) = false := decide_eq_false (by omega)
        have HZ : Hid (lineL (xs.take (k + 1)) = acc ++ inW x) := Lib.hid (by rw [HZERO.out h0, HNIL.out h0]; rfl)
        clear h0
        go_wp2_with fail
        refine (HIN.out _ (HE.out.below HBW.out)).mono ?_
        rintro e w3 ⟨rfl, b3⟩
        have D3 := Lib.hid (bd_below' HBD.out b3)
        have W3 := Lib.hid (HBW.out.trans (b3.mono hsz))
        have hsz3 := W3.out.size
        clear b3
        go_wp2_with fail
        refine (string_any w.heap.size w.heap.size acc (str (inW x)) _ D3.out (by have := HLE.out; have := HIZ.out; omega) hsz3).mono ?_
        rintro e w4 ⟨rfl, d4, b4, _⟩
        have D4 := Lib.hid d4
        have W4 := Lib.hid (W3.out.trans b4)
        clear d4 b4
        go_wp2_with fail
        go_roundw
        case rel => exact ⟨k + 1, by omega, by go_num, by rw [HZ.out]; exact D4.out, W4.out⟩
        case measure => simp [RowKit.intOf]; omega
      · have t0 : decide (0 < k) = true := decide_eq_true (by omega)
        have HZ : Hid (lineL (xs.take (k + 1)) = (acc ++ [32]) ++ inW x) := Lib.hid (HSTEP.out (by omega))
        clear h0
        go_wp2_with fail
        refine (blank_any w.heap.size w.heap.size acc _ HBD.out (by have := HLE.out; omega) hsz).mono ?_
        rintro e w2 ⟨rfl, d2, b2', _⟩
        have D2 := Lib.hid d2
        have W2 := Lib.hid (HBW.out.trans b2')
        have hsz2 := W2.out.size
        clear d2 b2'
        go_wp2_with fail
        refine (HIN.out _ (HE.out.below W2.out)).mono ?_
        rintro e w3 ⟨rfl, b3⟩
        have D3 := Lib.hid (bd_below' D2.out b3)
        have W3 := Lib.hid (W2.out.trans (b3.mono hsz2))
        have hsz3 := W3.out.size
        clear b3
        go_wp2_with fail
        refine (string_any w.heap.size w.heap.size (acc ++ [32]) (str (inW x)) _ D3.out (by rw [List.length_append, List.length_singleton]; have := HLE.out; have := HIZ.out; omega) hsz3).mono ?_
        rintro e w4 ⟨rfl, d4, b4, _⟩
        have D4 := Lib.hid d4
        have W4 := Lib.hid (W3.out.trans b4)
        clear d4 b4
        go_wp2_with fail
        go_roundw
        case rel => exact ⟨k + 1, by omega, by go_num, by rw [HZ.out]; exact D4.out, W4.out⟩
        case measure => simp [RowKit.intOf]; omega
    · obtain rfl : n = k := by omega
      have HV : Hid (lineL xs = lineL (xs.take n)) := Lib.hid (by rw [HN.out, List.take_length])
      go_wp2_with fail
      refine (Tryd.Builder_String_any_k w.heap.size w.heap.size _ _ HBD.out hsz).mono ?_
      rintro e w3 ⟨rfl, _, b3, _⟩
      have W3 := Lib.hid (HBW.out.trans b3)
      clear b3
      go_wp2_with fail
      go_ret
      rw [HV.out]
      exact ⟨rfl, W3.out⟩
theorem line_any (A : Option Addr) (c n : Nat) (xs : List (List UInt8)) (w : World) (hn : n = xs.length) (hx : bulkL xs ≤ 1048576) (hA : Src w A n c (strs xs)) (he : En w) :
    Calls Tryd.prog 9 #[.slice A n c] w fun e w' => e = .returned (.string (str (lineL xs))) ∧ Below w.heap.size w w' := line_big A c n xs w hn (by omega) hA he
end Go.Proofs.YtaoekpedjgnnjaaDoor.Wd
