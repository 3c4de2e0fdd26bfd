/- The contracts of Number, the program's and the document's. -/
import Derived.Test.YtnnldhgjmlohmaaDoorNu5
import Derived.Lib.AppendIntMem
import Derived.Lib.ParseIntBTie
namespace Go.Proofs.YtnnldhgjmlohmaaDoor.Nums
open Go.ChangeShapes Go.WideShapes Go.ChangeAt Go.RowKit

def decS (n : Int) : ByteArray := ⟨(Lib.itoa n).toArray⟩
def numYes (n : Int) : Value := .tuple #[.int .i64 n, .int .i64 0]
def numNo : Value := .tuple #[.int .i64 0, .int .i64 11]

theorem formatInt_any (n : Int) (h0 : -9223372036854775808 ≤ n) (h1 : n ≤ 9223372036854775807) (w : World) (hv : Vars w) :
    Calls Tryd.prog 48 #[.int .i64 n, .int .i64 10] w fun e w' => e = .returned (.string (decS n)) ∧ Below w.heap.size w w' :=
  (Tryd.strconv_FormatInt_10 n h0 h1 w hv.tab).mono fun e w' ⟨he, k, os, hw⟩ => ⟨he, by subst hw; exact Lib.below_grow _ w (Nat.le_refl _) k os⟩

def IGot (n : Int) (w : World) (e : Ending) (w' : World) : Prop := e = .returned (.tuple #[.int .i64 n, .nilIface]) ∧ Below w.heap.size w w'
def IFell (n : Int) (w : World) (e : Ending) (w' : World) : Prop := ∃ N, e = .returned (.tuple #[.int .i64 n, .iface 110 (.pointer (some ⟨N, 0, none⟩))]) ∧ Below w.heap.size w w'
theorem int_ok (s : ByteArray) (hz : s.size ≤ 281474976710656) (n : Int) (h : Lib.parseIntB 64 s.data.toList = .ok n) (w : World) :
    Calls Tryd.prog 47 #[.string s, .int .i64 10, .int .i64 64] w (IGot n w) :=
  (Tryd.strconv_ParseInt_10_at64_ok s (by omega) n h w).mono fun e w' ⟨he, hw⟩ => ⟨he, by
    rcases hw with rfl | ⟨t, rfl⟩
    · exact Below.refl _ _
    · exact Lib.bytesWorld_below w 5 t⟩
theorem int_bad (s : ByteArray) (hz : s.size ≤ 281474976710656) (h : Lib.parseIntB 64 s.data.toList = Lib.parseIntB 64 []) (w : World) (hv : Vars w) :
    Calls Tryd.prog 47 #[.string s, .int .i64 10, .int .i64 64] w (IFell 0 w) := by
  obtain ⟨te, pe, hc⟩ := hv.syn
  exact (Tryd.strconv_ParseInt_10_at64_bad s hz h (.iface te pe) w hc (.inr ⟨te, pe, rfl⟩)).mono fun e w' ⟨N, he, _, _, hb⟩ => ⟨N, he, hb⟩
theorem int_range (s : ByteArray) (hz : s.size ≤ 281474976710656) (h : Lib.parseIntB 64 s.data.toList = .range) (w : World) (hv : Vars w) :
    Calls Tryd.prog 47 #[.string s, .int .i64 10, .int .i64 64] w (IFell (Lib.intSat 64 s.data.toList) w) := by
  obtain ⟨te, pe, hc⟩ := hv.rng
  exact (Tryd.strconv_ParseInt_10_at64_range s hz h (.iface te pe) w hc (.inr ⟨te, pe, rfl⟩)).mono fun e w' ⟨N, he, _, _, hb⟩ => ⟨N, he, hb⟩

theorem sat_bd (l : List UInt8) : -9223372036854775808 ≤ Lib.intSat 64 l ∧ Lib.intSat 64 l ≤ 9223372036854775807 := by
  unfold Lib.intSat
  split <;> omega

set_option maxHeartbeats 400000 in
theorem number_yes (n : Int) (h0 : -9223372036854775808 ≤ n) (h1 : n ≤ 9223372036854775807) (hz : (decS n).size ≤ 281474976710656) (w : World) (hv : Vars w) :
    Calls Tryd.prog 23 #[.string (decS n)] w fun e w' => e = .returned (numYes n) ∧ Below w.heap.size w w' := by
  have HV := Lib.hid hv
  have HR : Hid (Lib.parseIntB 64 (decS n).data.toList = .ok n) := Lib.hid (int_read n h0 h1)
  clear hv
  generalize hs : decS n = s at hz HR ⊢
  have HSS := Lib.hid hs
  clear hs
  go_enter Tryd.func23, Tryd.ntmps23
  go_wp2_with fail
  refine (int_ok s hz n HR.out _).mono ?_
  rintro e w1 ⟨rfl, hb1⟩
  have HB := Lib.hid hb1
  clear hb1
  go_wp2_with fail
  refine (formatInt_any n h0 h1 _ (HV.out.below HB.out)).mono ?_
  rw [HSS.out]
  rintro e w3 ⟨rfl, hb3⟩
  have HB3 := Lib.hid hb3
  clear hb3
  go_wp2_with fail
  go_ret2
  exact ⟨rfl, HB.out.trans (HB3.out.mono HB.out.size)⟩

set_option maxHeartbeats 800000 in
theorem number_no (s : ByteArray) (hz : s.size ≤ 281474976710656) (hno : ∀ n, -9223372036854775808 ≤ n → n ≤ 9223372036854775807 → decS n ≠ s) (w : World) (hv : Vars w) :
    Calls Tryd.prog 23 #[.string s] w fun e w' => e = .returned numNo ∧ Below w.heap.size w w' := by
  have HV := Lib.hid hv
  have HK : Hid (∀ m, -9223372036854775808 ≤ m → m ≤ 9223372036854775807 → ((decS m).toList == s.toList) = false) := Lib.hid fun m a b => bytes_ne (hno m a b)
  clear hv hno
  rcases hr : Lib.parseIntB 64 s.data.toList with m | _ | _
  ·
    obtain ⟨m0, m1⟩ := Lib.parseIntB_bounds hr
    have m0' : -9223372036854775808 ≤ m := by omega
    have m1' : m ≤ 9223372036854775807 := by omega
    have HR := Lib.hid hr
    clear hr m0 m1
    go_enter Tryd.func23, Tryd.ntmps23
    go_wp2_with fail
    refine (int_ok s hz m HR.out _).mono ?_
    rintro e w1 ⟨rfl, hb1⟩
    have HB := Lib.hid hb1
    clear hb1
    go_wp2_with fail
    refine (formatInt_any m m0' m1' _ (HV.out.below HB.out)).mono ?_
    have hne := HK.out m m0' m1'
    generalize decS m = x at hne
    rintro e w3 ⟨rfl, hb3⟩
    have HB3 := Lib.hid hb3
    clear hb3
    go_wp2_with fail
    go_ret2
    exact ⟨rfl, HB.out.trans (HB3.out.mono HB.out.size)⟩
  ·
    have HR := Lib.hid hr
    clear hr
    go_enter Tryd.func23, Tryd.ntmps23
    go_wp2_with fail
    refine (int_bad s hz HR.out _ HV.out).mono ?_
    rintro e w1 ⟨N, rfl, hb1⟩
    have HB := Lib.hid hb1
    clear hb1
    go_wp2_with fail
    go_ret2
    exact ⟨rfl, HB.out⟩
  ·
    have HR := Lib.hid hr
    obtain ⟨m0', m1'⟩ := sat_bd s.data.toList
    clear hr
    go_enter Tryd.func23, Tryd.ntmps23
    go_wp2_with fail
    refine (int_range s hz HR.out _ HV.out).mono ?_
    generalize Lib.intSat 64 s.data.toList = m at m0' m1'
    rintro e w1 ⟨N, rfl, hb1⟩
    have HB := Lib.hid hb1
    clear hb1
    go_wp2_with fail
    go_ret2
    exact ⟨rfl, HB.out⟩

set_option maxHeartbeats 400000 in
theorem refNumber_yes (n : Int) (h0 : -9223372036854775808 ≤ n) (h1 : n ≤ 9223372036854775807) (hz : (decS n).size ≤ 281474976710656) (w : World) (hv : Vars w) :
    Calls Tryd.prog 24 #[.string (decS n)] w fun e w' => e = .returned (numYes n) ∧ Below w.heap.size w w' := by
  have HV := Lib.hid hv
  have HR : Hid (Lib.parseIntB 64 (decS n).data.toList = .ok n) := Lib.hid (int_read n h0 h1)
  clear hv
  generalize hs : decS n = s at hz HR ⊢
  have HSS := Lib.hid hs
  clear hs
  go_enter Tryd.func24, Tryd.ntmps24
  go_wp2_with fail
  refine (int_ok s hz n HR.out _).mono ?_
  rintro e w1 ⟨rfl, hb1⟩
  have HB := Lib.hid hb1
  clear hb1
  go_wp2_with fail
  refine (formatInt_any n h0 h1 _ (HV.out.below HB.out)).mono ?_
  rw [HSS.out]
  rintro e w3 ⟨rfl, hb3⟩
  have HB3 := Lib.hid hb3
  clear hb3
  go_wp2_with fail
  go_ret2
  exact ⟨rfl, HB.out.trans (HB3.out.mono HB.out.size)⟩

set_option maxHeartbeats 800000 in
theorem refNumber_no (s : ByteArray) (hz : s.size ≤ 281474976710656) (hno : ∀ n, -9223372036854775808 ≤ n → n ≤ 9223372036854775807 → decS n ≠ s) (w : World) (hv : Vars w) :
    Calls Tryd.prog 24 #[.string s] w fun e w' => e = .returned numNo ∧ Below w.heap.size w w' := by
  have HV := Lib.hid hv
  have HK : Hid (∀ m, -9223372036854775808 ≤ m → m ≤ 9223372036854775807 → ((decS m).toList == s.toList) = false) := Lib.hid fun m a b => bytes_ne (hno m a b)
  clear hv hno
  rcases hr : Lib.parseIntB 64 s.data.toList with m | _ | _
  ·
    obtain ⟨m0, m1⟩ := Lib.parseIntB_bounds hr
    have m0' : -9223372036854775808 ≤ m := by omega
    have m1' : m ≤ 9223372036854775807 := by omega
    have HR := Lib.hid hr
    clear hr m0 m1
    go_enter Tryd.func24, Tryd.ntmps24
    go_wp2_with fail
    refine (int_ok s hz m HR.out _).mono ?_
    rintro e w1 ⟨rfl, hb1⟩
    have HB := Lib.hid hb1
    clear hb1
    go_wp2_with fail
    refine (formatInt_any m m0' m1' _ (HV.out.below HB.out)).mono ?_
    have hne := HK.out m m0' m1'
    generalize decS m = x at hne
    rintro e w3 ⟨rfl, hb3⟩
    have HB3 := Lib.hid hb3
    clear hb3
    go_wp2_with fail
    go_ret2
    exact ⟨rfl, HB.out.trans (HB3.out.mono HB.out.size)⟩
  ·
    have HR := Lib.hid hr
    clear hr
    go_enter Tryd.func24, Tryd.ntmps24
    go_wp2_with fail
    refine (int_bad s hz HR.out _ HV.out).mono ?_
    rintro e w1 ⟨N, rfl, hb1⟩
    have HB := Lib.hid hb1
    clear hb1
    go_wp2_with fail
    refine (formatInt_any 0 (by omega) (by omega) _ (HV.out.below HB.out)).mono ?_
    have hne := HK.out 0 (by omega) (by omega)
    generalize decS 0 = x at hne
    rintro e w3 ⟨rfl, hb3⟩
    have HB3 := Lib.hid hb3
    clear hb3
    go_wp2_with fail
    go_ret2
    exact ⟨rfl, HB.out.trans (HB3.out.mono HB.out.size)⟩
  ·
    have HR := Lib.hid hr
    obtain ⟨m0', m1'⟩ := sat_bd s.data.toList
    clear hr
    go_enter Tryd.func24, Tryd.ntmps24
    go_wp2_with fail
    refine (int_range s hz HR.out _ HV.out).mono ?_
    generalize Lib.intSat 64 s.data.toList = m at m0' m1'
    rintro e w1 ⟨N, rfl, hb1⟩
    have HB := Lib.hid hb1
    clear hb1
    go_wp2_with fail
    refine (formatInt_any m m0' m1' _ (HV.out.below HB.out)).mono ?_
    have hne := HK.out m m0' m1'
    generalize decS m = x at hne
    rintro e w3 ⟨rfl, hb3⟩
    have HB3 := Lib.hid hb3
    clear hb3
    go_wp2_with fail
    go_ret2
    exact ⟨rfl, HB.out.trans (HB3.out.mono HB.out.size)⟩
end Go.Proofs.YtnnldhgjmlohmaaDoor.Nums
