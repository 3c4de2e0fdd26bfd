/- Enabled, Plain: the document's, the program's. -/
import Derived.Test.YtfafhkhamaccfaaTaK
namespace Go.Proofs.Ytfafhkhamaccfaa.Tr
open Go.ChangeShapes Go.WideShapes Go.ChangeAt Go.RowKit Own wordsNames

/-- What Enabled says. -/
def enV (L : List Nd) (i er : Int) : Bool := if er = 0 then onAll L (aboveN L i.toNat) else false
theorem enV_bad (L : List Nd) (i : Int) {er : Int} (h : er ≠ 0) : enV L i er = false := if_neg h
theorem enV_ok (L : List Nd) (j : Nat) : enV L (j : Int) 0 = onAll L (aboveN L j) := by unfold enV; rw [if_pos rfl, Int.toNat_natCast]
def bareB (L : List Nd) (j : Nat) : Bool := !(look (L.getD j nd0).props compatN).isSome && onAll L (aboveN L j)
/-- What Plain says. -/
def plV (L : List Nd) (i er : Int) : Bool := if er = 0 then bareB L i.toNat else false
theorem plV_bad (L : List Nd) (i : Int) {er : Int} (h : er ≠ 0) : plV L i er = false := if_neg h
theorem plV_ok (L : List Nd) (j : Nat) : plV L (j : Int) 0 = bareB L j := by unfold plV; rw [if_pos rfl, Int.toNat_natCast]
theorem compatN_str : str compatN = ⟨#[99, 111, 109, 112, 97, 116, 105, 98, 108, 101]⟩ := rfl
set_option maxHeartbeats 2000000 in
theorem refEnabled_any (A : Option Addr) (c n : Nat) (L : List Nd) (R : List Sl) (i er : Int) (w : World) (hp : Pl L i er) (hm : Mild L) (hA : NodesIn w A n L R) :
    Calls Try.prog 30 #[.slice A n c, .int .i64 i] w fun e w' => e = .returned (.tuple #[.bool (enV L i er), .int .i64 er]) ∧ Below w.heap.size w w' := by
  have HW := Lib.hid (wrong_any A c n L R i er w hp hm hA)
  rcases pl_err hp with rfl | rfl | ⟨rfl, h1, h2, _⟩
  case' inr.inr =>
    obtain ⟨j, rfl⟩ : ∃ j : Nat, i = (j : Int) := ⟨i.toNat, by omega⟩
    have hn := hA.1
    subst hn
    have hnb : L.length ≤ 16777216 := hm.1
    have HNX := Lib.hid (pl_next hp rfl)
    have GA := Lib.hid hA
    have hjl : j < L.length := by omega
    have HV := Lib.hid (enV_ok L j)
    clear hp hm hA h1 h2
    go_enter Try.func30, Try.ntmps30
    go_wp2_with fail
    refine HW.out.mono ?_
    rintro e w2 ⟨rfl, hb⟩
    have HB := Lib.hid hb
    clear hb
    have HC := Lib.hid (refOn_any A c L.length j L R w2 hjl hnb HNX.out (GA.out.below HB.out))
    go_wp2_with fail
    refine HC.out.mono ?_
    rintro e w3 ⟨rfl, hb3⟩
    have HB3 := Lib.hid (bt HB.out hb3)
    clear hb3
    go_wp2_with fail
    go_ret2
    rw [HV.out]
    exact ⟨rfl, HB3.out⟩
  all_goals
    rw [enV_bad L i (by omega)]
    clear hp hm hA
    go_enter Try.func30, Try.ntmps30
    go_wp2_with fail
    refine HW.out.mono ?_
    rintro e w2 ⟨rfl, hb⟩
    go_wp2_with fail
    go_ret2
    exact ⟨rfl, hb⟩
set_option maxHeartbeats 2000000 in
theorem tEnabled_any (A : Option Addr) (c n : Nat) (L : List Nd) (R : List Sl) (i er : Int) (w : World) (hp : Pl L i er) (hm : Mild L) (hw : Wf L) (hcp : Caps R) (hA : NodesIn w A n L R) :
    Calls Try.prog 29 #[.slice A n c, .int .i64 i] w fun e w' => e = .returned (.tuple #[.bool (enV L i er), .int .i64 er]) ∧ Below w.heap.size w w' := by
  have HW := Lib.hid (place_any A c n L R i er w hp hm hw hcp hA)
  rcases pl_err hp with rfl | rfl | ⟨rfl, h1, h2, _⟩
  case' inr.inr =>
    obtain ⟨j, rfl⟩ : ∃ j : Nat, i = (j : Int) := ⟨i.toNat, by omega⟩
    have hn := hA.1
    subst hn
    have hnb : L.length ≤ 16777216 := hm.1
    have HNX := Lib.hid (pl_next hp rfl)
    have GA := Lib.hid hA
    have hjl : j < L.length := by omega
    have HV := Lib.hid (enV_ok L j)
    clear hp hm hw hcp hA h1 h2
    go_enter Try.func29, Try.ntmps29
    go_wp2_with fail
    refine HW.out.mono ?_
    rintro e w2 ⟨rfl, hb⟩
    have HB := Lib.hid hb
    clear hb
    have HC := Lib.hid (isEnabled_any A c L.length j L R w2 hjl hnb HNX.out (GA.out.below HB.out))
    go_wp2_with fail
    refine HC.out.mono ?_
    rintro e w3 ⟨rfl, hb3⟩
    have HB3 := Lib.hid (bt HB.out hb3)
    clear hb3
    go_wp2_with fail
    go_ret2
    rw [HV.out]
    exact ⟨rfl, HB3.out⟩
  all_goals
    rw [enV_bad L i (by omega)]
    clear hp hm hw hcp hA
    go_enter Try.func29, Try.ntmps29
    go_wp2_with fail
    refine HW.out.mono ?_
    rintro e w2 ⟨rfl, hb⟩
    go_wp2_with fail
    go_ret2
    exact ⟨rfl, hb⟩
set_option maxHeartbeats 4000000 in
theorem refBare_any (A : Option Addr) (c n j : Nat) (L : List Nd) (R : List Sl) (w : World) (hj : j < n) (hnb : n ≤ 16777216) (hn : ∀ k, k < n → nextOk L k) (hA : NodesIn w A n L R) :
    Calls Try.prog 46 #[.slice A n c, .int .i64 (j : Int)] w fun e w' => e = .returned (.bool (bareB L j)) ∧ Below w.heap.size w w' := by
  have HO := Lib.hid fun (W : World) (hW : Below w.heap.size w W) => refOn_any A c n j L R W hj hnb hn (hA.below hW)
  have hok := node_ok hn hj
  obtain ⟨b, o, rfl, hbs, hc⟩ := hA.at (by omega)
  obtain ⟨⟨e1, e2, e3⟩, e4⟩ := hc j hj
  have HC := Lib.hid (refValueOf_any (L.getD j nd0) (R.getD j sl0) compatN w (by have := hok.1; omega) e4)
  unfold ndV at HC
  rw [compatN_str] at HC
  have HV : Hid (bareB L j = (!(look (L.getD j nd0).props compatN).isSome && onAll L (aboveN L j))) := Lib.hid rfl
  clear hc e4 hok hA hn
  generalize L.getD j nd0 = d at e1 e2 HC HV
  generalize R.getD j sl0 = r at e3 HC
  generalize str d.name = NM at e2 HC
  generalize onAll L (aboveN L j) = g at HO HV
  have p1 : (0 : Int) ≤ (j : Int) := by omega
  have p2 : (j : Int) < (n : Int) := by omega
  go_enter Try.func46, Try.ntmps46
  go_wp2_with fail
  refine HC.out.mono ?_
  rintro e w2 ⟨rfl, b2⟩
  have HB2 := Lib.hid b2
  clear b2 HC e1 e2 e3
  generalize look d.props compatN = q at HV ⊢
  cases q with
  | some v =>
    go_wp2_with fail
    go_ret
    rw [HV.out]
    exact ⟨rfl, HB2.out⟩
  | none =>
    go_wp2_with fail
    refine (HO.out _ HB2.out).mono ?_
    rintro e w3 ⟨rfl, b3⟩
    have HB3 := Lib.hid (bt HB2.out b3)
    clear b3
    go_wp2_with fail
    go_ret
    rw [HV.out]
    exact ⟨by simp, HB3.out⟩
set_option maxHeartbeats 2000000 in
theorem refPlain_any (A : Option Addr) (c n : Nat) (L : List Nd) (R : List Sl) (i er : Int) (w : World) (hp : Pl L i er) (hm : Mild L) (hA : NodesIn w A n L R) :
    Calls Try.prog 32 #[.slice A n c, .int .i64 i] w fun e w' => e = .returned (.tuple #[.bool (plV L i er), .int .i64 er]) ∧ Below w.heap.size w w' := by
  have HW := Lib.hid (wrong_any A c n L R i er w hp hm hA)
  rcases pl_err hp with rfl | rfl | ⟨rfl, h1, h2, _⟩
  case' inr.inr =>
    obtain ⟨j, rfl⟩ : ∃ j : Nat, i = (j : Int) := ⟨i.toNat, by omega⟩
    have hn := hA.1
    subst hn
    have hnb : L.length ≤ 16777216 := hm.1
    have HNX := Lib.hid (pl_next hp rfl)
    have GA := Lib.hid hA
    have hjl : j < L.length := by omega
    have HV := Lib.hid (plV_ok L j)
    clear hp hm hA h1 h2
    go_enter Try.func32, Try.ntmps32
    go_wp2_with fail
    refine HW.out.mono ?_
    rintro e w2 ⟨rfl, hb⟩
    have HB := Lib.hid hb
    clear hb
    have HC := Lib.hid (refBare_any A c L.length j L R w2 hjl hnb HNX.out (GA.out.below HB.out))
    go_wp2_with fail
    refine HC.out.mono ?_
    rintro e w3 ⟨rfl, hb3⟩
    have HB3 := Lib.hid (bt HB.out hb3)
    clear hb3
    go_wp2_with fail
    go_ret2
    rw [HV.out]
    exact ⟨rfl, HB3.out⟩
  all_goals
    rw [plV_bad L i (by omega)]
    clear hp hm hA
    go_enter Try.func32, Try.ntmps32
    go_wp2_with fail
    refine HW.out.mono ?_
    rintro e w2 ⟨rfl, hb⟩
    go_wp2_with fail
    go_ret2
    exact ⟨rfl, hb⟩
set_option maxHeartbeats 2000000 in
theorem tPlain_any (A : Option Addr) (c n : Nat) (L : List Nd) (R : List Sl) (i er : Int) (w : World) (hp : Pl L i er) (hm : Mild L) (hw : Wf L) (hcp : Caps R) (hA : NodesIn w A n L R) :
    Calls Try.prog 31 #[.slice A n c, .int .i64 i] w fun e w' => e = .returned (.tuple #[.bool (plV L i er), .int .i64 er]) ∧ Below w.heap.size w w' := by
  have HW := Lib.hid (place_any A c n L R i er w hp hm hw hcp hA)
  rcases pl_err hp with rfl | rfl | ⟨rfl, h1, h2, _⟩
  case' inr.inr =>
    obtain ⟨j, rfl⟩ : ∃ j : Nat, i = (j : Int) := ⟨i.toNat, by omega⟩
    have hn := hA.1
    subst hn
    have hnb : L.length ≤ 16777216 := hm.1
    have HNX := Lib.hid (pl_next hp rfl)
    have GA := Lib.hid hA
    have hjl : j < L.length := by omega
    have HV := Lib.hid (plV_ok L j)
    clear hp hm hw hcp hA h1 h2
    go_enter Try.func31, Try.ntmps31
    go_wp2_with fail
    refine HW.out.mono ?_
    rintro e w2 ⟨rfl, hb⟩
    have HB := Lib.hid hb
    clear hb
    have HO := Lib.hid fun (W : World) (hW : Below w.heap.size w W) => isEnabled_any A c L.length j L R W hjl hnb HNX.out (GA.out.below hW)
    obtain ⟨b, o, rfl, hbs, hc⟩ := (GA.out.below HB.out).at (by omega)
    obtain ⟨⟨e1, e2, e3⟩, e4⟩ := hc j hjl
    have hok := node_ok HNX.out hjl
    have HC := Lib.hid (valueOf_any (L.getD j nd0) (R.getD j sl0) compatN w2 (by have := hok.1; omega) e4)
    unfold ndV at HC
    rw [compatN_str] at HC
    have HBV : Hid (bareB L j = (!(look (L.getD j nd0).props compatN).isSome && onAll L (aboveN L j))) := Lib.hid rfl
    clear hc e4 hok
    generalize L.getD j nd0 = d at e1 e2 HC HBV
    generalize R.getD j sl0 = r at e3 HC
    generalize str d.name = NM at e2 HC
    generalize onAll L (aboveN L j) = g at HO HBV
    have j1 : (0 : Int) ≤ (j : Int) := by omega
    have j2 : (j : Int) < (L.length : Int) := by omega
    go_wp2_with fail
    refine HC.out.mono ?_
    rintro e w3 ⟨rfl, hb3⟩
    have HB3 := Lib.hid (bt HB.out hb3)
    clear hb3 HC e1 e2 e3
    generalize look d.props compatN = q at HBV ⊢
    cases q with
    | some v =>
      simp only [lookE, Option.isSome_some]
      go_wp2_with fail
      go_ret2
      rw [HV.out, HBV.out]
      exact ⟨rfl, HB3.out⟩
    | none =>
      simp only [lookE, Option.isSome_none]
      go_wp2_with fail
      refine (HO.out _ HB3.out).mono ?_
      rintro e w4 ⟨rfl, b4⟩
      have HB4 := Lib.hid (bt HB3.out b4)
      clear b4
      go_wp2_with fail
      go_ret2
      rw [HV.out, HBV.out]
      exact ⟨by simp, HB4.out⟩
  all_goals
    rw [plV_bad L i (by omega)]
    clear hp hm hw hcp hA
    go_enter Try.func31, Try.ntmps31
    go_wp2_with fail
    refine HW.out.mono ?_
    rintro e w2 ⟨rfl, hb⟩
    go_wp2_with fail
    go_ret2
    exact ⟨rfl, hb⟩
end Go.Proofs.Ytfafhkhamaccfaa.Tr
