/- A node's handle, whether its status turns it off, what it says that it is: the document's, the program's. -/
import Derived.Test.YtfafhkhamaccfaaTaH
import Derived.Test.YtfafhkhamaccfaaClI
namespace Go.Proofs.Ytfafhkhamaccfaa.Tr
open Go.ChangeShapes Go.WideShapes Go.ChangeAt Go.RowKit Own wordsNames

theorem ok_calm {ps : List Pr} (h : propsOk ps) : ps.length ≤ 16777216 ∧ Calm ps := by
  refine ⟨by have := h.1; omega, fun i => ?_⟩
  by_cases hi : i < ps.length
  · have h1 := (h.2 i hi).1
    have h2 := (name_facts h1.1).2.1
    exact ⟨by omega, by have := h1.2; omega⟩
  · rw [List.getD_eq_getElem?_getD, List.getElem?_eq_none (by omega)]
    exact ⟨by simp, by simp⟩
theorem ok_len {ps : List Pr} (h : propsOk ps) {nm v : List UInt8} (hv : look ps nm = some v) : v.length ≤ 1024 := by
  obtain ⟨i, h1, rfl⟩ := look_in ps nm v hv
  exact (h.2 i h1).1.2
theorem look_len {ps : List Pr} (h : propsOk ps) (nm : List UInt8) : (lookT (look ps nm)).length ≤ 1024 := by
  cases hl : look ps nm with
  | none => exact Nat.zero_le _
  | some v => exact ok_len h hl
def handleN : List UInt8 := [112, 104, 97, 110, 100, 108, 101]
def statusN : List UInt8 := [115, 116, 97, 116, 117, 115]
def compatN : List UInt8 := [99, 111, 109, 112, 97, 116, 105, 98, 108, 101]
def okayN : List UInt8 := [111, 107, 97, 121]
/-- A node's handle; 0: it has none. -/
def hV (ps : List Pr) : Nat := match look ps handleN with
  | none => 0
  | some v => if (Cl.oneV v).2 = 0 then (Cl.oneV v).1 else 0
/-- Does its status leave a node on? -/
def onP (ps : List Pr) : Bool := match look ps statusN with
  | none => true
  | some v => decide ((Cl.tOne v).2 = 0 ∧ (Cl.tOne v).1 = okayN)
/-- What a node says that it is. -/
def saysV (ps : List Pr) : List ByteArray := match look ps compatN with
  | none => []
  | some v => Cl.tx v
theorem str_toList (l : List UInt8) : (str l).toList = l := by rw [Lib.toList_data]; rfl
theorem node_ok {L : List Nd} {n j : Nat} (hn : ∀ k, k < n → nextOk L k) (hj : j < n) : propsOk (L.getD j nd0).props := (hn j hj).2.1
/-- What Value says. -/
def valT (L : List Nd) (i er : Int) (nm : List UInt8) : List UInt8 := if er = 0 then lookT (look (L.getD i.toNat nd0).props nm) else []
def valE (L : List Nd) (i er : Int) (nm : List UInt8) : Int := if er = 0 then lookE (look (L.getD i.toNat nd0).props nm) else er
theorem valT_bad (L : List Nd) (i : Int) {er : Int} (nm : List UInt8) (h : er ≠ 0) : valT L i er nm = [] := if_neg h
theorem valE_bad (L : List Nd) (i : Int) {er : Int} (nm : List UInt8) (h : er ≠ 0) : valE L i er nm = er := if_neg h
set_option maxHeartbeats 2000000 in
theorem refValue_any (A : Option Addr) (c n : Nat) (L : List Nd) (R : List Sl) (i er : Int) (nm : List UInt8) (w : World) (hp : Pl L i er) (hm : Mild L) (hA : NodesIn w A n L R) :
    Calls Try.prog 26 #[.slice A n c, .int .i64 i, .string (str nm)] w fun e w' => e = .returned (.tuple #[.string (str (valT L i er nm)), .int .i64 (valE L i er nm)]) ∧ Below w.heap.size w w' := by
  have HW := Lib.hid (wrong_any A c n L R i er w hp hm hA)
  rcases pl_err hp with rfl | rfl | ⟨rfl, h1, h2, _⟩
  case' inr.inr =>
    obtain ⟨j, rfl⟩ : ∃ j : Nat, i = (j : Int) := ⟨i.toNat, by omega⟩
    have hn := hA.1
    subst hn
    have hnb : L.length ≤ 16777216 := hm.1
    have HNX := Lib.hid (pl_next hp rfl)
    have GA := Lib.hid hA
    have hjl : j < L.length := by omega
    have HV : Hid (valT L (j : Int) 0 nm = lookT (look (L.getD j nd0).props nm) ∧ valE L (j : Int) 0 nm = lookE (look (L.getD j nd0).props nm)) := Lib.hid (by unfold valT valE; rw [if_pos rfl, if_pos rfl, Int.toNat_natCast]; exact ⟨rfl, rfl⟩)
    clear hp hm hA h1 h2
    go_enter Try.func26, Try.ntmps26
    go_wp2_with fail
    refine HW.out.mono ?_
    rintro e w2 ⟨rfl, hb⟩
    have HB := Lib.hid hb
    clear hb
    obtain ⟨b, o, rfl, hbs, hc⟩ := (GA.out.below HB.out).at (by omega)
    obtain ⟨⟨e1, e2, e3⟩, e4⟩ := hc j (by omega)
    have hok := node_ok HNX.out (j := j) (by omega)
    have HC := Lib.hid (refValueOf_any (L.getD j nd0) (R.getD j sl0) nm w2 (by have := hok.1; omega) e4)
    unfold ndV at HC
    clear hc e4 hok
    generalize L.getD j nd0 = d at e1 e2 HC HV
    generalize R.getD j sl0 = r at e3 HC
    generalize str d.name = NM at e2 HC
    have j1 : (0 : Int) ≤ (j : Int) := by omega
    have j2 : (j : Int) < (L.length : Int) := by omega
    go_wp2_with fail
    refine HC.out.mono ?_
    rintro e w3 ⟨rfl, hb3⟩
    have HB3 := Lib.hid (bt HB.out hb3)
    clear hb3
    cases hl : look d.props nm with
    | none =>
      rw [hl] at HV
      go_wp2_with fail
      go_ret2
      rw [HV.out.1, HV.out.2]
      exact ⟨rfl, HB3.out⟩
    | some v =>
      rw [hl] at HV
      go_wp2_with fail
      go_ret2
      rw [HV.out.1, HV.out.2]
      exact ⟨rfl, HB3.out⟩
  all_goals
    rw [valT_bad L i nm (by omega), valE_bad L i nm (by omega)]
    clear hp hm hA
    go_enter Try.func26, Try.ntmps26
    go_wp2_with fail
    refine HW.out.mono ?_
    rintro e w2 ⟨rfl, hb⟩
    go_wp2_with fail
    go_ret2
    exact ⟨rfl, hb⟩
set_option maxHeartbeats 2000000 in
theorem tValue_any (A : Option Addr) (c n : Nat) (L : List Nd) (R : List Sl) (i er : Int) (nm : List UInt8) (w : World) (hp : Pl L i er) (hm : Mild L) (hw : Wf L) (hcp : Caps R) (hA : NodesIn w A n L R) :
    Calls Try.prog 25 #[.slice A n c, .int .i64 i, .string (str nm)] w fun e w' => e = .returned (.tuple #[.string (str (valT L i er nm)), .int .i64 (valE L i er nm)]) ∧ Below w.heap.size w w' := by
  have HW := Lib.hid (place_any A c n L R i er w hp hm hw hcp hA)
  rcases pl_err hp with rfl | rfl | ⟨rfl, h1, h2, _⟩
  case' inr.inr =>
    obtain ⟨j, rfl⟩ : ∃ j : Nat, i = (j : Int) := ⟨i.toNat, by omega⟩
    have hn := hA.1
    subst hn
    have hnb : L.length ≤ 16777216 := hm.1
    have HNX := Lib.hid (pl_next hp rfl)
    have GA := Lib.hid hA
    have hjl : j < L.length := by omega
    have HV : Hid (valT L (j : Int) 0 nm = lookT (look (L.getD j nd0).props nm) ∧ valE L (j : Int) 0 nm = lookE (look (L.getD j nd0).props nm)) := Lib.hid (by unfold valT valE; rw [if_pos rfl, if_pos rfl, Int.toNat_natCast]; exact ⟨rfl, rfl⟩)
    clear hp hm hw hcp hA h1 h2
    go_enter Try.func25, Try.ntmps25
    go_wp2_with fail
    refine HW.out.mono ?_
    rintro e w2 ⟨rfl, hb⟩
    have HB := Lib.hid hb
    clear hb
    obtain ⟨b, o, rfl, hbs, hc⟩ := (GA.out.below HB.out).at (by omega)
    obtain ⟨⟨e1, e2, e3⟩, e4⟩ := hc j (by omega)
    have hok := node_ok HNX.out (j := j) (by omega)
    have HC := Lib.hid (valueOf_any (L.getD j nd0) (R.getD j sl0) nm w2 (by have := hok.1; omega) e4)
    unfold ndV at HC
    clear hc e4 hok
    generalize L.getD j nd0 = d at e1 e2 HC HV
    generalize R.getD j sl0 = r at e3 HC
    generalize str d.name = NM at e2 HC
    have j1 : (0 : Int) ≤ (j : Int) := by omega
    have j2 : (j : Int) < (L.length : Int) := by omega
    go_wp2_with fail
    refine HC.out.mono ?_
    rintro e w3 ⟨rfl, hb3⟩
    have HB3 := Lib.hid (bt HB.out hb3)
    clear hb3
    go_wp2_with fail
    go_ret2
    rw [HV.out.1, HV.out.2]
    exact ⟨rfl, HB3.out⟩
  all_goals
    rw [valT_bad L i nm (by omega), valE_bad L i nm (by omega)]
    clear hp hm hw hcp hA
    go_enter Try.func25, Try.ntmps25
    go_wp2_with fail
    refine HW.out.mono ?_
    rintro e w2 ⟨rfl, hb⟩
    go_wp2_with fail
    go_ret2
    exact ⟨rfl, hb⟩
end Go.Proofs.Ytfafhkhamaccfaa.Tr
