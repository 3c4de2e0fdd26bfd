/- Handles: the document's Named, HandleOf, the program's handleOf, HandleOf. -/
import Derived.Test.YtfafhkhamaccfaaTaI
namespace Go.Proofs.Ytfafhkhamaccfaa.Tr
open Go.ChangeShapes Go.WideShapes Go.ChangeAt Go.RowKit Own wordsNames

theorem hV_none {ps : List Pr} (h : look ps handleN = none) : hV ps = 0 := by unfold hV; rw [h]
theorem hV_bad {ps : List Pr} {v : List UInt8} (h : look ps handleN = some v) (he : (Cl.oneV v).2 ≠ 0) : hV ps = 0 := by
  unfold hV
  rw [h]
  exact if_neg he
theorem hV_some {ps : List Pr} {v : List UInt8} (h : look ps handleN = some v) (he : (Cl.oneV v).2 = 0) : hV ps = (Cl.oneV v).1 := by
  unfold hV
  rw [h]
  exact if_pos he
theorem one_zero {v : List UInt8} (h : (Cl.oneV v).2 ≠ 0) : (Cl.oneV v).1 = 0 := by
  unfold Cl.oneV at h ⊢
  split
  · rename_i hl
    rw [if_pos hl] at h
    exact absurd rfl h
  · rfl
theorem one_lt (v : List UInt8) : (Cl.oneV v).1 < 4294967296 := by
  unfold Cl.oneV
  split
  · rename_i h
    have := Cl.num_lt v
    rw [h] at this
    show Cl.num v < _
    omega
  · show 0 < _
    omega
/-- The error where a node has this handle. -/
def hdX (h : Nat) : Int := if h = 0 then 6 else 0
theorem hdX_pos {h : Nat} (h0 : h ≠ 0) : hdX h = 0 := if_neg h0
theorem handleN_str : str handleN = ⟨#[112, 104, 97, 110, 100, 108, 101]⟩ := rfl
set_option maxHeartbeats 2000000 in
theorem refNamed_any (d : Nd) (r : Sl) (w : World) (hp : propsOk d.props) (hA : PropsIn w r.1 r.2.1 d.props) :
    Calls Try.prog 43 #[ndV d r] w fun e w' => e = .returned (.int .u32 (hV d.props : Int)) ∧ Below w.heap.size w w' := by
  have HV := Lib.hid fun (W : World) (hW : Below w.heap.size w W) => refValueOf_any d r handleN W (by have := hp.1; omega) (hA.below hW)
  have HO := Lib.hid fun (W : World) => Cl.refOne_any (str (lookT (look d.props handleN))) W (by have := look_len hp handleN; rw [str_size]; omega)
  have HN := Lib.hid (hV_none (ps := d.props))
  have HG := Lib.hid (fun v => hV_bad (ps := d.props) (v := v))
  have HS := Lib.hid (fun v => hV_some (ps := d.props) (v := v))
  rw [str_list] at HO
  unfold ndV at HV ⊢
  rw [handleN_str] at HV
  generalize str d.name = NA at HV ⊢
  generalize look d.props handleN = q at HV HO HN HG HS
  clear hp hA
  have HB := Lib.hid (grows' w (.cells #[.int .i64 d.parent, .string NA, .slice r.1 r.2.1 r.2.2] 38))
  go_enter Try.func43, Try.ntmps43
  go_wp2_with fail
  refine (HV.out _ HB.out).mono ?_
  rintro e w2 ⟨rfl, b2⟩
  have HB2 := Lib.hid (bt HB.out b2)
  clear b2
  go_wp2_with fail
  refine (HO.out _).mono ?_
  rintro e w3 ⟨rfl, b3⟩
  have HB3 := Lib.hid (bt HB2.out b3)
  clear b3
  cases q with
  | none =>
    have HX := Lib.hid (HN.out rfl)
    clear HN HG HS
    go_wp2_with fail
    go_ret
    rw [HX.out]
    exact ⟨rfl, HB3.out⟩
  | some v =>
    have HG := Lib.hid (HG.out v rfl)
    have HS := Lib.hid (HS.out v rfl)
    clear HN
    simp only [lookT, Option.getD_some, Option.isSome_some] at HV HO ⊢
    by_cases he : (Cl.oneV v).2 = 0
    · have HX := Lib.hid (HS.out he)
      have t1 : ((Cl.oneV v).2 != 0) = false := by simp [he]
      clear HG HS
      go_wp2_with fail
      go_ret
      rw [HX.out]
      exact ⟨rfl, HB3.out⟩
    · have HX := Lib.hid (HG.out he)
      have t1 : ((Cl.oneV v).2 != 0) = true := bne_iff_ne.2 he
      clear HG HS
      go_wp2_with fail
      go_ret
      rw [HX.out]
      exact ⟨rfl, HB3.out⟩
set_option maxHeartbeats 2000000 in
theorem handleOf_any (d : Nd) (r : Sl) (w : World) (hp : propsOk d.props) (hA : PropsIn w r.1 r.2.1 d.props) :
    Calls Try.prog 42 #[ndV d r] w fun e w' => e = .returned (.tuple #[.int .u32 (hV d.props : Int), .int .i64 (hdX (hV d.props))]) ∧ Below w.heap.size w w' := by
  have HV := Lib.hid fun (W : World) (hW : Below w.heap.size w W) => valueOf_any d r handleN W (by have := hp.1; omega) (hA.below hW)
  have HO := Lib.hid fun (W : World) => Cl.progOne_any (str (lookT (look d.props handleN))) W
  have HN := Lib.hid (hV_none (ps := d.props))
  have HG := Lib.hid (fun v => hV_bad (ps := d.props) (v := v))
  have HS := Lib.hid (fun v => hV_some (ps := d.props) (v := v))
  rw [str_list] at HO
  unfold ndV at HV ⊢
  rw [handleN_str] at HV
  generalize str d.name = NA at HV ⊢
  generalize look d.props handleN = q at HV HO HN HG HS
  generalize hV d.props = H0 at HN HG HS ⊢
  clear hp hA
  have HB := Lib.hid (grows' w (.cells #[.int .i64 d.parent, .string NA, .slice r.1 r.2.1 r.2.2] 38))
  cases q with
  | none =>
    obtain rfl := HN.out rfl
    clear HN HG HS HO
    go_enter Try.func42, Try.ntmps42
    go_wp2_with fail
    refine (HV.out _ HB.out).mono ?_
    rintro e w2 ⟨rfl, b2⟩
    have HB2 := Lib.hid (bt HB.out b2)
    clear b2
    go_wp2_with fail
    go_ret2
    exact ⟨rfl, HB2.out⟩
  | some v =>
    have HG := Lib.hid (HG.out v rfl)
    have HS := Lib.hid (HS.out v rfl)
    clear HN
    simp only [lookT, lookE, Option.getD_some, Option.isSome_some] at HV HO ⊢
    by_cases he : (Cl.oneV v).2 = 0
    case neg =>
      obtain rfl := HG.out he
      have t1 : ((Cl.oneV v).2 != 0) = true := bne_iff_ne.2 he
      clear he HG HS
      go_enter Try.func42, Try.ntmps42
      go_wp2_with fail
      refine (HV.out _ HB.out).mono ?_
      rintro e w2 ⟨rfl, b2⟩
      have HB2 := Lib.hid (bt HB.out b2)
      clear b2
      go_wp2_with fail
      refine (HO.out _).mono ?_
      rintro e w3 ⟨rfl, b3⟩
      have HB3 := Lib.hid (bt HB2.out b3)
      clear b3
      go_wp2_with fail
      go_ret2
      exact ⟨rfl, HB3.out⟩
    case pos =>
      have HX := Lib.hid (HS.out he)
      have t1 : ((Cl.oneV v).2 != 0) = false := by simp [he]
      have HY : Hid (((Cl.oneV v).1 : Int) = (H0 : Int)) := Lib.hid (by rw [HX.out])
      rw [HY.out] at HO
      clear HY HX
      clear he HG HS
      go_enter Try.func42, Try.ntmps42
      go_wp2_with fail
      refine (HV.out _ HB.out).mono ?_
      rintro e w2 ⟨rfl, b2⟩
      have HB2 := Lib.hid (bt HB.out b2)
      clear b2
      go_wp2_with fail
      refine (HO.out _).mono ?_
      rintro e w3 ⟨rfl, b3⟩
      have HB3 := Lib.hid (bt HB2.out b3)
      clear b3
      by_cases h0 : H0 = 0
      · subst h0
        go_wp2_with fail
        go_ret2
        exact ⟨rfl, HB3.out⟩
      · have t2 : ((H0 : Int) == 0) = false := beq_eq_false_iff_ne.2 (by omega)
        have H0N := Lib.hid h0
        clear h0
        go_wp2_with fail
        go_ret2
        rw [hdX_pos H0N.out]
        exact ⟨rfl, HB3.out⟩
/-- What HandleOf says. -/
def hdV (L : List Nd) (i er : Int) : Nat := if er = 0 then hV (L.getD i.toNat nd0).props else 0
def hdE (L : List Nd) (i er : Int) : Int := if er = 0 then hdX (hV (L.getD i.toNat nd0).props) else er
theorem hdV_bad (L : List Nd) (i : Int) {er : Int} (h : er ≠ 0) : hdV L i er = 0 := if_neg h
theorem hdE_bad (L : List Nd) (i : Int) {er : Int} (h : er ≠ 0) : hdE L i er = er := if_neg h
set_option maxHeartbeats 2000000 in
theorem refHandleOf_any (A : Option Addr) (c n : Nat) (L : List Nd) (R : List Sl) (i er : Int) (w : World) (hp : Pl L i er) (hm : Mild L) (hA : NodesIn w A n L R) :
    Calls Try.prog 28 #[.slice A n c, .int .i64 i] w fun e w' => e = .returned (.tuple #[.int .u32 (hdV L i er : Int), .int .i64 (hdE L i er)]) ∧ Below w.heap.size w w' := by
  have HW := Lib.hid (wrong_any A c n L R i er w hp hm hA)
  rcases pl_err hp with rfl | rfl | ⟨rfl, h1, h2, _⟩
  case' inr.inr =>
    obtain ⟨j, rfl⟩ : ∃ j : Nat, i = (j : Int) := ⟨i.toNat, by omega⟩
    have hn := hA.1
    subst hn
    have hnb : L.length ≤ 16777216 := hm.1
    have HNX := Lib.hid (pl_next hp rfl)
    have GA := Lib.hid hA
    have hjl : j < L.length := by omega
    have HV : Hid (hdV L (j : Int) 0 = hV (L.getD j nd0).props ∧ hdE L (j : Int) 0 = hdX (hV (L.getD j nd0).props)) := Lib.hid (by unfold hdV hdE; rw [if_pos rfl, if_pos rfl, Int.toNat_natCast]; exact ⟨rfl, rfl⟩)
    clear hp hm hA h1 h2
    go_enter Try.func28, Try.ntmps28
    go_wp2_with fail
    refine HW.out.mono ?_
    rintro e w2 ⟨rfl, hb⟩
    have HB := Lib.hid hb
    clear hb
    obtain ⟨b, o, rfl, hbs, hc⟩ := (GA.out.below HB.out).at (by omega)
    obtain ⟨⟨e1, e2, e3⟩, e4⟩ := hc j (by omega)
    have hok := node_ok HNX.out (j := j) (by omega)
    have HC := Lib.hid (refNamed_any (L.getD j nd0) (R.getD j sl0) w2 hok e4)
    unfold ndV at HC
    clear hc e4 hok
    generalize L.getD j nd0 = d at e1 e2 HC HV
    generalize R.getD j sl0 = r at e3 HC
    generalize str d.name = NM at e2 HC
    have j1 : (0 : Int) ≤ (j : Int) := by omega
    have j2 : (j : Int) < (L.length : Int) := by omega
    go_wp2_with fail
    refine HC.out.mono ?_
    rintro e w3 ⟨rfl, hb3⟩
    have HB3 := Lib.hid (bt HB.out hb3)
    clear hb3
    generalize hV d.props = H0 at HV ⊢
    by_cases h0 : H0 = 0
    · subst h0
      go_wp2_with fail
      go_ret2
      rw [HV.out.1, HV.out.2]
      exact ⟨rfl, HB3.out⟩
    · have t2 : ((H0 : Int) == 0) = false := beq_eq_false_iff_ne.2 (by omega)
      have H0N := Lib.hid h0
      clear h0
      go_wp2_with fail
      go_ret2
      rw [HV.out.1, HV.out.2, hdX_pos H0N.out]
      exact ⟨rfl, HB3.out⟩
  all_goals
    rw [hdV_bad L i (by omega), hdE_bad L i (by omega)]
    clear hp hm hA
    go_enter Try.func28, Try.ntmps28
    go_wp2_with fail
    refine HW.out.mono ?_
    rintro e w2 ⟨rfl, hb⟩
    go_wp2_with fail
    go_ret2
    exact ⟨rfl, hb⟩
set_option maxHeartbeats 2000000 in
theorem tHandleOf_any (A : Option Addr) (c n : Nat) (L : List Nd) (R : List Sl) (i er : Int) (w : World) (hp : Pl L i er) (hm : Mild L) (hw : Wf L) (hcp : Caps R) (hA : NodesIn w A n L R) :
    Calls Try.prog 27 #[.slice A n c, .int .i64 i] w fun e w' => e = .returned (.tuple #[.int .u32 (hdV L i er : Int), .int .i64 (hdE L i er)]) ∧ Below w.heap.size w w' := by
  have HW := Lib.hid (place_any A c n L R i er w hp hm hw hcp hA)
  rcases pl_err hp with rfl | rfl | ⟨rfl, h1, h2, _⟩
  case' inr.inr =>
    obtain ⟨j, rfl⟩ : ∃ j : Nat, i = (j : Int) := ⟨i.toNat, by omega⟩
    have hn := hA.1
    subst hn
    have hnb : L.length ≤ 16777216 := hm.1
    have HNX := Lib.hid (pl_next hp rfl)
    have GA := Lib.hid hA
    have hjl : j < L.length := by omega
    have HV : Hid (hdV L (j : Int) 0 = hV (L.getD j nd0).props ∧ hdE L (j : Int) 0 = hdX (hV (L.getD j nd0).props)) := Lib.hid (by unfold hdV hdE; rw [if_pos rfl, if_pos rfl, Int.toNat_natCast]; exact ⟨rfl, rfl⟩)
    clear hp hm hw hcp hA h1 h2
    go_enter Try.func27, Try.ntmps27
    go_wp2_with fail
    refine HW.out.mono ?_
    rintro e w2 ⟨rfl, hb⟩
    have HB := Lib.hid hb
    clear hb
    obtain ⟨b, o, rfl, hbs, hc⟩ := (GA.out.below HB.out).at (by omega)
    obtain ⟨⟨e1, e2, e3⟩, e4⟩ := hc j (by omega)
    have hok := node_ok HNX.out (j := j) (by omega)
    have HC := Lib.hid (handleOf_any (L.getD j nd0) (R.getD j sl0) w2 hok e4)
    unfold ndV at HC
    clear hc e4 hok
    generalize L.getD j nd0 = d at e1 e2 HC HV
    generalize R.getD j sl0 = r at e3 HC
    generalize str d.name = NM at e2 HC
    have j1 : (0 : Int) ≤ (j : Int) := by omega
    have j2 : (j : Int) < (L.length : Int) := by omega
    go_wp2_with fail
    refine HC.out.mono ?_
    rintro e w3 ⟨rfl, hb3⟩
    have HB3 := Lib.hid (bt HB.out hb3)
    clear hb3
    go_wp2_with fail
    go_ret2
    rw [HV.out.1, HV.out.2]
    exact ⟨rfl, HB3.out⟩
  all_goals
    rw [hdV_bad L i (by omega), hdE_bad L i (by omega)]
    clear hp hm hw hcp hA
    go_enter Try.func27, Try.ntmps27
    go_wp2_with fail
    refine HW.out.mono ?_
    rintro e w2 ⟨rfl, hb⟩
    go_wp2_with fail
    go_ret2
    exact ⟨rfl, hb⟩
end Go.Proofs.Ytfafhkhamaccfaa.Tr
