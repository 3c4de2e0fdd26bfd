/- What a node says that it is: Says, Compat; lists that are compared. -/
import Derived.Test.YtfafhkhamaccfaaTaL
namespace Go.Proofs.Ytfafhkhamaccfaa.Tr
open Go.ChangeShapes Go.WideShapes Go.ChangeAt Go.RowKit Own wordsNames

def MadeTx (xs : List ByteArray) (w : World) (e : Ending) (w' : World) : Prop :=
  ∃ A n c, n = xs.length ∧ e = .returned (.slice A n c) ∧ w'.ownsRow w.heap.size 9 1 (.slice A n c) n (Cl.strs xs) ∧ Below w.heap.size w w'
def MadeTxE (xs : List ByteArray) (er : Int) (w : World) (e : Ending) (w' : World) : Prop :=
  ∃ A n c, n = xs.length ∧ e = .returned (.tuple #[.slice A n c, .int .i64 er]) ∧ w'.ownsRow w.heap.size 9 1 (.slice A n c) n (Cl.strs xs) ∧ Below w.heap.size w w'
theorem says_none {ps : List Pr} (h : look ps compatN = none) : saysV ps = [] := by unfold saysV; rw [h]
theorem says_some {ps : List Pr} {v : List UInt8} (h : look ps compatN = some v) : saysV ps = Cl.tx v := by unfold saysV; rw [h]
theorem tx_bad {v : List UInt8} (h : Cl.etx v ≠ 0) : Cl.tx v = [] := by
  unfold Cl.etx at h
  unfold Cl.tx
  split at h
  · exact absurd rfl h
  · rw [if_neg (by assumption)]
theorem says_len {ps : List Pr} (h : propsOk ps) : (saysV ps).length ≤ 1024 := by
  unfold saysV
  split
  · exact Nat.zero_le _
  · rename_i v hv
    have h1 := ok_len h hv
    have h2 := Cl.split_len v []
    unfold Cl.tx
    split
    · rw [List.length_map]; omega
    · exact Nat.zero_le _
set_option maxHeartbeats 4000000 in
theorem refSays_any (d : Nd) (r : Sl) (w : World) (hp : propsOk d.props) (hA : PropsIn w r.1 r.2.1 d.props) :
    Calls Try.prog 48 #[ndV d r] w (MadeTx (saysV d.props) w) := by
  have HV := Lib.hid fun (W : World) (hW : Below w.heap.size w W) => refValueOf_any d r compatN W (by have := hp.1; omega) (hA.below hW)
  have HO := Lib.hid fun (W : World) => Cl.refTexts_any (str (lookT (look d.props compatN))) W (by have := look_len hp compatN; rw [str_size]; omega)
  have HN := Lib.hid (says_none (ps := d.props))
  have HS := Lib.hid (fun v => says_some (ps := d.props) (v := v))
  rw [str_list] at HO
  unfold ndV at HV ⊢
  rw [compatN_str] at HV
  generalize str d.name = NA at HV ⊢
  generalize look d.props compatN = q at HV HO HN HS
  clear hp hA
  have HB := Lib.hid (grows' w (.cells #[.int .i64 d.parent, .string NA, .slice r.1 r.2.1 r.2.2] 38))
  go_enter Try.func48, Try.ntmps48
  go_wp2_with fail
  refine (HV.out _ HB.out).mono ?_
  rintro e w2 ⟨rfl, b2⟩
  have HB2 := Lib.hid (bt HB.out b2)
  clear b2
  go_wp2_with fail
  refine (HO.out _).mono ?_
  rintro e w3 ⟨A3, n3, c3, hn3, rfl, ho3, b3⟩
  have HB3 := Lib.hid (bt HB2.out b3)
  have HO3 := Lib.hid (own_low ho3 HB2.out.size)
  have HN3 := Lib.hid hn3
  clear b3 ho3 hn3 HO
  cases q with
  | none =>
    have HX := Lib.hid (HN.out rfl)
    clear HN HS
    go_wp2_with fail
    go_ret
    rw [HX.out]
    exact ⟨none, 0, 0, rfl, rfl, own_nil _ _ _, HB3.out⟩
  | some v =>
    have HX := Lib.hid (HS.out v rfl)
    clear HN HS
    simp only [lookT, Option.getD_some, Option.isSome_some] at HO3 HN3 ⊢
    by_cases he : Cl.etx v = 0
    · have t1 : (Cl.etx v != 0) = false := by simp [he]
      clear he
      go_wp2_with fail
      go_ret
      rw [HX.out]
      exact ⟨A3, n3, c3, by rw [HN3.out, Cl.strs_len], rfl, HO3.out, HB3.out⟩
    · have t1 : (Cl.etx v != 0) = true := bne_iff_ne.2 he
      have HE := Lib.hid (tx_bad he)
      clear he
      go_wp2_with fail
      go_ret
      rw [HX.out, HE.out]
      exact ⟨none, 0, 0, rfl, rfl, own_nil _ _ _, HB3.out⟩
/-- What Compat says. -/
def cpV (L : List Nd) (i er : Int) : List ByteArray := if er = 0 then saysV (L.getD i.toNat nd0).props else []
theorem cpV_bad (L : List Nd) (i : Int) {er : Int} (h : er ≠ 0) : cpV L i er = [] := if_neg h
theorem cpV_ok (L : List Nd) (j : Nat) : cpV L (j : Int) 0 = saysV (L.getD j nd0).props := by unfold cpV; rw [if_pos rfl, Int.toNat_natCast]
set_option maxHeartbeats 2000000 in
theorem refCompat_any (A : Option Addr) (c n : Nat) (L : List Nd) (R : List Sl) (i er : Int) (w : World) (hp : Pl L i er) (hm : Mild L) (hA : NodesIn w A n L R) :
    Calls Try.prog 34 #[.slice A n c, .int .i64 i] w (MadeTxE (cpV L i er) er w) := by
  have HW := Lib.hid (wrong_any A c n L R i er w hp hm hA)
  rcases pl_err hp with rfl | rfl | ⟨rfl, h1, h2, _⟩
  case' inr.inr =>
    obtain ⟨j, rfl⟩ : ∃ j : Nat, i = (j : Int) := ⟨i.toNat, by omega⟩
    have hn := hA.1
    subst hn
    have hnb : L.length ≤ 16777216 := hm.1
    have HNX := Lib.hid (pl_next hp rfl)
    have GA := Lib.hid hA
    have hjl : j < L.length := by omega
    have HV := Lib.hid (cpV_ok L j)
    clear hp hm hA h1 h2
    go_enter Try.func34, Try.ntmps34
    go_wp2_with fail
    refine HW.out.mono ?_
    rintro e w2 ⟨rfl, hb⟩
    have HB := Lib.hid hb
    clear hb
    obtain ⟨b, o, rfl, hbs, hc⟩ := (GA.out.below HB.out).at (by omega)
    obtain ⟨⟨e1, e2, e3⟩, e4⟩ := hc j hjl
    have hok := node_ok HNX.out hjl
    have HC := Lib.hid (refSays_any (L.getD j nd0) (R.getD j sl0) w2 hok e4)
    unfold ndV at HC
    clear hc e4 hok
    generalize L.getD j nd0 = d at e1 e2 HC HV
    generalize R.getD j sl0 = r at e3 HC
    generalize str d.name = NM at e2 HC
    have j1 : (0 : Int) ≤ (j : Int) := by omega
    have j2 : (j : Int) < (L.length : Int) := by omega
    go_wp2_with fail
    refine HC.out.mono ?_
    rintro e w3 ⟨A3, n3, c3, hn3, rfl, ho3, b3⟩
    have HB3 := Lib.hid (bt HB.out b3)
    have HO3 := Lib.hid (own_low ho3 HB.out.size)
    have HN3 := Lib.hid hn3
    clear b3 ho3 hn3
    go_wp2_with fail
    go_ret2
    rw [HV.out]
    exact ⟨A3, n3, c3, HN3.out, rfl, HO3.out, HB3.out⟩
  all_goals
    rw [cpV_bad L i (by omega)]
    clear hp hm hA
    go_enter Try.func34, Try.ntmps34
    go_wp2_with fail
    refine HW.out.mono ?_
    rintro e w2 ⟨rfl, hb⟩
    go_wp2_with fail
    go_ret2
    exact ⟨none, 0, 0, rfl, rfl, own_nil _ _ _, hb⟩
set_option maxHeartbeats 2000000 in
theorem tCompat_any (A : Option Addr) (c n : Nat) (L : List Nd) (R : List Sl) (i er : Int) (w : World) (hp : Pl L i er) (hm : Mild L) (hw : Wf L) (hcp : Caps R) (hA : NodesIn w A n L R) :
    Calls Try.prog 33 #[.slice A n c, .int .i64 i] w (MadeTxE (cpV L i er) er w) := by
  have HW := Lib.hid (place_any A c n L R i er w hp hm hw hcp hA)
  rcases pl_err hp with rfl | rfl | ⟨rfl, h1, h2, _⟩
  case' inr.inr =>
    obtain ⟨j, rfl⟩ : ∃ j : Nat, i = (j : Int) := ⟨i.toNat, by omega⟩
    have hn := hA.1
    subst hn
    have hnb : L.length ≤ 16777216 := hm.1
    have HNX := Lib.hid (pl_next hp rfl)
    have GA := Lib.hid hA
    have hjl : j < L.length := by omega
    have HV := Lib.hid (cpV_ok L j)
    clear hp hm hw hcp hA h1 h2
    go_enter Try.func33, Try.ntmps33
    go_wp2_with fail
    refine HW.out.mono ?_
    rintro e w2 ⟨rfl, hb⟩
    have HB := Lib.hid hb
    clear hb
    obtain ⟨b, o, rfl, hbs, hc⟩ := (GA.out.below HB.out).at (by omega)
    obtain ⟨⟨e1, e2, e3⟩, e4⟩ := hc j hjl
    have hok := node_ok HNX.out hjl
    have HC := Lib.hid (valueOf_any (L.getD j nd0) (R.getD j sl0) compatN w2 (by have := hok.1; omega) e4)
    unfold ndV at HC
    rw [compatN_str] at HC
    have HO := Lib.hid fun (W : World) => Cl.progTexts_any (str (lookT (look (L.getD j nd0).props compatN))) W (by have := look_len hok compatN; rw [str_size]; omega)
    rw [str_list] at HO
    have HN := Lib.hid (says_none (ps := (L.getD j nd0).props))
    have HS := Lib.hid (fun v => says_some (ps := (L.getD j nd0).props) (v := v))
    clear hc e4 hok
    generalize L.getD j nd0 = d at e1 e2 HC HO HV HN HS
    generalize R.getD j sl0 = r at e3 HC
    generalize str d.name = NM at e2 HC
    generalize look d.props compatN = q at HC HO HN HS
    have j1 : (0 : Int) ≤ (j : Int) := by omega
    have j2 : (j : Int) < (L.length : Int) := by omega
    go_wp2_with fail
    refine HC.out.mono ?_
    rintro e w3 ⟨rfl, hb3⟩
    have HB3 := Lib.hid (bt HB.out hb3)
    clear hb3 HC e1 e2 e3
    cases q with
    | none =>
      have HX := Lib.hid (HN.out rfl)
      clear HN HS HO
      simp only [lookE, Option.isSome_none]
      go_wp2_with fail
      go_ret2
      rw [HV.out, HX.out]
      exact ⟨none, 0, 0, rfl, rfl, own_nil _ _ _, HB3.out⟩
    | some v =>
      have HX := Lib.hid (HS.out v rfl)
      clear HN HS
      simp only [lookE, lookT, Option.isSome_some, Option.getD_some] at HO ⊢
      go_wp2_with fail
      refine (HO.out _).mono ?_
      rintro e w4 ⟨A3, n3, c3, hn3, rfl, ho3, b3⟩
      have HB4 := Lib.hid (bt HB3.out b3)
      have HO3 := Lib.hid (own_low ho3 HB3.out.size)
      have HN3 := Lib.hid hn3
      clear b3 ho3 hn3 HO
      go_wp2_with fail
      go_ret2
      rw [HV.out, HX.out]
      exact ⟨A3, n3, c3, by rw [HN3.out, Cl.strs_len], rfl, HO3.out, HB4.out⟩
  all_goals
    rw [cpV_bad L i (by omega)]
    clear hp hm hw hcp hA
    go_enter Try.func33, Try.ntmps33
    go_wp2_with fail
    refine HW.out.mono ?_
    rintro e w2 ⟨rfl, hb⟩
    go_wp2_with fail
    go_ret2
    exact ⟨none, 0, 0, rfl, rfl, own_nil _ _ _, hb⟩
theorem sameInts_any (A B : Option Addr) (c d : Nat) (n m : Nat) (xs : List Nat) (w : World) (hn : n = xs.length) (hm : m = xs.length) (hx : n ≤ 140737488355328) (hA : Src w A n c (nums xs)) (hB : Src w B m d (nums xs)) :
    Calls Try.prog 13 #[.slice A n c, .slice B m d] w fun e w' => e = .returned (.bool true) ∧ ∃ q, w' = w.drewN q := by
  obtain rfl : m = n := by omega
  have HM := Lib.hid hn
  have GA := Lib.hid hA
  have GB := Lib.hid hB
  clear hA hB hn hm
  go_enter Try.func13, Try.ntmps13
  go_wp2_with fail
  go_loopw [5] (fun i wr => ∃ k : Nat, k ≤ m ∧ i = .int .i64 k ∧ ∃ q, wr = w.drewN q) (fun i _ => m - (RowKit.intOf i).toNat)
  case atStart => exact ⟨0, Nat.zero_le _, rfl, 0, rfl⟩
  case round =>
    obtain ⟨k, hk, rfl, q, rfl⟩ := hrel
    by_cases hlt : k < m
    · obtain ⟨⟨b, o, s⟩, rfl, hc1⟩ := src_get' GA.out (by omega)
      obtain ⟨⟨b2, o2, s2⟩, rfl, hc2⟩ := src_get' GB.out (by omega)
      have e1 := hc1 k _ (nums_at xs k (by rw [← HM.out]; exact hlt))
      have e2 := hc2 k _ (nums_at xs k (by rw [← HM.out]; exact hlt))
      generalize ((xs.getD k 0 : Nat) : Int) = x at e1 e2
      clear hc1 hc2
      have p1 : (0 : Int) ≤ (k : Int) := by omega
      have p2 : (k : Int) < (m : Int) := by omega
      go_wp2_with fail
      go_quiet (fail)
      go_wp2_with fail
      go_roundw
      case rel => exact ⟨k + 1, by omega, by go_num, ⟨_, rfl⟩⟩
      case measure => simp [RowKit.intOf]; omega
    · obtain rfl : m = k := by omega
      go_wp2_with fail
      go_ret
      exact ⟨rfl, ⟨_, rfl⟩⟩
theorem sameTexts_any (A B : Option Addr) (c d : Nat) (n m : Nat) (xs : List ByteArray) (w : World) (hn : n = xs.length) (hm : m = xs.length) (hx : n ≤ 140737488355328) (hA : Src w A n c (Cl.strs xs)) (hB : Src w B m d (Cl.strs xs)) :
    Calls Try.prog 35 #[.slice A n c, .slice B m d] w fun e w' => e = .returned (.bool true) ∧ ∃ q, w' = w.drewN q := by
  obtain rfl : m = n := by omega
  have HM := Lib.hid hn
  have GA := Lib.hid hA
  have GB := Lib.hid hB
  clear hA hB hn hm
  go_enter Try.func35, Try.ntmps35
  go_wp2_with fail
  go_loopw [5] (fun i wr => ∃ k : Nat, k ≤ m ∧ i = .int .i64 k ∧ ∃ q, wr = w.drewN q) (fun i _ => m - (RowKit.intOf i).toNat)
  case atStart => exact ⟨0, Nat.zero_le _, rfl, 0, rfl⟩
  case round =>
    obtain ⟨k, hk, rfl, q, rfl⟩ := hrel
    by_cases hlt : k < m
    · obtain ⟨⟨b, o, s⟩, rfl, hc1⟩ := src_get' GA.out (by omega)
      obtain ⟨⟨b2, o2, s2⟩, rfl, hc2⟩ := src_get' GB.out (by omega)
      have e1 := hc1 k _ (Cl.strs_at xs k (by rw [← HM.out]; exact hlt))
      have e2 := hc2 k _ (Cl.strs_at xs k (by rw [← HM.out]; exact hlt))
      generalize xs.getD k ByteArray.empty = x at e1 e2
      clear hc1 hc2
      have p1 : (0 : Int) ≤ (k : Int) := by omega
      have p2 : (k : Int) < (m : Int) := by omega
      go_wp2_with fail
      go_quiet (fail)
      go_wp2_with fail
      go_roundw
      case rel => exact ⟨k + 1, by omega, by go_num, ⟨_, rfl⟩⟩
      case measure => simp [RowKit.intOf]; omega
    · obtain rfl : m = k := by omega
      go_wp2_with fail
      go_ret
      exact ⟨rfl, ⟨_, rfl⟩⟩
end Go.Proofs.Ytfafhkhamaccfaa.Tr
