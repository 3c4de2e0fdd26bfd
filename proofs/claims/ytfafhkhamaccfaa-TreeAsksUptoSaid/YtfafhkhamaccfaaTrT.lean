/- The program's check and Check. -/
import Derived.Test.YtfafhkhamaccfaaTrS
import Derived.Test.YtfafhkhamaccfaaShelf
import Derived.Deep.RegionHeld3
import Derived.RegionTactic
namespace Go.Proofs.Ytfafhkhamaccfaa.Tr
open Go.ChangeShapes Go.WideShapes Go.ChangeAt Go.RowKit Own wordsNames Go.Maps

def Caps (R : List Sl) : Prop := ∀ k, (R.getD k sl0).2.1 ≤ (R.getD k sl0).2.2
def emptyB (nm : List UInt8) : Bool := decide (nm = [])
theorem first_any (nm : List UInt8) (w : World) : Calls Try.prog 50 #[.string (str nm)] w fun e w' => e = .returned (.bool (emptyB nm)) ∧ w = w' := by
  by_cases h : nm = []
  · have HV : Hid (emptyB nm = true) := Lib.hid (decide_eq_true h)
    have t1 : ((str nm).toList == []) = true := by rw [Lib.toList_data, str_list, h]; rfl
    have t2 : (str nm).toList.isEmpty = true := by rw [Lib.toList_data, str_list, h]; rfl
    generalize str nm = S at t1 t2 ⊢
    clear h
    go_enter Try.func50, Try.ntmps50
    go_wp2_with fail
    go_ret
    rw [HV.out]
    exact ⟨rfl, rfl⟩
  · have HV : Hid (emptyB nm = false) := Lib.hid (decide_eq_false h)
    have t1 : ((str nm).toList == []) = false := by rw [Lib.toList_data, str_list, beq_eq_false_iff_ne]; exact h
    have t2 : (str nm).toList.isEmpty = false := by rw [Lib.toList_data, str_list, List.isEmpty_eq_false_iff]; exact h
    generalize str nm = S at t1 t2 ⊢
    clear h
    go_enter Try.func50, Try.ntmps50
    go_wp2_with fail
    go_ret
    rw [HV.out]
    exact ⟨rfl, rfl⟩
theorem zero_unit (w : World) : (zeroValue 80).run Try.prog w = .ok (.agg #[]) w := by kernel_rfl

theorem own_shape {w : World} {base : Nat} {E : TypeId} {A : Option Addr} {n c : Nat} {xs : List Value} (h : w.ownsRow base E 1 (.slice A n c) n xs) (hn : 0 < n) : ∃ g, A = some ⟨g, 0, none⟩ ∧ base ≤ g ∧ g < w.heap.size ∧ n ≤ c := by
  rcases h.2 with ⟨hv, hx⟩ | ⟨g, cap, cur, hv, hg, hh, hc, _⟩
  · injection hv with _ h2 _
    omega
  · injection hv with h1 _ h3
    exact ⟨g, h1, hg, (Array.getElem?_eq_some_iff.1 hh).1, by omega⟩
theorem above_pos (L : List Nd) (j : Nat) : 0 < (aboveN L j).length := List.length_pos_iff.2 fun e => by have := above_self L j; rw [e] at this; cases this
theorem own_below {w : World} {base : Nat} {e : TypeId} {v : Value} {n : Nat} {xs : List Value} {w' : World} {B : Nat} (h : w.ownsRow base e 1 v n xs) (hb : Below B w w') (hB : w.heap.size ≤ B) : w'.ownsRow base e 1 v n xs := Own.own_below h hb hB
theorem map_below {w w' : World} {k : TypeId} {b n : Nat} {D : DataW Unit} {Rr : Value → Option (DataW Unit × List MemPlace)} (h : w.ownsMap Try.prog k Rr b n D) (hb : Below w.heap.size w w') : w'.ownsMap Try.prog k Rr b n D := by
  have hlt := h.lt
  obtain ⟨es, clock, h1, h2⟩ := h
  exact ⟨es, clock, (hb.block b hlt).trans h1, h2⟩
theorem way_cells {w : World} {base g m c : Nat} {L : List Nd} {j : Nat} (h : w.ownsRow base 3 1 (.slice (some ⟨g, 0, none⟩) m c) m (wayV L j)) : ∀ i, i < (way L j).length → w.cell? ⟨g, 0 + i, none⟩ = some (.int .i64 ((way L j).getD i 0)) := fun i hi => by
  have hl := h.1
  rw [wayV_len, ← way_len, Nat.mul_one] at hl
  rw [Nat.zero_add, h.cellAt i (by omega)]
  unfold wayV
  rw [List.getElem?_map, List.getElem?_eq_getElem hi, List.getD_eq_getElem?_getD, List.getElem?_eq_getElem hi]
  rfl
theorem cell_grown {w w' : World} {row : Option Nat} {a : Addr} (h : w.grownBy w' row) (hl : a.block < w.heap.size) (hne : some a.block ≠ row) : w'.cell? a = w.cell? a := World.cell?_of_block (h.block a.block hl hne)
theorem own_kept {w w' : World} {base : Nat} {E : TypeId} {v : Value} {n g : Nat} {xs : List Value} (h : w.ownsRow base E 1 v n xs) (hg : w.grownBy w' (some g)) (hlt : g < base) : w'.ownsRow base E 1 v n xs := by
  refine h.kept hg ?_
  rcases h.2 with ⟨rfl, _⟩ | ⟨g', cap, cur, rfl, hb, _⟩
  · exact .inl rfl
  · refine .inr fun e => ?_
    injection e with e
    have e2 : g' = g := e
    omega
theorem wayV_next {L : List Nd} {i p u : Nat} (hb : Behind L (i + 1)) (hp : (L.getD i nd0).parent = (p : Int)) (ht : (way L (i - 1)).take (u + 1) = way L p) : (wayV L (i - 1)).take (u + 1) ++ [.int .i64 (i : Int)] = wayV L i := by
  unfold wayV
  rw [← List.map_take, ht, way_next hb (Nat.lt_succ_self i) hp, List.map_append]
  rfl
set_option maxRecDepth 100000 in
set_option maxHeartbeats 16000000 in
theorem check_any (A : Option Addr) (c n : Nat) (L : List Nd) (R : List Sl) (i0 : Nat) (er : Int) (w : World) (hch : Chk L i0 er) (hm : Mild L) (hw : Wf L) (hcp : Caps R) (hA : NodesIn w A n L R) :
    Calls Try.prog 49 #[.slice A n c, .func (Fn.func 50) #[] #[]] w fun e w' => e = .returned (.tuple #[.int .i64 (i0 : Int), .int .i64 er]) ∧ Below w.heap.size w w' := by
  have hnb : n ≤ 16777216 := by have := hm.1; have := hA.1; omega
  have HCH := Lib.hid hch
  have HM := Lib.hid hm
  have HW := Lib.hid hw
  have HCP := Lib.hid hcp
  have HN := Lib.hid hA.1
  have GA := Lib.hid hA
  clear hch hm hw hcp
  by_cases h0 : n = 0
  · have t0 : ((n : Int) == 0) = true := beq_iff_eq.2 (by omega)
    have HO := Lib.hid (chk_one HCH.out (.inr (.inl ⟨by rw [← HN.out]; exact h0, rfl, rfl⟩) : Chk L 0 40))
    clear hA h0
    go_enter Try.func49, Try.ntmps49
    go_wp2_with fail
    go_ret2
    obtain ⟨h1, h2⟩ := HO.out
    rw [h1, h2]
    exact ⟨rfl, Below.refl _ _⟩
  have t0 : ((n : Int) == 0) = false := beq_eq_false_iff_ne.2 (by omega)
  obtain ⟨b, o, rfl, hbs, hc⟩ := hA.at (by omega)
  obtain ⟨⟨e1, e2, e3⟩, e4⟩ := hc 0 (by omega)
  simp only [Nat.zero_mul, Nat.add_zero] at e1 e2 e3
  have HC := Lib.hid hc
  have hmi := HM.out.2 0
  have hcp0 := HCP.out 0
  have HBAD : Hid (¬ nextOk L 0 → (i0 = 0 ∧ er = 40)) := Lib.hid fun h => chk_one HCH.out (.inl ⟨by rw [← HN.out]; omega, h, fun k hk => by omega, rfl⟩ : Chk L 0 40)
  have HN0 : Hid (nextOk L 0 ↔ 0 < 512 ∧ propsOk (L.getD 0 nd0).props ∧ ((L.getD 0 nd0).parent = -1 ∧ (L.getD 0 nd0).name = [])) := Lib.hid (by unfold nextOk; rw [if_pos rfl])
  clear hA hc
  generalize L.getD 0 nd0 = d at e1 e2 e4 hmi HN0
  generalize R.getD 0 sl0 = r at e3 e4 hcp0
  obtain ⟨pa, nm, ps⟩ := d
  obtain ⟨ra, rn, rc⟩ := r
  simp only at e1 e2 e3 e4 hmi HN0 hcp0
  obtain ⟨hmn, hml, hmp⟩ := hmi
  have hrn : rn ≤ 16777216 := by have := e4.1; omega
  obtain ⟨gp, hgp⟩ := bool_ex (propsOk ps)
  have HGP := Lib.hid hgp
  have HPR := Lib.hid fun W (h : Below w.heap.size w W) => areProps_any ra rc rn ps gp W hgp hrn hmp (e4.below h) hcp0
  have HFI := Lib.hid fun W => first_any nm W
  have HEM : Hid (emptyB nm = true ↔ nm = []) := Lib.hid ⟨of_decide_eq_true, decide_eq_true⟩
  clear e4 hmp hgp
  generalize emptyB nm = gf at HFI HEM
  generalize str nm = S at e2 HFI
  by_cases hpa : pa = -1
  case' neg =>
    have t1 : (pa != -1) = true := bne_iff_ne.2 hpa
    have HO := Lib.hid (HBAD.out fun h => hpa (HN0.out.1 h).2.2.1)
    clear hpa
    go_enter Try.func49, Try.ntmps49
    go_wp2_with fail
    go_ret2
    obtain ⟨h1, h2⟩ := HO.out
    rw [h1, h2]
    exact ⟨rfl, Below.refl _ _⟩
  have t1 : (pa != -1) = false := by rw [hpa]; rfl
  cases gf with
  | false =>
    have HO := Lib.hid (HBAD.out fun h => by have := HEM.out.2 (HN0.out.1 h).2.2.2; cases this)
    clear hpa
    go_enter Try.func49, Try.ntmps49
    go_wp2_with fail
    refine (HFI.out _).mono ?_
    rintro e w2 ⟨rfl, rfl⟩
    go_wp2_with fail
    go_ret2
    obtain ⟨h1, h2⟩ := HO.out
    rw [h1, h2]
    exact ⟨rfl, Below.refl _ _⟩
  | true =>
    cases gp with
    | false =>
      have HO := Lib.hid (HBAD.out fun h => by have := HGP.out.2 (HN0.out.1 h).2.1; cases this)
      clear hpa
      go_enter Try.func49, Try.ntmps49
      go_wp2_with fail
      refine (HFI.out _).mono ?_
      rintro e w2 ⟨rfl, rfl⟩
      go_wp2_with fail
      refine (HPR.out _ (Below.refl _ _)).mono ?_
      rintro e w3 ⟨rfl, b3⟩
      go_wp2_with fail
      go_ret2
      obtain ⟨h1, h2⟩ := HO.out
      rw [h1, h2]
      exact ⟨rfl, b3⟩
    | true =>
      have HN1 : Hid (nextOk L 0) := Lib.hid (HN0.out.2 ⟨by omega, HGP.out.1 rfl, hpa, HEM.out.1 rfl⟩)
      have hmm := @run_makeMap Try.prog
      clear hpa HBAD HN0 HGP
      go_enter Try.func49, Try.ntmps49
      go_wp2_with fail
      refine (HFI.out _).mono ?_
      rintro e w2 ⟨rfl, rfl⟩
      go_wp2_with fail
      refine (HPR.out _ (Below.refl _ _)).mono ?_
      rintro e w3 ⟨rfl, b3⟩
      have HB3 := Lib.hid b3
      have hsz3 := b3.size
      clear b3 HPR HFI HEM
      go_wp2_with fail
      clear hmm
      have HW0 := Lib.hid (way_zero HN1.out)
      go_loopw [7, 8] (fun v7 v8 wr => ∃ (i m : Nat) (D : DataW Unit), 1 ≤ i ∧ i ≤ n ∧ v8 = .int .i64 i ∧ wr.ownsMap Try.prog 78 unitElem w3.heap.size i D ∧ Seen D L i ∧ (∃ A' c', v7 = .slice A' m c') ∧ wr.ownsRow (w3.heap.size + 1) 3 1 v7 m (wayV L (i - 1)) ∧ Below w.heap.size w wr ∧ Hid (∀ k, k < i → nextOk L k)) (fun _ v8 _ => n - (RowKit.intOf v8).toNat)
      case atStart =>
        refine ⟨1, 1, .map [], by omega, by omega, rfl, ?_, Seen.none L, ⟨_, _, rfl⟩, ?_, (HB3.out.alloc hsz3 _).alloc (by simp; omega) _, Lib.hid fun k hk => by rw [show k = 0 by omega]; exact HN1.out⟩
        · exact ((World.ownsMap_made w3 Try.prog 78 unitElem).alloc _).mono (Nat.zero_le _)
        · have h := World.ownsRow_lit (e := 3) (base := w3.heap.size + 1) (size := 1) (w3.alloc (.map #[] 0)) #[.int .i64 0] 1 (by simp) (by unfold maxLen; omega) rfl
          have e : wayV L (1 - 1) = [.int .i64 0] := by show (way L 0).map _ = _; rw [HW0.out]; rfl
          rw [e]
          have e2 : (w3.alloc (.map #[] 0)).heap.size = w3.heap.size + 1 := by simp
          rw [e2] at h
          exact h
      case round =>
        obtain ⟨i, m, D, hi1, hin, rfl, hmap, hseen, ⟨A', c', rfl⟩, hpath, hbw, HK⟩ := hrel
        have HMAP := Lib.hid hmap
        have HSEEN := Lib.hid hseen
        have HPATH := Lib.hid hpath
        have HB := Lib.hid hbw
        have hsz := hbw.size
        clear hmap hseen hpath hbw e1 e2 e3
        by_cases hlt : i < n
        · obtain ⟨⟨f1, f2, f3⟩, f4⟩ := HC.out i hlt
          have e1 : wr.cell? ⟨b, o + i * 3, none⟩ = some (.int .i64 (L.getD i nd0).parent) := by rw [HB.out.cell (p := ⟨b, o + i * 3, none⟩) hbs]; exact f1
          have e2 : wr.cell? ⟨b, o + i * 3 + 1, none⟩ = some (.string (str (L.getD i nd0).name)) := by rw [HB.out.cell (p := ⟨b, o + i * 3 + 1, none⟩) hbs]; exact f2
          have hml : m = (aboveN L (i - 1)).length := by have := HPATH.out.1; rw [wayV_len] at this; omega
          have hm0 : 0 < m := by rw [hml]; exact above_pos L (i - 1)
          obtain ⟨g, rfl, hg, hgs, hmc⟩ := own_shape HPATH.out hm0
          have hmb : m ≤ i := by
            have := above_len L i (next_behind HK.out) (i - 1) (by omega)
            omega
          have HML := Lib.hid hml
          clear hml
          have HNX : Hid (nextOk L i ↔ i < 512 ∧ propsOk (L.getD i nd0).props ∧ isName (L.getD i nd0).name = true ∧ 0 ≤ (L.getD i nd0).parent ∧ (L.getD i nd0).parent < (i : Int) ∧ (L.getD i nd0).parent.toNat ∈ aboveN L (i - 1) ∧ (aboveN L (L.getD i nd0).parent.toNat).length + 1 ≤ 16 ∧
            ∀ k, 1 ≤ k → k < i → ¬ ((L.getD k nd0).parent = (L.getD i nd0).parent ∧ (L.getD k nd0).name = (L.getD i nd0).name)) := Lib.hid (by unfold nextOk; rw [if_neg (by omega)])
          have HBAD : Hid (¬ nextOk L i → (i0 = i ∧ er = 40)) := Lib.hid fun h => chk_one HCH.out (.inl ⟨by rw [← HN.out]; exact hlt, h, HK.out, rfl⟩ : Chk L i 40)
          have hmi := HM.out.2 i
          have hwf := HW.out i
          have hcpi := HCP.out i
          have HSN := Lib.hid fun p nm h1 h2 => HSEEN.out.2 p nm h1 h2
          have HPUT := Lib.hid (HSEEN.out.put hi1 HW.out HM.out (.agg []))
          generalize hdd : L.getD i nd0 = dd at *
          have HDD := Lib.hid hdd
          clear hdd
          obtain ⟨pa, nm, ps⟩ := dd
          simp only at e1 e2 hmi HNX hwf HPUT f4
          obtain ⟨hmn, hmlp, hmp⟩ := hmi
          generalize R.getD i sl0 = r at f3 f4 hcpi
          obtain ⟨ra, rn, rc⟩ := r
          simp only at f3 f4 hcpi
          have e3 : wr.cell? ⟨b, o + i * 3 + 2, none⟩ = some (.slice ra rn rc) := by rw [HB.out.cell (p := ⟨b, o + i * 3 + 2, none⟩) hbs]; exact f3
          have hrni : rn ≤ 16777216 := by have := f4.1; omega
          obtain ⟨gp, hgp⟩ := bool_ex (propsOk ps)
          have HGP := Lib.hid hgp
          have HPR := Lib.hid fun W (h : Below w.heap.size w W) => areProps_any ra rc rn ps gp W hgp hrni hmp (f4.below h) hcpi
          have HNM := Lib.hid fun W => isName_any (str nm) W (by unfold maxLen; rw [str_size]; omega)
          rw [str_list] at HNM
          have HKEY := Lib.hid (keyOf_kid pa nm hwf hmn)
          have HSN2 := Lib.hid (HSN.out pa nm hwf hmn)
          have HBH : Hid (Behind L i) := Lib.hid (next_behind HK.out)
          have HTK : Hid ((way L (i - 1)).take m = way L (i - 1)) := Lib.hid (List.take_of_length_le (by rw [way_len, ← HML.out]; exact Nat.le_refl _))
          have hwl : (way L (i - 1)).length = m := by rw [way_len]; exact HML.out.symm
          have HWL := Lib.hid hwl
          clear f1 f2 f3 f4 hmp hgp HSN hwl
          have k1 : (0 : Int) ≤ (i : Int) := by omega
          have k2 : (i : Int) < (n : Int) := by omega
          have hbr : b < wr.heap.size := Nat.lt_of_lt_of_le hbs hsz
          have a1 : (wr.alloc (.cells #[.int .i64 0, .string ⟨#[]⟩] 78)).cell? ⟨b, o + i * 3, none⟩ = some (.int .i64 pa) := by rw [(grows' wr _).cell (p := ⟨b, o + i * 3, none⟩) hbr]; exact e1
          have a2 : (wr.alloc (.cells #[.int .i64 0, .string ⟨#[]⟩] 78)).cell? ⟨b, o + i * 3 + 1, none⟩ = some (.string (str nm)) := by rw [(grows' wr _).cell (p := ⟨b, o + i * 3 + 1, none⟩) hbr]; exact e2
          go_wp2_with fail
          go_region
          all_goals
            clear a1 a2
            have c0 := pbox0 wr (.int .i64 pa) (.string (str nm)) 78
            have c1 := pbox1 wr (.int .i64 pa) (.string (str nm)) 78
            go_wp2_with fail
            have hbw1 : Below wr.heap.size wr (wr.alloc (.cells #[.int .i64 pa, .string (str nm)] 78)).drew := below_dr (grows' wr _) 1
            have hbx : wr.heap.size < (wr.alloc (.cells #[.int .i64 pa, .string (str nm)] 78)).drew.heap.size := box_lt wr _
            have C0 : Hid ((wr.alloc (.cells #[.int .i64 pa, .string (str nm)] 78)).drew.cell? ⟨wr.heap.size, 0, none⟩ = some (.int .i64 pa)) := Lib.hid c0
            have C1 : Hid ((wr.alloc (.cells #[.int .i64 pa, .string (str nm)] 78)).drew.cell? ⟨wr.heap.size, 1, none⟩ = some (.string (str nm))) := Lib.hid c1
            clear c0 c1
            generalize (wr.alloc (.cells #[.int .i64 pa, .string (str nm)] 78)).drew = w5 at hbw1 hbx C0 C1 ⊢
            have B5 := Lib.hid (bt HB.out hbw1)
            have M5 := Lib.hid (map_below HMAP.out hbw1)
            have P5 := Lib.hid (own_below HPATH.out hbw1 (Nat.le_refl _))
            have e5 : w5.cell? ⟨b, o + i * 3 + 2, none⟩ = some (.slice ra rn rc) := by rw [hbw1.cell (p := ⟨b, o + i * 3 + 2, none⟩) hbr]; exact e3
            have hbx0 : wr.heap.size < w5.heap.size := hbx
            have hsz5 : w.heap.size ≤ w5.heap.size := B5.out.size
            clear hbw1 e1 e2 e3
            refine (Try.slices_Index_int g 0 m c' (way L (i - 1)) pa _ (by rw [HWL.out]; exact Nat.le_refl _) (by omega) (way_cells P5.out)).mono ?_
            rintro e w6 ⟨rfl, rfl⟩
            rw [HTK.out]
            have HZ1 : Hid (pa ∉ way L (i - 1) → Lib.idxOf (way L (i - 1)) pa = -1) := Lib.hid way_no
            have HZ2 : Hid (∀ p : Nat, pa = (p : Int) → p ∈ aboveN L (i - 1) → ∃ u : Nat, u < m ∧ u + 1 = (way L p).length ∧ (way L (i - 1)).take (u + 1) = way L p ∧ Lib.idxOf (way L (i - 1)) pa = (u : Int)) := Lib.hid fun p hp hpm => by
              rw [hp, ← HWL.out]
              exact way_up HBH.out (by omega) hpm
            generalize Lib.idxOf (way L (i - 1)) pa = z at HZ1 HZ2 ⊢
            by_cases h512 : i = 512
            · have t3 : ((i : Int) == 512) = true := beq_iff_eq.2 (by omega)
              have HO := Lib.hid (HBAD.out fun h => by have := (HNX.out.1 h).1; omega)
              clear h512
              go_wp2_with fail
              go_ret2
              obtain ⟨h1, h2⟩ := HO.out
              rw [h1, h2]
              exact ⟨rfl, B5.out⟩
            have t3 : ((i : Int) == 512) = false := beq_eq_false_iff_ne.2 (by omega)
            have h512' : i < 512 := by
              have h := (HK.out (i - 1) (by omega)).1
              omega
            by_cases hmem : pa ∈ way L (i - 1)
            case' neg =>
              have hz := HZ1.out hmem
              have HO := Lib.hid (HBAD.out fun h => hmem (way_mem.2 ⟨(HNX.out.1 h).2.2.2.1, (HNX.out.1 h).2.2.2.2.2.1⟩))
              clear h512 hmem HZ1 HZ2
              subst hz
              go_wp2_with fail
              go_ret2
              obtain ⟨h1, h2⟩ := HO.out
              rw [h1, h2]
              exact ⟨rfl, B5.out⟩
            obtain ⟨hp0, hpm⟩ := way_mem.1 hmem
            obtain ⟨p, rfl⟩ : ∃ p : Nat, pa = (p : Int) := ⟨pa.toNat, by omega⟩
            rw [Int.toNat_natCast] at hpm
            have hpi : p ≤ i - 1 := above_le L i HBH.out (i - 1) (i - 1) (Nat.le_refl _) (by omega) p hpm
            obtain ⟨u, hu1, hu2, hu3, rfl⟩ := HZ2.out p rfl hpm
            have HU2 := Lib.hid hu2
            have HU3 := Lib.hid hu3
            have HPM := Lib.hid hpm
            have HMEM : Hid ((p : Int) ∈ way L (i - 1)) := Lib.hid hmem
            clear hmem hp0 hpm hu2 hu3 HZ1 HZ2 h512
            have t4 : decide ((u : Int) < 0) = false := decide_eq_false (by omega)
            by_cases hname : isName nm = true
            case' neg =>
              have hname' : isName nm = false := by simpa using hname
              have HO := Lib.hid (HBAD.out fun h => hname (HNX.out.1 h).2.2.1)
              have c1 := C1.out
              clear hname
              go_wp2_with fail
              refine (HNM.out _).mono ?_
              rw [hname']
              rintro e w7 ⟨rfl, rfl⟩
              go_wp2_with fail
              go_ret2
              obtain ⟨h1, h2⟩ := HO.out
              rw [h1, h2]
              exact ⟨rfl, B5.out⟩
            have c1 := C1.out
            go_wp2_with fail
            refine (HNM.out _).mono ?_
            rw [hname]
            rintro e w7 ⟨rfl, rfl⟩
            go_wp2_with fail
            refine (HPR.out _ B5.out).mono ?_
            rintro e w8 ⟨rfl, b8⟩
            have B8 := Lib.hid (bt B5.out b8)
            have M8 := Lib.hid (map_below M5.out b8)
            have P8 := Lib.hid (own_below P5.out b8 (Nat.le_refl _))
            have D0 : Hid (w8.cell? ⟨wr.heap.size, 0, none⟩ = some (.int .i64 (p : Int))) := Lib.hid (by rw [b8.cell (p := ⟨wr.heap.size, 0, none⟩) hbx0]; exact C0.out)
            have D1 : Hid (w8.cell? ⟨wr.heap.size, 1, none⟩ = some (.string (str nm))) := Lib.hid (by rw [b8.cell (p := ⟨wr.heap.size, 1, none⟩) hbx0]; exact C1.out)
            have hbx8 : wr.heap.size < w8.heap.size := Nat.lt_of_lt_of_le hbx0 b8.size
            have hsz8 : w.heap.size ≤ w8.heap.size := B8.out.size
            clear b8 c1 e5
            cases gp with
            | false =>
              have HO := Lib.hid (HBAD.out fun h => by have := HGP.out.2 (HNX.out.1 h).2.1; cases this)
              go_wp2_with fail
              go_ret2
              obtain ⟨h1, h2⟩ := HO.out
              rw [h1, h2]
              exact ⟨rfl, B8.out⟩
            | true =>
              have hps : propsOk ps := HGP.out.1 rfl
              have HPS := Lib.hid hps
              have HNM2 := Lib.hid hname
              clear hps hname
              have PT := Lib.hid (own_take P8.out hm0 (u + 1) (by omega))
              have HWN : Hid ((wayV L (i - 1)).take (u + 1) ++ [.int .i64 (i : Int)] = wayV L i) := Lib.hid (wayV_next (fun k hk => by
                by_cases hki : k = i
                · subst hki
                  rw [HDD.out]
                  show (p : Int) < _
                  omega
                · exact HBH.out k (by omega)) (by rw [HDD.out]) HU3.out)
              have hUL : (aboveN L p).length = u + 1 := by rw [← way_len]; exact HU2.out.symm
              have HUL := Lib.hid hUL
              clear hUL
              obtain ⟨hv, hhv⟩ : ∃ hv, Maps.has D (kidL (p : Int) nm) = hv := ⟨_, rfl⟩
              have HHV := Lib.hid hhv
              rw [hhv] at HSN2
              clear hhv
              have hgw : w.heap.size ≤ g := by omega
              have hbx9 : wr.heap.size < (w8.alloc (.cells #[.int .i64 (i : Int)] 3)).heap.size := Nat.lt_trans hbx8 (box_lt _ _)
              cases hv with
              | true =>
                have HO := Lib.hid (HBAD.out fun h => by
                  obtain ⟨k, h1, h2, h3, h4⟩ := HSN2.out.1 rfl
                  exact (HNX.out.1 h).2.2.2.2.2.2.2 k h1 h2 ⟨h3, h4⟩)
                go_wp2_with (first
                  | (at_builtin; (refine wpList_append_src (o := ⟨some 91, _, _, _, _, _⟩) rfl (.tmp 88) (.tmp 90) 29 rfl (w3.heap.size + 1) 3 (.int .i64 0) 8 Try.underlying29 info_int rfl _ (u + 1) _ rfl (PT.out.alloc _) _ 1 1 [.int .i64 (i : Int)] rfl (src_new _ _ _) (by intro u hu; simp at hu; subst hu; rfl) (by omega) (by omega) (by have := M8.out.lt; simp; omega) ?_); intro v9 w9 ho9 hg9; have B9 := Lib.hid (below_grown' B8.out hsz8 PT.out (by omega) hg9); have M9 := Lib.hid ((M8.out.alloc (.cells #[.int .i64 (i : Int)] 3)).kept hg9 (by intro e; injection e with e; have e2 : w3.heap.size = g := e; omega)); have f0 := (cell_grown (a := ⟨wr.heap.size, 0, none⟩) hg9 hbx9 (by intro e; injection e with e; have e2 : wr.heap.size = g := e; omega)).trans (((grows' w8 _).cell (p := ⟨wr.heap.size, 0, none⟩) hbx8).trans D0.out); have f1 := (cell_grown (a := ⟨wr.heap.size, 1, none⟩) hg9 hbx9 (by intro e; injection e with e; have e2 : wr.heap.size = g := e; omega)).trans (((grows' w8 _).cell (p := ⟨wr.heap.size, 1, none⟩) hbx8).trans D1.out); obtain ⟨A9, c9, rfl, _⟩ := own_src ho9; clear ho9 hg9)
                  | (at_lookup; refine wpList_lookup_own_unit _ rfl _ _ 76 rfl 78 80 kidLaw Try.underlying76 (zero_unit _) w3.heap.size i D rfl M9.out _ _ rfl HKEY.out ?_; rw [HHV.out]))
                go_wp2_with fail
                go_ret2
                obtain ⟨h1, h2⟩ := HO.out
                rw [h1, h2]
                exact ⟨rfl, B9.out.alloc B9.out.size _⟩
              | false =>
                by_cases h16 : u + 1 + 1 ≤ 16
                · have t5 : decide ((16 : Int) < ((u + 1 + 1 : Nat) : Int)) = false := decide_eq_false (by omega)
                  have t6 : decide (16 < u + 1 + 1) = false := decide_eq_false (by omega)
                  have HNX2 : Hid (nextOk L i) := Lib.hid (HNX.out.2 ⟨h512', HPS.out, HNM2.out, by omega, by omega, by rw [Int.toNat_natCast]; exact HPM.out, by rw [Int.toNat_natCast, HUL.out]; exact h16, fun k h1 h2 h3 => by
                    have := HSN2.out.2 ⟨k, h1, h2, h3.1, h3.2⟩
                    cases this⟩)
                  have HK2 : Hid (∀ k, k < i + 1 → nextOk L k) := Lib.hid fun k hk => by
                    by_cases hki : k = i
                    · rw [hki]; exact HNX2.out
                    · exact HK.out k (by omega)
                  go_wp2_with (first
                    | (at_builtin; (refine wpList_append_src (o := ⟨some 91, _, _, _, _, _⟩) rfl (.tmp 88) (.tmp 90) 29 rfl (w3.heap.size + 1) 3 (.int .i64 0) 8 Try.underlying29 info_int rfl _ (u + 1) _ rfl (PT.out.alloc _) _ 1 1 [.int .i64 (i : Int)] rfl (src_new _ _ _) (by intro u hu; simp at hu; subst hu; rfl) (by omega) (by omega) (by have := M8.out.lt; simp; omega) ?_); intro v9 w9 ho9 hg9; have B9 := Lib.hid (below_grown' B8.out hsz8 PT.out (by omega) hg9); have M9 := Lib.hid ((M8.out.alloc (.cells #[.int .i64 (i : Int)] 3)).kept hg9 (by intro e; injection e with e; have e2 : w3.heap.size = g := e; omega)); have f0 := (cell_grown (a := ⟨wr.heap.size, 0, none⟩) hg9 hbx9 (by intro e; injection e with e; have e2 : wr.heap.size = g := e; omega)).trans (((grows' w8 _).cell (p := ⟨wr.heap.size, 0, none⟩) hbx8).trans D0.out); have f1 := (cell_grown (a := ⟨wr.heap.size, 1, none⟩) hg9 hbx9 (by intro e; injection e with e; have e2 : wr.heap.size = g := e; omega)).trans (((grows' w8 _).cell (p := ⟨wr.heap.size, 1, none⟩) hbx8).trans D1.out); have hsz9 := hg9.size; rw [HWN.out] at ho9; have P9 := Lib.hid ho9; (have k0 : (w9.alloc (.cells #[] 80)).cell? ⟨wr.heap.size, 0, none⟩ = some (.int .i64 (p : Int)) := by rw [(grows' w9 _).cell (p := ⟨wr.heap.size, 0, none⟩) (Nat.lt_of_lt_of_le hbx9 hsz9)]; exact f0); (have k1' : (w9.alloc (.cells #[] 80)).cell? ⟨wr.heap.size, 1, none⟩ = some (.string (str nm)) := by rw [(grows' w9 _).cell (p := ⟨wr.heap.size, 1, none⟩) (Nat.lt_of_lt_of_le hbx9 hsz9)]; exact f1); obtain ⟨A9, c9, rfl, _⟩ := own_src ho9; clear ho9 hg9)
                    | (at_lookup; refine wpList_lookup_own_unit _ rfl _ _ 76 rfl 78 80 kidLaw Try.underlying76 (zero_unit _) w3.heap.size i D rfl M9.out _ _ rfl HKEY.out ?_; rw [HHV.out])
                    | (at_mapUpdate; go_must (refine wpList_mapUpdate_own _ rfl _ _ _ 76 rfl 78 80 kidLaw Try.underlying76 (unitElem (H := Unit)) w3.heap.size i D rfl (M9.out.alloc _) (by unfold maxLen; omega) _ _ _ rfl rfl HKEY.out _ [] unitElem_mk ?_); intro w10 hown10 hgrow10))
                  have O10 := Lib.hid (own_kept (P9.out.alloc (.cells #[] 80)) hgrow10 (Nat.lt_succ_self _))
                  have B10 := Lib.hid ((B9.out.alloc B9.out.size (.cells #[] 80)).grown hgrow10 (by have := B9.out.size; simp; omega) (fun k hk => by injection hk with hk; omega))
                  have MN := Lib.hid hown10
                  clear hown10 hgrow10
                  go_wp2_with fail
                  go_roundw
                  case rel => exact ⟨i + 1, u + 1 + 1, _, by omega, by omega, by go_num, MN.out, HPUT.out, ⟨A9, c9, rfl⟩, by rw [Nat.add_sub_cancel]; exact O10.out, B10.out, HK2⟩
                  case measure => simp [RowKit.intOf]; omega
                · have t5 : decide ((16 : Int) < ((u + 1 + 1 : Nat) : Int)) = true := decide_eq_true (by omega)
                  have t6 : decide (16 < u + 1 + 1) = true := decide_eq_true (by omega)
                  have HO := Lib.hid (HBAD.out fun h => h16 (by have := (HNX.out.1 h).2.2.2.2.2.2.1; rw [Int.toNat_natCast, HUL.out] at this; exact this))
                  go_wp2_with (first
                    | (at_builtin; (refine wpList_append_src (o := ⟨some 91, _, _, _, _, _⟩) rfl (.tmp 88) (.tmp 90) 29 rfl (w3.heap.size + 1) 3 (.int .i64 0) 8 Try.underlying29 info_int rfl _ (u + 1) _ rfl (PT.out.alloc _) _ 1 1 [.int .i64 (i : Int)] rfl (src_new _ _ _) (by intro u hu; simp at hu; subst hu; rfl) (by omega) (by omega) (by have := M8.out.lt; simp; omega) ?_); intro v9 w9 ho9 hg9; have B9 := Lib.hid (below_grown' B8.out hsz8 PT.out (by omega) hg9); have M9 := Lib.hid ((M8.out.alloc (.cells #[.int .i64 (i : Int)] 3)).kept hg9 (by intro e; injection e with e; have e2 : w3.heap.size = g := e; omega)); have f0 := (cell_grown (a := ⟨wr.heap.size, 0, none⟩) hg9 hbx9 (by intro e; injection e with e; have e2 : wr.heap.size = g := e; omega)).trans (((grows' w8 _).cell (p := ⟨wr.heap.size, 0, none⟩) hbx8).trans D0.out); have f1 := (cell_grown (a := ⟨wr.heap.size, 1, none⟩) hg9 hbx9 (by intro e; injection e with e; have e2 : wr.heap.size = g := e; omega)).trans (((grows' w8 _).cell (p := ⟨wr.heap.size, 1, none⟩) hbx8).trans D1.out); have hsz9 := hg9.size; rw [HWN.out] at ho9; have P9 := Lib.hid ho9; (have k0 : (w9.alloc (.cells #[] 80)).cell? ⟨wr.heap.size, 0, none⟩ = some (.int .i64 (p : Int)) := by rw [(grows' w9 _).cell (p := ⟨wr.heap.size, 0, none⟩) (Nat.lt_of_lt_of_le hbx9 hsz9)]; exact f0); (have k1' : (w9.alloc (.cells #[] 80)).cell? ⟨wr.heap.size, 1, none⟩ = some (.string (str nm)) := by rw [(grows' w9 _).cell (p := ⟨wr.heap.size, 1, none⟩) (Nat.lt_of_lt_of_le hbx9 hsz9)]; exact f1); obtain ⟨A9, c9, rfl, _⟩ := own_src ho9; clear ho9 hg9)
                    | (at_lookup; refine wpList_lookup_own_unit _ rfl _ _ 76 rfl 78 80 kidLaw Try.underlying76 (zero_unit _) w3.heap.size i D rfl M9.out _ _ rfl HKEY.out ?_; rw [HHV.out]))
                  go_wp2_with fail
                  go_ret2
                  obtain ⟨h1, h2⟩ := HO.out
                  rw [h1, h2]
                  exact ⟨rfl, B9.out.alloc B9.out.size _⟩
        · obtain rfl : n = i := by omega
          have HO := Lib.hid (chk_one HCH.out (.inr (.inr ⟨by rw [← HN.out]; omega, fun k hk => HK.out k (by rw [HN.out]; exact hk), rfl, rfl⟩) : Chk L 0 0))
          go_wp2_with fail
          go_ret2
          obtain ⟨h1, h2⟩ := HO.out
          rw [h1, h2]
          exact ⟨rfl, HB.out⟩
set_option maxRecDepth 100000 in
theorem treeCheck_any (A : Option Addr) (c n : Nat) (L : List Nd) (R : List Sl) (i0 : Nat) (er : Int) (w : World) (hch : Chk L i0 er) (hm : Mild L) (hw : Wf L) (hcp : Caps R) (hA : NodesIn w A n L R) :
    Calls Try.prog 36 #[.slice A n c] w fun e w' => e = .returned (.tuple #[.int .i64 (i0 : Int), .int .i64 er]) ∧ Below w.heap.size w w' := by
  have HC := Lib.hid (check_any A c n L R i0 er w hch hm hw hcp hA)
  clear hch hm hw hcp hA
  go_enter Try.func36, Try.ntmps36
  go_wp2_with fail
  refine HC.out.mono ?_
  rintro e w2 ⟨rfl, b2⟩
  go_wp2_with fail
  go_ret2
  exact ⟨rfl, b2⟩
end Go.Proofs.Ytfafhkhamaccfaa.Tr
