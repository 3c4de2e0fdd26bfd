/- The document's next, Check. -/
import Derived.Test.YtfafhkhamaccfaaTrO
namespace Go.Proofs.Ytfafhkhamaccfaa.Tr
open Go.ChangeShapes Go.WideShapes Go.ChangeAt Go.RowKit Own wordsNames

/-- Nodes whose texts are no longer than this. -/
def Mild (L : List Nd) : Prop := L.length ≤ 16777216 ∧ ∀ k, (L.getD k nd0).name.length ≤ 16777216 ∧ (L.getD k nd0).props.length ≤ 16777216 ∧ Calm (L.getD k nd0).props
theorem box0 (w : World) (x y z : Value) (t : TypeId) : (w.alloc (.cells #[x, y, z] t)).cell? ⟨w.heap.size, 0, none⟩ = some x := by rw [Lib.cell_of_heap (heap_alloc_new w _)]; rfl
theorem box1 (w : World) (x y z : Value) (t : TypeId) : (w.alloc (.cells #[x, y, z] t)).cell? ⟨w.heap.size, 1, none⟩ = some y := by rw [Lib.cell_of_heap (heap_alloc_new w _)]; rfl
theorem box2 (w : World) (x y z : Value) (t : TypeId) : (w.alloc (.cells #[x, y, z] t)).cell? ⟨w.heap.size, 2, none⟩ = some z := by rw [Lib.cell_of_heap (heap_alloc_new w _)]; rfl
theorem box_lt (w : World) (o : Obj) : w.heap.size < (w.alloc o).heap.size := by simp

theorem above_len (L : List Nd) (n : Nat) (hb : Behind L n) : ∀ j, j < n → (aboveN L j).length ≤ j + 1 := by
  have key : ∀ m j, j ≤ m → j < n → (aboveN L j).length ≤ j + 1 := by
    intro m
    induction m with
    | zero =>
      intro j hj hn
      rw [above_step L n hb j hn]
      have h3 := hb j hn
      rw [if_pos (by omega)]
      simp
    | succ m ih =>
      intro j hj hn
      rw [above_step L n hb j hn]
      have h3 := hb j hn
      by_cases hp : (L.getD j nd0).parent < 0
      · rw [if_pos hp]
        simp
      · rw [if_neg hp]
        have := ih (L.getD j nd0).parent.toNat (by omega) (by omega)
        rw [List.length_cons]
        omega
  exact fun j hn => key j j (Nat.le_refl _) hn
theorem own_srcS {w : World} {base : Nat} {e : TypeId} {A : Option Addr} {n c : Nat} {xs : List Value} (h : w.ownsRow base e 1 (.slice A n c) n xs) : Src w A n c xs := by
  obtain ⟨A', c', h1, h2⟩ := own_src h
  injection h1 with h3 _ h4
  subst h3 h4
  exact h2
set_option maxRecDepth 100000 in
set_option maxHeartbeats 8000000 in
theorem next_any (A : Option Addr) (c n : Nat) (L : List Nd) (R : List Sl) (i : Nat) (g : Bool) (w : World) (hg : g = true ↔ nextOk L i) (hi : i < n) (hm : Mild L) (hv : ∀ k, k < i → nextOk L k) (hA : NodesIn w A n L R) :
    Calls Try.prog 64 #[.slice A n c, .int .i64 (i : Int)] w fun e w' => e = .returned (.bool g) ∧ Below w.heap.size w w' := by
  have hnb : n ≤ 16777216 := by have := hm.1; have := hA.1; omega
  have HG := Lib.hid hg
  have HM := Lib.hid hm
  have HV := Lib.hid hv
  have GA := Lib.hid hA
  obtain ⟨b, o, rfl, hbs, hc⟩ := hA.at (by omega)
  obtain ⟨⟨e1, e2, e3⟩, e4⟩ := hc i hi
  have HC := Lib.hid hc
  have HNX : Hid (g = true ↔ i < 512 ∧ propsOk (L.getD i nd0).props ∧ if i = 0 then (L.getD i nd0).parent = -1 ∧ (L.getD i nd0).name = [] else
    isName (L.getD i nd0).name = true ∧ 0 ≤ (L.getD i nd0).parent ∧ (L.getD i nd0).parent < (i : Int) ∧ (L.getD i nd0).parent.toNat ∈ aboveN L (i - 1) ∧ (aboveN L (L.getD i nd0).parent.toNat).length + 1 ≤ 16 ∧
      ∀ k, 1 ≤ k → k < i → ¬ ((L.getD k nd0).parent = (L.getD i nd0).parent ∧ (L.getD k nd0).name = (L.getD i nd0).name)) := Lib.hid hg
  have hmi := hm.2 i
  clear hg hm hv hA hc
  generalize L.getD i nd0 = d at e1 e2 e4 HNX hmi
  generalize R.getD i sl0 = r at e3 e4
  obtain ⟨pa, nm, ps⟩ := d
  obtain ⟨ra, rn, rc⟩ := r
  simp only at e1 e2 e3 e4 HNX hmi
  obtain ⟨hmn, hml, hmp⟩ := hmi
  have hrn : rn ≤ 16777216 := by have := e4.1; omega
  have HMP := Lib.hid hmp
  clear hmp
  have E4 := Lib.hid e4
  clear e4
  go_enter Try.func64, Try.ntmps64
  by_cases h512 : 512 ≤ i
  · have t0 : decide ((512 : Int) ≤ (i : Int)) = true := decide_eq_true (by omega)
    have t0' : decide (512 ≤ i) = true := decide_eq_true h512
    go_wp2_with fail
    have HF : Hid (g = false) := Lib.hid (Bool.eq_false_iff.2 fun e => by have := (HNX.out.1 e).1; omega)
    go_ret
    rw [HF.out]
    exact ⟨rfl, grows' w _⟩
  · have t0 : decide ((512 : Int) ≤ (i : Int)) = false := decide_eq_false (by omega)
    have t0' : decide (512 ≤ i) = false := decide_eq_false h512
    obtain ⟨gp, hgp⟩ : ∃ gp : Bool, gp = true ↔ propsOk ps := ⟨@decide (propsOk ps) (Classical.propDecidable _), by simp⟩
    have HGP := Lib.hid hgp
    have HPR := Lib.hid (refProps_any ra rc rn ps gp (w.alloc (.cells #[.int .i64 pa, .string (str nm), .slice ra rn rc] 38)) hgp hrn HMP.out (E4.out.below (grows' w _)))
    have c0 := box0 w (.int .i64 pa) (.string (str nm)) (.slice ra rn rc) 38
    have c1 := box1 w (.int .i64 pa) (.string (str nm)) (.slice ra rn rc) 38
    have hbx := box_lt w (.cells #[.int .i64 pa, .string (str nm), .slice ra rn rc] 38)
    have hbw := grows' w (.cells #[.int .i64 pa, .string (str nm), .slice ra rn rc] 38)
    have HBW := Lib.hid hbw
    clear hgp hbw
    go_wp2_with fail
    refine HPR.out.mono ?_
    generalize w.alloc (.cells #[.int .i64 pa, .string (str nm), .slice ra rn rc] 38) = w1 at c0 c1 hbx HBW ⊢
    rintro e w2 ⟨rfl, q, rfl⟩
    have hb2 := below_dr HBW.out q
    have HB2 := Lib.hid hb2
    have C0 : Hid ((w1.drewN q).cell? ⟨w.heap.size, 0, none⟩ = some (.int .i64 pa)) := Lib.hid c0
    have C1 : Hid ((w1.drewN q).cell? ⟨w.heap.size, 1, none⟩ = some (.string (str nm))) := Lib.hid c1
    have hbx2 : w.heap.size < (w1.drewN q).heap.size := hbx
    clear c0 c1 hbx HBW hb2
    generalize w1.drewN q = w2 at C0 C1 hbx2 HB2 ⊢
    cases gp with
    | false =>
      have HF : Hid (g = false) := Lib.hid (Bool.eq_false_iff.2 fun e => by have := HGP.out.2 (HNX.out.1 e).2.1; cases this)
      go_wp2_with fail
      go_ret
      rw [HF.out]
      exact ⟨rfl, HB2.out⟩
    | true =>
      have hps : propsOk ps := HGP.out.1 rfl
      have c0 := C0.out
      have c1 := C1.out
      by_cases hi0 : i = 0
      · have t1 : ((i : Int) == 0) = true := beq_iff_eq.2 (by omega)
        have HN2 : Hid (g = true ↔ pa = -1 ∧ nm = []) := Lib.hid (by
          rw [HNX.out, if_pos hi0]
          exact ⟨fun h => h.2.2, fun h => ⟨by omega, hps, h⟩⟩)
        clear hi0
        by_cases hpa : pa = -1
        · have t2 : (pa == -1) = true := beq_iff_eq.2 hpa
          by_cases hnm : nm = []
          · have HF : Hid (g = true) := Lib.hid (HN2.out.2 ⟨hpa, hnm⟩)
            have t3 : ((str nm).toList == []) = true := by rw [Lib.toList_data, str_list, hnm]; rfl
            have t4 : (str nm).toList.isEmpty = true := by rw [Lib.toList_data, str_list, hnm]; rfl
            generalize str nm = S at c1 t3 t4
            clear hpa hnm
            go_wp2_with fail
            go_ret
            rw [HF.out]
            exact ⟨rfl, HB2.out⟩
          · have HF : Hid (g = false) := Lib.hid (Bool.eq_false_iff.2 fun e => hnm (HN2.out.1 e).2)
            have t3 : ((str nm).toList == []) = false := by rw [Lib.toList_data, str_list, beq_eq_false_iff_ne]; exact hnm
            have t4 : (str nm).toList.isEmpty = false := by rw [Lib.toList_data, str_list, List.isEmpty_eq_false_iff]; exact hnm
            generalize str nm = S at c1 t3 t4
            clear hpa hnm
            go_wp2_with fail
            go_ret
            rw [HF.out]
            exact ⟨rfl, HB2.out⟩
        · have t2 : (pa == -1) = false := beq_eq_false_iff_ne.2 hpa
          have HF : Hid (g = false) := Lib.hid (Bool.eq_false_iff.2 fun e => hpa (HN2.out.1 e).1)
          clear hpa
          go_wp2_with fail
          go_ret
          rw [HF.out]
          exact ⟨rfl, HB2.out⟩
      · have t1 : ((i : Int) == 0) = false := beq_eq_false_iff_ne.2 (by omega)
        have HN2 : Hid (g = true ↔ isName nm = true ∧ 0 ≤ pa ∧ pa < (i : Int) ∧ pa.toNat ∈ aboveN L (i - 1) ∧ (aboveN L pa.toNat).length + 1 ≤ 16 ∧ ∀ k, 1 ≤ k → k < i → ¬ ((L.getD k nd0).parent = pa ∧ (L.getD k nd0).name = nm)) := Lib.hid (by
          rw [HNX.out, if_neg hi0]
          exact ⟨fun h => h.2.2, fun h => ⟨by omega, hps, h⟩⟩)
        have HNM := Lib.hid fun W => refName_any (str nm) W (by unfold maxLen; rw [str_size]; omega)
        rw [str_list] at HNM
        have HEQ := Lib.hid fun a => eq_lists a nm
        have hi1 : 1 ≤ i := by omega
        generalize str nm = S at c1 C1 HNM HEQ
        clear hi0
        by_cases hname : isName nm = true
        case' neg =>
          have hname' : isName nm = false := by simpa using hname
          have HF : Hid (g = false) := Lib.hid (Bool.eq_false_iff.2 fun e => hname (HN2.out.1 e).1)
          go_wp2_with fail
          refine (HNM.out _).mono ?_
          rw [hname']
          rintro e w4 ⟨rfl, rfl⟩
          go_wp2_with fail
          go_ret
          rw [HF.out]
          exact ⟨rfl, HB2.out⟩
        by_cases hp0 : 0 ≤ pa
        case' neg =>
          have t2 : decide (pa < 0) = true := decide_eq_true (by omega)
          have HF : Hid (g = false) := Lib.hid (Bool.eq_false_iff.2 fun e => hp0 (HN2.out.1 e).2.1)
          go_wp2_with fail
          refine (HNM.out _).mono ?_
          rw [hname]
          rintro e w4 ⟨rfl, rfl⟩
          go_wp2_with fail
          go_ret
          rw [HF.out]
          exact ⟨rfl, HB2.out⟩
        have t2 : decide (pa < 0) = false := decide_eq_false (by omega)
        by_cases hpi : pa < (i : Int)
        case' neg =>
          have t3 : decide ((i : Int) ≤ pa) = true := decide_eq_true (by omega)
          have HF : Hid (g = false) := Lib.hid (Bool.eq_false_iff.2 fun e => hpi (HN2.out.1 e).2.2.1)
          go_wp2_with fail
          refine (HNM.out _).mono ?_
          rw [hname]
          rintro e w4 ⟨rfl, rfl⟩
          go_wp2_with fail
          go_ret
          rw [HF.out]
          exact ⟨rfl, HB2.out⟩
        have t3 : decide ((i : Int) ≤ pa) = false := decide_eq_false (by omega)
        obtain ⟨p, rfl⟩ : ∃ p : Nat, pa = (p : Int) := ⟨pa.toNat, by omega⟩
        have HI1 : Hid ((i : Int) - 1 = ((i - 1 : Nat) : Int)) := Lib.hid (by omega)
        have HBH : Hid (Behind L (i - 1 + 1)) := Lib.hid (next_behind fun k hk => HV.out k (by omega))
        have HBP : Hid (Behind L (p + 1)) := Lib.hid (next_behind fun k hk => HV.out k (by omega))
        go_wp2_with fail
        refine (HNM.out _).mono ?_
        rw [hname]
        rintro e w4 ⟨rfl, rfl⟩
        go_wp2_with fail
        rw [HI1.out]
        refine (above_any _ c n L R (i - 1) _ (by omega) hnb HBH.out (GA.out.below HB2.out)).mono ?_
        rintro e w5 ⟨A5, m5, c5, hm5, rfl, ho5, hb5⟩
        have HM5 := Lib.hid hm5
        have S5 := Lib.hid ho5
        have HB5 := Lib.hid hb5
        have c05 : w5.cell? ⟨w.heap.size, 0, none⟩ = some (.int .i64 (p : Int)) := by rw [hb5.cell (p := ⟨w.heap.size, 0, none⟩) hbx2]; exact C0.out
        have hl5 := above_len L (i - 1 + 1) HBH.out (i - 1) (by omega)
        have hB5 := Lib.hid (bt HB2.out hb5)
        clear hm5 ho5 hb5 c0 c1
        have HH := Lib.hid (has_any A5 c5 m5 (aboveN L (i - 1)) (p : Int) w5 HM5.out (by rw [HM5.out]; omega) (own_srcS S5.out))
        go_wp2_with fail
        refine HH.out.mono ?_
        by_cases hhas : p ∈ aboveN L (i - 1)
        case' neg =>
          have hb : hasB (aboveN L (i - 1)) (p : Int) = false := decide_eq_false (by rw [Int.toNat_natCast]; exact fun h => hhas h.2)
          have HF : Hid (g = false) := Lib.hid (Bool.eq_false_iff.2 fun e => hhas (by have := (HN2.out.1 e).2.2.2.1; rwa [Int.toNat_natCast] at this))
          rw [hb]
          rintro e w6 ⟨rfl, rfl⟩
          go_wp2_with fail
          go_ret
          rw [HF.out]
          exact ⟨rfl, hB5.out⟩
        have hb : hasB (aboveN L (i - 1)) (p : Int) = true := decide_eq_true (by rw [Int.toNat_natCast]; exact ⟨by omega, hhas⟩)
        rw [hb]
        rintro e w6 ⟨rfl, rfl⟩
        go_wp2_with fail
        refine (above_any _ c n L R p _ (by omega) hnb HBP.out (GA.out.below hB5.out)).mono ?_
        rintro e w7 ⟨A7, m7, c7, hm7, rfl, ho7, hb7⟩
        have hbx5 : w.heap.size < w5.heap.size := Nat.lt_of_lt_of_le hbx2 HB5.out.size
        have c07 : w7.cell? ⟨w.heap.size, 0, none⟩ = some (.int .i64 (p : Int)) := by rw [hb7.cell (p := ⟨w.heap.size, 0, none⟩) hbx5]; exact c05
        have c17 : w7.cell? ⟨w.heap.size, 1, none⟩ = some (.string S) := by rw [hb7.cell (p := ⟨w.heap.size, 1, none⟩) hbx5, HB5.out.cell (p := ⟨w.heap.size, 1, none⟩) hbx2]; exact C1.out
        have HM7 := Lib.hid hm7
        have hmb7 : m7 ≤ p + 1 := by rw [hm7]; exact above_len L (p + 1) HBP.out p (by omega)
        have hB7 := Lib.hid (bt hB5.out hb7)
        clear hm7 ho7 hb7 c05
        by_cases h16 : m7 + 1 ≤ 16
        case' neg =>
          have t4 : decide ((16 : Int) < (m7 : Int) + 1) = true := decide_eq_true (by omega)
          have HF : Hid (g = false) := Lib.hid (Bool.eq_false_iff.2 fun e => h16 (by have := (HN2.out.1 e).2.2.2.2.1; rw [Int.toNat_natCast, ← HM7.out] at this; exact this))
          go_wp2_with fail
          go_ret
          rw [HF.out]
          exact ⟨rfl, hB7.out⟩
        have t4 : decide ((16 : Int) < (m7 : Int) + 1) = false := decide_eq_false (by omega)
        go_wp2_with fail
        go_loopw [7] (fun v7 wr => ∃ k q : Nat, 1 ≤ k ∧ k ≤ i ∧ v7 = .int .i64 k ∧ wr = w7.drewN q ∧ Hid (∀ j, 1 ≤ j → j < k → ¬ ((L.getD j nd0).parent = (p : Int) ∧ (L.getD j nd0).name = nm))) (fun v7 _ => i - (RowKit.intOf v7).toNat)
        case atStart => exact ⟨1, 0, by omega, hi1, rfl, rfl, Lib.hid fun j h1 h2 => by omega⟩
        case round =>
          obtain ⟨k, q7, hk1, hk, rfl, rfl, HK⟩ := hrel
          by_cases hkl : k < i
          · obtain ⟨⟨e0, e1, _⟩, _⟩ := HC.out k (by omega)
            have f0 : w7.cell? ⟨b, o + k * 3, none⟩ = some (.int .i64 (L.getD k nd0).parent) := by rw [hB7.out.cell (p := ⟨b, o + k * 3, none⟩) hbs]; exact e0
            have f1 : w7.cell? ⟨b, o + k * 3 + 1, none⟩ = some (.string (str (L.getD k nd0).name)) := by rw [hB7.out.cell (p := ⟨b, o + k * 3 + 1, none⟩) hbs]; exact e1
            have HE := Lib.hid (HEQ.out (L.getD k nd0).name)
            have HNO : Hid ((L.getD k nd0).parent = (p : Int) ∧ (L.getD k nd0).name = nm → g = false) := Lib.hid fun h => Bool.eq_false_iff.2 fun e => (HN2.out.1 e).2.2.2.2.2 k hk1 hkl h
            have HK2 : Hid (¬ ((L.getD k nd0).parent = (p : Int) ∧ (L.getD k nd0).name = nm) → ∀ j, 1 ≤ j → j < k + 1 → ¬ ((L.getD j nd0).parent = (p : Int) ∧ (L.getD j nd0).name = nm)) := Lib.hid fun hne j h1 h2 => by
              by_cases hjk : j = k
              · rw [hjk]; exact hne
              · exact HK.out j h1 (by omega)
            clear e0 e1
            generalize (L.getD k nd0).parent = z at f0 HNO HK2
            generalize (L.getD k nd0).name = a at f1 HE HNO HK2
            generalize str a = SA at f1 HE
            have k1 : (0 : Int) ≤ (k : Int) := by omega
            have k2 : (k : Int) < (n : Int) := by omega
            by_cases hz : z = (p : Int)
            · have t5 : (z == (p : Int)) = true := beq_iff_eq.2 hz
              by_cases ha : a = nm
              · have t6 : (SA.toList == S.toList) = true := by rw [HE.out]; exact decide_eq_true ha
                have HF := Lib.hid (HNO.out ⟨hz, ha⟩)
                clear hz ha
                go_wp2_with fail
                go_quiet (fail)
                go_wp2_with fail
                go_ret
                rw [HF.out]
                exact ⟨rfl, below_dr (below_dr hB7.out _) _⟩
              · have t6 : (SA.toList == S.toList) = false := by rw [HE.out]; exact decide_eq_false ha
                have HK3 := Lib.hid (HK2.out fun h => ha h.2)
                clear hz ha
                go_wp2_with fail
                go_quiet (fail)
                go_wp2_with fail
                go_roundw
                case rel => exact ⟨k + 1, _, by omega, by omega, by go_num, by first | rfl | exact World.drewN_drewN _ _ _, HK3⟩
                case measure => simp [RowKit.intOf]; omega
            · have t5 : (z == (p : Int)) = false := beq_eq_false_iff_ne.2 hz
              have HK3 := Lib.hid (HK2.out fun h => hz h.1)
              clear hz
              go_wp2_with fail
              go_quiet (fail)
              go_wp2_with fail
              go_roundw
              case rel => exact ⟨k + 1, _, by omega, by omega, by go_num, by first | rfl | exact World.drewN_drewN _ _ _, HK3⟩
              case measure => simp [RowKit.intOf]; omega
          · obtain rfl : i = k := by omega
            have HF : Hid (g = true) := Lib.hid (HN2.out.2 ⟨hname, by omega, hpi, by rw [Int.toNat_natCast]; exact hhas, by rw [Int.toNat_natCast, ← HM7.out]; exact h16, HK.out⟩)
            go_wp2_with fail
            go_ret
            rw [HF.out]
            exact ⟨rfl, below_dr hB7.out _⟩

set_option maxRecDepth 100000 in
set_option maxHeartbeats 4000000 in
theorem refCheck_any (A : Option Addr) (c n : Nat) (L : List Nd) (R : List Sl) (i : Nat) (er : Int) (w : World) (hch : Chk L i er) (hm : Mild L) (hA : NodesIn w A n L R) :
    Calls Try.prog 52 #[.slice A n c] w fun e w' => e = .returned (.tuple #[.int .i64 (i : Int), .int .i64 er]) ∧ Below w.heap.size w w' := by
  have hnb : n ≤ 16777216 := by have := hm.1; have := hA.1; omega
  have HCH := Lib.hid hch
  have HM := Lib.hid hm
  have HN := Lib.hid hA.1
  have GA := Lib.hid hA
  clear hch hm hA
  go_enter Try.func52, Try.ntmps52
  go_wp2_with fail
  go_loopw [4] (fun v4 wr => ∃ k : Nat, k ≤ n ∧ v4 = .int .i64 k ∧ Hid (∀ j, j < k → nextOk L j) ∧ Below w.heap.size w wr) (fun v4 _ => n - (RowKit.intOf v4).toNat)
  case atStart => exact ⟨0, by omega, rfl, Lib.hid fun j hj => by omega, Below.refl _ _⟩
  case round =>
    obtain ⟨k, hk, rfl, HK, hbw⟩ := hrel
    have HB := Lib.hid hbw
    clear hbw
    by_cases hkl : k < n
    · by_cases hnx : nextOk L k
      · have HNX := Lib.hid (next_any A c n L R k true wr ⟨fun _ => hnx, fun _ => rfl⟩ hkl HM.out HK.out (GA.out.below HB.out))
        have HK2 : Hid (∀ j, j < k + 1 → nextOk L j) := Lib.hid fun j hj => by
          by_cases hjk : j = k
          · rw [hjk]; exact hnx
          · exact HK.out j (by omega)
        clear hnx
        go_wp2_with fail
        refine HNX.out.mono ?_
        rintro e w2 ⟨rfl, b2⟩
        have B2 := Lib.hid (bt HB.out b2)
        clear b2
        go_wp2_with fail
        go_roundw
        case rel => exact ⟨k + 1, by omega, by go_num, HK2, B2.out⟩
        case measure => simp [RowKit.intOf]; omega
      · have HNX := Lib.hid (next_any A c n L R k false wr ⟨(fun h => by cases h), fun h => absurd h hnx⟩ hkl HM.out HK.out (GA.out.below HB.out))
        have HO := Lib.hid (chk_one HCH.out (.inl ⟨by rw [← HN.out]; exact hkl, hnx, HK.out, rfl⟩ : Chk L k 40))
        clear hnx
        go_wp2_with fail
        refine HNX.out.mono ?_
        rintro e w2 ⟨rfl, b2⟩
        have B2 := Lib.hid (bt HB.out b2)
        clear b2
        go_wp2_with fail
        go_ret2
        obtain ⟨h1, h2⟩ := HO.out
        rw [h1, h2]
        exact ⟨rfl, B2.out⟩
    · obtain rfl : n = k := by omega
      by_cases h0 : n = 0
      · have HO := Lib.hid (chk_one HCH.out (.inr (.inl ⟨by rw [← HN.out]; exact h0, rfl, rfl⟩) : Chk L 0 40))
        have t1 : ((n : Int) == 0) = true := beq_iff_eq.2 (by omega)
        clear h0
        go_wp2_with fail
        go_ret2
        obtain ⟨h1, h2⟩ := HO.out
        rw [h1, h2]
        exact ⟨rfl, HB.out⟩
      · have HO := Lib.hid (chk_one HCH.out (.inr (.inr ⟨by rw [← HN.out]; omega, fun k hk => HK.out k (by rw [HN.out]; exact hk), rfl, rfl⟩) : Chk L 0 0))
        have t1 : ((n : Int) == 0) = false := beq_eq_false_iff_ne.2 (by omega)
        clear h0
        go_wp2_with fail
        go_ret2
        obtain ⟨h1, h2⟩ := HO.out
        rw [h1, h2]
        exact ⟨rfl, HB.out⟩
end Go.Proofs.Ytfafhkhamaccfaa.Tr
