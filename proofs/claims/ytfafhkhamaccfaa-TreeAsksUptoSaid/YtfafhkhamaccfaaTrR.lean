/- The program's isName, areProps. -/
import Derived.Test.YtfafhkhamaccfaaTrQ
namespace Go.Proofs.Ytfafhkhamaccfaa.Tr
open Go.ChangeShapes Go.WideShapes Go.ChangeAt Go.RowKit Own wordsNames

theorem bool_ex (P : Prop) : ∃ g : Bool, g = true ↔ P := by
  by_cases h : P
  · exact ⟨true, fun _ => h, fun _ => rfl⟩
  · exact ⟨false, (fun e => by cases e), fun e => absurd e h⟩
theorem nameE_test (l : List UInt8) : (nameE l == 0) = isName l := by
  unfold nameE
  cases isName l <;> rfl
theorem isName_any (s : ByteArray) (w : World) (hs : s.size ≤ maxLen) :
    Calls Try.prog 62 #[.string s] w fun e w' => e = .returned (.bool (isName s.data.toList)) ∧ w = w' := by
  have HN := Lib.hid (name_any s w hs)
  have HT := Lib.hid (nameE_test s.data.toList)
  clear hs
  generalize nameE s.data.toList = z at HN HT
  go_enter Try.func62, Try.ntmps62
  go_wp2_with fail
  refine HN.out.mono ?_
  rintro e w2 ⟨rfl, rfl⟩
  go_wp2_with fail
  go_ret
  rw [← HT.out]
  exact ⟨rfl, rfl⟩
theorem pbox0 (w : World) (x y : Value) (t : TypeId) : (w.alloc (.cells #[x, y] t)).cell? ⟨w.heap.size, 0, none⟩ = some x := by rw [Lib.cell_of_heap (heap_alloc_new w _)]; rfl
theorem pbox1 (w : World) (x y : Value) (t : TypeId) : (w.alloc (.cells #[x, y] t)).cell? ⟨w.heap.size, 1, none⟩ = some y := by rw [Lib.cell_of_heap (heap_alloc_new w _)]; rfl

/-- What areProps' closure says of a prop: does it have the name? -/
theorem same_any (a v : List UInt8) (r : Nat) (nm : List UInt8) (w : World) (hr : w.cell? ⟨r, 0, none⟩ = some (.string (str nm))) (hlt : r < w.heap.size) :
    Calls Try.prog 73 #[.agg #[.string (str a), .string (str v)], .pointer (some ⟨r, 0, none⟩)] w fun e w' => e = .returned (.bool (decide (a = nm))) ∧ Below w.heap.size w w' := by
  have HE := Lib.hid (eq_lists a nm)
  have c0 := pbox0 w (.string (str a)) (.string (str v)) 54
  have c1 : (w.alloc (.cells #[.string (str a), .string (str v)] 54)).cell? ⟨r, 0, none⟩ = some (.string (str nm)) := by rw [(grows' w _).cell (p := ⟨r, 0, none⟩) hlt]; exact hr
  generalize str a = SA at c0 c1 HE ⊢
  generalize str nm = SN at c0 c1 HE hr
  generalize str v = SV at c0 c1 ⊢
  go_enter Try.func73, Try.ntmps73
  go_wp2_with fail
  go_ret
  rw [← HE.out]
  exact ⟨rfl, grows' w _⟩
/-- What IndexFunc says: a place, or none. -/
def FoundP (ps : List Pr) (nm : List UInt8) (i : Nat) (w : World) (e : Ending) (w' : World) : Prop :=
  ∃ z : Int, e = .returned (.int .i64 z) ∧ (0 ≤ z ↔ ∃ k, k < i ∧ (ps.getD k ([], [])).1 = nm) ∧ Below w.heap.size w w'
set_option maxRecDepth 100000 in
set_option maxHeartbeats 2000000 in
theorem indexFunc_any (b o i c r : Nat) (ps : List Pr) (nm : List UInt8) (w : World) (hib : i ≤ 16777216) (hbs : b < w.heap.size) (hc : ∀ k, k < i → w.cell? ⟨b, o + k * 2, none⟩ = some (.string (str (ps.getD k ([], [])).1)) ∧ w.cell? ⟨b, o + k * 2 + 1, none⟩ = some (.string (str (ps.getD k ([], [])).2)))
    (hr : w.cell? ⟨r, 0, none⟩ = some (.string (str nm))) (hrs : r < w.heap.size) :
    Calls Try.prog 81 #[.slice (some ⟨b, o, none⟩) i c, .func (Fn.func 73) #[] #[.pointer (some ⟨r, 0, none⟩)]] w (FoundP ps nm i w) := by
  have HC := Lib.hid hc
  have HR := Lib.hid hr
  clear hc hr
  go_enter Try.func81, Try.ntmps81
  go_wp2_with fail
  go_loopw [8] (fun v8 wr => ∃ k : Nat, k ≤ i ∧ v8 = .int .i64 k ∧ Hid (∀ j, j < k → (ps.getD j ([], [])).1 ≠ nm) ∧ Below w.heap.size w wr) (fun v8 _ => i - (RowKit.intOf v8).toNat)
  case atStart => exact ⟨0, by omega, rfl, Lib.hid fun j hj => by omega, Below.refl _ _⟩
  case round =>
    obtain ⟨k, hk, rfl, HK, hbw⟩ := hrel
    have HB := Lib.hid hbw
    by_cases hkl : k < i
    · obtain ⟨f1, f2⟩ := HC.out k hkl
      have e1 : wr.cell? ⟨b, o + k * 2, none⟩ = some (.string (str (ps.getD k ([], [])).1)) := by rw [hbw.cell (p := ⟨b, o + k * 2, none⟩) hbs]; exact f1
      have e2 : wr.cell? ⟨b, o + k * 2 + 1, none⟩ = some (.string (str (ps.getD k ([], [])).2)) := by rw [hbw.cell (p := ⟨b, o + k * 2 + 1, none⟩) hbs]; exact f2
      have HS := Lib.hid (same_any (ps.getD k ([], [])).1 (ps.getD k ([], [])).2 r nm wr (by rw [hbw.cell (p := ⟨r, 0, none⟩) hrs]; exact HR.out) (Nat.lt_of_lt_of_le hrs hbw.size))
      have HYE : Hid ((ps.getD k ([], [])).1 = nm → (0 ≤ (k : Int) ↔ ∃ j, j < i ∧ (ps.getD j ([], [])).1 = nm)) := Lib.hid fun h => ⟨fun _ => ⟨k, hkl, h⟩, fun _ => by omega⟩
      have HK2 : Hid ((ps.getD k ([], [])).1 ≠ nm → ∀ j, j < k + 1 → (ps.getD j ([], [])).1 ≠ nm) := Lib.hid fun hne j hj => by
        by_cases hjk : j = k
        · rw [hjk]; exact hne
        · exact HK.out j (by omega)
      clear f1 f2 hbw
      generalize (ps.getD k ([], [])).1 = a at e1 HS HYE HK2
      generalize (ps.getD k ([], [])).2 = v at e2 HS
      go_wp2_with fail
      refine HS.out.mono ?_
      by_cases ha : a = nm
      · have HV := Lib.hid (HYE.out ha)
        rw [decide_eq_true ha]
        clear ha
        rintro e w3 ⟨rfl, b3⟩
        have B3 := Lib.hid (bt HB.out b3)
        clear b3
        go_wp2_with fail
        go_ret
        exact ⟨k, rfl, HV.out, B3.out⟩
      · have HK3 := Lib.hid (HK2.out ha)
        rw [decide_eq_false ha]
        clear ha
        rintro e w3 ⟨rfl, b3⟩
        have B3 := Lib.hid (bt HB.out b3)
        clear b3
        go_wp2_with fail
        go_roundw
        case rel => exact ⟨k + 1, by omega, by go_num, HK3, B3.out⟩
        case measure => simp [RowKit.intOf]; omega
    · obtain rfl : i = k := by omega
      have HNO : Hid ((0 : Int) ≤ -1 ↔ ∃ j, j < i ∧ (ps.getD j ([], [])).1 = nm) := Lib.hid ⟨fun h => by omega, fun ⟨j, hj, he⟩ => absurd he (HK.out j hj)⟩
      clear hbw
      go_wp2_with fail
      go_ret
      exact ⟨-1, rfl, HNO.out, HB.out⟩
theorem contains_any (b o i c r : Nat) (ps : List Pr) (nm : List UInt8) (gq : Bool) (w : World) (hq : gq = true ↔ ∃ k, k < i ∧ (ps.getD k ([], [])).1 = nm) (hib : i ≤ 16777216) (hbs : b < w.heap.size) (hc : ∀ k, k < i → w.cell? ⟨b, o + k * 2, none⟩ = some (.string (str (ps.getD k ([], [])).1)) ∧ w.cell? ⟨b, o + k * 2 + 1, none⟩ = some (.string (str (ps.getD k ([], [])).2)))
    (hr : w.cell? ⟨r, 0, none⟩ = some (.string (str nm))) (hrs : r < w.heap.size) :
    Calls Try.prog 72 #[.slice (some ⟨b, o, none⟩) i c, .func (Fn.func 73) #[] #[.pointer (some ⟨r, 0, none⟩)]] w fun e w' => e = .returned (.bool gq) ∧ Below w.heap.size w w' := by
  have HI := Lib.hid (indexFunc_any b o i c r ps nm w hib hbs hc hr hrs)
  have HQ := Lib.hid hq
  clear hc hr hq
  go_enter Try.func72, Try.ntmps72
  go_wp2_with fail
  refine HI.out.mono ?_
  rintro e w2 ⟨z, rfl, hz, hb⟩
  have HB := Lib.hid hb
  by_cases h0 : 0 ≤ z
  · have t1 : decide (0 ≤ z) = true := decide_eq_true h0
    have HV : Hid (gq = true) := Lib.hid (HQ.out.2 (hz.1 h0))
    clear hz hb h0
    go_wp2_with fail
    go_ret
    rw [HV.out]
    exact ⟨rfl, HB.out⟩
  · have t1 : decide (0 ≤ z) = false := decide_eq_false h0
    have HV : Hid (gq = false) := Lib.hid (Bool.eq_false_iff.2 fun e => h0 (hz.2 (HQ.out.1 e)))
    clear hz hb h0
    go_wp2_with fail
    go_ret
    rw [HV.out]
    exact ⟨rfl, HB.out⟩
set_option maxRecDepth 100000 in
set_option maxHeartbeats 4000000 in
theorem areProps_any (A : Option Addr) (c n : Nat) (ps : List Pr) (g : Bool) (w : World) (hg : g = true ↔ propsOk ps) (hnb : n ≤ 16777216) (hz : Calm ps) (hA : PropsIn w A n ps) (hcap : n ≤ c) :
    Calls Try.prog 60 #[.slice A n c] w fun e w' => e = .returned (.bool g) ∧ Below w.heap.size w w' := by
  have HG := Lib.hid hg
  have HZ := Lib.hid hz
  have GA := Lib.hid hA
  have HN := Lib.hid hA.1
  clear hg hz hA
  by_cases h32 : 32 < n
  · have t0 : decide ((32 : Int) < (n : Int)) = true := decide_eq_true (by omega)
    have HV : Hid (g = false) := Lib.hid (Bool.eq_false_iff.2 fun e => by have h1 := (HG.out.1 e).1; have h2 := HN.out; omega)
    go_enter Try.func60, Try.ntmps60
    go_wp2_with fail
    go_ret
    rw [HV.out]
    exact ⟨rfl, Below.refl _ _⟩
  have t0 : decide ((32 : Int) < (n : Int)) = false := decide_eq_false (by omega)
  go_enter Try.func60, Try.ntmps60
  go_wp2_with fail
  go_loopw [10] (fun v10 wr => ∃ i : Nat, i ≤ n ∧ v10 = .int .i64 i ∧ Hid (∀ j, j < i → propOk ps j) ∧ Below w.heap.size w wr) (fun v10 _ => n - (RowKit.intOf v10).toNat)
  case atStart => exact ⟨0, by omega, rfl, Lib.hid fun j hj => by omega, Below.refl _ _⟩
  case round =>
    obtain ⟨i, hi, rfl, HI, hbw⟩ := hrel
    have HB := Lib.hid hbw
    clear hbw
    by_cases hlt : i < n
    · obtain ⟨b, o, rfl, hbs, hc⟩ := (GA.out.below HB.out).at (by omega)
      obtain ⟨e1, e2⟩ := hc i hlt
      have HC := Lib.hid hc
      have hzi := HZ.out i
      have HNO : Hid (¬ propOk ps i → g = false) := Lib.hid fun h => Bool.eq_false_iff.2 fun e => h ((HG.out.1 e).2 i (by rw [← HN.out]; exact hlt))
      have HPO : Hid (propOk ps i ↔ (isName (ps.getD i ([], [])).1 = true ∧ (ps.getD i ([], [])).2.length ≤ 1024) ∧ ∀ k, k < i → (ps.getD k ([], [])).1 ≠ (ps.getD i ([], [])).1) := Lib.hid Iff.rfl
      clear hc
      generalize ps.getD i ([], []) = p at e1 e2 hzi HPO
      obtain ⟨nm, va⟩ := p
      simp only at e1 e2 hzi HPO
      have HNM := Lib.hid fun W => isName_any (str nm) W (by unfold maxLen; rw [str_size]; omega)
      rw [str_list] at HNM
      have HVS : Hid ((str va).size = va.length) := Lib.hid rfl
      have c0 := pbox0 wr (.string (str nm)) (.string (str va)) 54
      have c1 := pbox1 wr (.string (str nm)) (.string (str va)) 54
      have hbx : wr.heap.size < (wr.alloc (.cells #[.string (str nm), .string (str va)] 54)).heap.size := by simp
      have hbw := grows' wr (.cells #[.string (str nm), .string (str va)] 54)
      have HBW := Lib.hid (bt HB.out hbw)
      have C0 := Lib.hid c0
      clear hbw
      by_cases h1 : isName nm = true
      · by_cases h2 : va.length ≤ 1024
        · have t1 : decide ((1024 : Int) < ((str va).size : Int)) = false := decide_eq_false (by have := HVS.out; omega)
          have t1' : decide (1024 < (str va).size) = false := decide_eq_false (by have := HVS.out; omega)
          go_wp2_with fail
          refine (HNM.out _).mono ?_
          rw [h1]
          rintro e w4 ⟨rfl, rfl⟩
          go_wp2_with fail
          obtain ⟨gq, hq⟩ : ∃ gq : Bool, gq = true ↔ ∃ k, k < i ∧ (ps.getD k ([], [])).1 = nm := bool_ex _
          have HQ := Lib.hid hq
          have HCT := Lib.hid (contains_any b o i c wr.heap.size ps nm gq _ hq (by omega) (Nat.lt_trans hbs hbx) (fun k hk => by
            rw [(grows' wr _).cell (p := ⟨b, o + k * 2, none⟩) hbs, (grows' wr _).cell (p := ⟨b, o + k * 2 + 1, none⟩) hbs]
            exact HC.out k (by omega)) C0.out hbx)
          clear hq
          refine HCT.out.mono ?_
          rintro e w5 ⟨rfl, b5⟩
          have B5 := Lib.hid (bt HBW.out b5)
          clear b5
          cases gq with
          | true =>
            have HV := Lib.hid (HNO.out fun hp => by
              obtain ⟨k, hk, he⟩ := HQ.out.1 rfl
              exact (HPO.out.1 hp).2 k hk he)
            go_wp2_with fail
            go_ret
            rw [HV.out]
            exact ⟨rfl, B5.out⟩
          | false =>
            have HI2 : Hid (∀ j, j < i + 1 → propOk ps j) := Lib.hid fun j hj => by
              by_cases hji : j = i
              · rw [hji]
                exact HPO.out.2 ⟨⟨h1, h2⟩, fun k hk he => by have := HQ.out.2 ⟨k, hk, he⟩; cases this⟩
              · exact HI.out j (by omega)
            clear h1 h2
            go_wp2_with fail
            go_roundw
            case rel => exact ⟨i + 1, by omega, by go_num, HI2, B5.out⟩
            case measure => simp [RowKit.intOf]; omega
        · have t1 : decide ((1024 : Int) < ((str va).size : Int)) = true := decide_eq_true (by have := HVS.out; omega)
          have t1' : decide (1024 < (str va).size) = true := decide_eq_true (by have := HVS.out; omega)
          have HV := Lib.hid (HNO.out fun hp => h2 (HPO.out.1 hp).1.2)
          go_wp2_with fail
          refine (HNM.out _).mono ?_
          rw [h1]
          rintro e w4 ⟨rfl, rfl⟩
          go_wp2_with fail
          go_ret
          rw [HV.out]
          exact ⟨rfl, HBW.out⟩
      · have h1' : isName nm = false := by simpa using h1
        have HV := Lib.hid (HNO.out fun hp => h1 (HPO.out.1 hp).1.1)
        go_wp2_with fail
        refine (HNM.out _).mono ?_
        rw [h1']
        rintro e w4 ⟨rfl, rfl⟩
        go_wp2_with fail
        go_ret
        rw [HV.out]
        exact ⟨rfl, HBW.out⟩
    · obtain rfl : n = i := by omega
      have HV : Hid (g = true) := Lib.hid (HG.out.2 ⟨by rw [← HN.out]; omega, fun k hk => HI.out k (by rw [HN.out]; exact hk)⟩)
      go_wp2_with fail
      go_ret
      rw [HV.out]
      exact ⟨rfl, HB.out⟩
end Go.Proofs.Ytfafhkhamaccfaa.Tr
