/- The document's props, next, Check. -/
import Derived.Test.YtfafhkhamaccfaaTrN
namespace Go.Proofs.Ytfafhkhamaccfaa.Tr
open Go.ChangeShapes Go.WideShapes Go.ChangeAt Go.RowKit Own wordsNames

abbrev Pr := List UInt8 × List UInt8
def pr0 : Pr := ([], [])
def propOk (ps : List Pr) (i : Nat) : Prop := (isName (ps.getD i ([], [])).1 = true ∧ (ps.getD i ([], [])).2.length ≤ 1024) ∧ ∀ k, k < i → (ps.getD k ([], [])).1 ≠ (ps.getD i ([], [])).1
theorem propsOk_iff (ps : List Pr) : propsOk ps ↔ ps.length ≤ 32 ∧ ∀ i, i < ps.length → propOk ps i := Iff.rfl
/-- Texts that are no longer than this. -/
def Calm (ps : List Pr) : Prop := ∀ i, (ps.getD i ([], [])).1.length ≤ 16777216 ∧ (ps.getD i ([], [])).2.length ≤ 16777216

set_option maxRecDepth 100000 in
set_option maxHeartbeats 4000000 in
theorem refProps_any (A : Option Addr) (c n : Nat) (ps : List Pr) (g : Bool) (w : World) (hg : g = true ↔ propsOk ps) (hnb : n ≤ 16777216) (hz : Calm ps) (hA : PropsIn w A n ps) :
    Calls Try.prog 76 #[.slice A n c] w fun e w' => e = .returned (.bool g) ∧ ∃ q, w' = w.drewN q := by
  have HG := Lib.hid hg
  have HZ := Lib.hid hz
  have GA := Lib.hid hA
  have HN := Lib.hid hA.1
  clear hg hz hA
  by_cases h32 : 32 < n
  · have t0 : decide ((32 : Int) < (n : Int)) = true := decide_eq_true (by omega)
    have HV : Hid (g = false) := Lib.hid (Bool.eq_false_iff.2 fun e => by have h1 := (HG.out.1 e).1; have h2 := HN.out; omega)
    go_enter Try.func76, Try.ntmps76
    go_wp2_with fail
    go_ret
    rw [HV.out]
    exact ⟨rfl, 0, rfl⟩
  have t0 : decide ((32 : Int) < (n : Int)) = false := decide_eq_false (by omega)
  go_enter Try.func76, Try.ntmps76
  go_wp2_with fail
  go_loopw [3] (fun v3 wr => ∃ i q : Nat, i ≤ n ∧ v3 = .int .i64 i ∧ wr = w.drewN q ∧ Hid (∀ j, j < i → propOk ps j)) (fun v3 _ => n - (RowKit.intOf v3).toNat)
  case atStart => exact ⟨0, 0, by omega, rfl, rfl, Lib.hid fun j hj => by omega⟩
  case round =>
    obtain ⟨i, q, hi, rfl, rfl, HI⟩ := hrel
    by_cases hlt : i < n
    · obtain ⟨b, o, rfl, _, hc⟩ := GA.out.at (by omega)
      obtain ⟨e1, e2⟩ := hc i hlt
      have HC := Lib.hid hc
      have hzi := HZ.out i
      have HNO : Hid (¬ propOk ps i → g = false) := Lib.hid fun h => Bool.eq_false_iff.2 fun e => h ((HG.out.1 e).2 i (by rw [← HN.out]; exact hlt))
      have HPO : Hid (propOk ps i ↔ (isName (ps.getD i ([], [])).1 = true ∧ (ps.getD i ([], [])).2.length ≤ 1024) ∧ ∀ k, k < i → (ps.getD k ([], [])).1 ≠ (ps.getD i ([], [])).1) := Lib.hid Iff.rfl
      clear hc
      generalize ps.getD i ([], []) = p at e1 e2 hzi HPO
      obtain ⟨nm, va⟩ := p
      simp only at e1 e2 hzi HPO
      have HNM := Lib.hid fun W => refName_any (str nm) W (by unfold maxLen; rw [str_size]; omega)
      rw [str_list] at HNM
      have HVS : Hid ((str va).size = va.length) := Lib.hid rfl
      have HEQ := Lib.hid fun a => eq_lists a nm
      generalize str nm = S at e1 HNM HEQ
      generalize str va = V at e2 HVS
      by_cases h1 : isName nm = true
      · by_cases h2 : va.length ≤ 1024
        · have t1 : decide ((1024 : Int) < (V.size : Int)) = false := decide_eq_false (by have := HVS.out; omega)
          have t1' : decide (1024 < V.size) = false := decide_eq_false (by have := HVS.out; omega)
          go_wp2_with fail
          refine (HNM.out _).mono ?_
          rw [h1]
          rintro e w4 ⟨rfl, rfl⟩
          go_wp2_with fail
          go_loopw [4] (fun v4 wr => ∃ k q2 : Nat, k ≤ i ∧ v4 = .int .i64 k ∧ wr = w.drewN q2 ∧ Hid (∀ j, j < k → (ps.getD j ([], [])).1 ≠ nm)) (fun v4 _ => i - (RowKit.intOf v4).toNat)
          case atStart => exact ⟨0, q, by omega, rfl, rfl, Lib.hid fun j hj => by omega⟩
          case round =>
            obtain ⟨k, q2, hk, rfl, rfl, HK⟩ := hrel
            by_cases hkl : k < i
            · have e3 := (HC.out k (by omega)).1
              have HE := Lib.hid (HEQ.out (ps.getD k ([], [])).1)
              have HNO2 : Hid ((ps.getD k ([], [])).1 = nm → g = false) := Lib.hid fun he => HNO.out fun hp => (HPO.out.1 hp).2 k hkl he
              have HK2 : Hid ((ps.getD k ([], [])).1 ≠ nm → ∀ j, j < k + 1 → (ps.getD j ([], [])).1 ≠ nm) := Lib.hid fun hne j hj => by
                by_cases hjk : j = k
                · rw [hjk]; exact hne
                · exact HK.out j (by omega)
              generalize (ps.getD k ([], [])).1 = a at e3 HE HNO2 HK2
              generalize str a = SA at e3 HE
              by_cases he : a = nm
              · have t2 : (SA.toList == S.toList) = true := by rw [HE.out]; exact decide_eq_true he
                have HV := Lib.hid (HNO2.out he)
                clear he
                go_wp2_with fail
                go_quiet (fail)
                go_wp2_with fail
                go_ret
                rw [HV.out]
                exact ⟨rfl, _, World.drewN_drewN _ _ _⟩
              · have t2 : (SA.toList == S.toList) = false := by rw [HE.out]; exact decide_eq_false he
                have HK3 := Lib.hid (HK2.out he)
                clear he
                go_wp2_with fail
                go_quiet (fail)
                go_wp2_with fail
                go_roundw
                case rel => exact ⟨k + 1, _, by omega, by go_num, by first | rfl | exact World.drewN_drewN _ _ _, HK3⟩
                case measure => simp [RowKit.intOf]; omega
            · obtain rfl : i = k := by omega
              have HI2 : Hid (∀ j, j < i + 1 → propOk ps j) := Lib.hid fun j hj => by
                by_cases hji : j = i
                · rw [hji]; exact HPO.out.2 ⟨⟨h1, h2⟩, HK.out⟩
                · exact HI.out j (by omega)
              clear h1 h2
              go_wp2_with fail
              go_roundw
              case rel => exact ⟨i + 1, q2, by omega, by go_num, rfl, HI2⟩
              case measure => simp [RowKit.intOf]; omega
        · have t1 : decide ((1024 : Int) < (V.size : Int)) = true := decide_eq_true (by have := HVS.out; omega)
          have t1' : decide (1024 < V.size) = true := decide_eq_true (by have := HVS.out; omega)
          have HV := Lib.hid (HNO.out fun hp => h2 (HPO.out.1 hp).1.2)
          go_wp2_with fail
          refine (HNM.out _).mono ?_
          rw [h1]
          rintro e w4 ⟨rfl, rfl⟩
          go_wp2_with fail
          go_ret
          rw [HV.out]
          exact ⟨rfl, q, rfl⟩
      · have h1' : isName nm = false := by simpa using h1
        have HV := Lib.hid (HNO.out fun hp => h1 (HPO.out.1 hp).1.1)
        go_wp2_with fail
        refine (HNM.out _).mono ?_
        rw [h1']
        rintro e w4 ⟨rfl, rfl⟩
        go_wp2_with fail
        go_ret
        rw [HV.out]
        exact ⟨rfl, q, rfl⟩
    · obtain rfl : n = i := by omega
      have HV : Hid (g = true) := Lib.hid (HG.out.2 ⟨by rw [← HN.out]; omega, fun k hk => HI.out k (by rw [HN.out]; exact hk)⟩)
      go_wp2_with fail
      go_ret
      rw [HV.out]
      exact ⟨rfl, q, rfl⟩
end Go.Proofs.Ytfafhkhamaccfaa.Tr
