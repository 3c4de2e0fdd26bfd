/- Order (P10.4): the program's. -/
import Derived.Test.YtjffemeeomogaaaDoorBuA
import Derived.Test.YtjffemeeomogaaaDoorStW
namespace Go.Proofs.YtjffemeeomogaaaDoor.Bu
open Go.ChangeShapes Go.WideShapes Go.ChangeAt Go.RowKit Own Ro St

def cmpI (a b : Int) : Int := if a < b then -1 else if b < a then 1 else 0
theorem cmpI_lt (a b : Int) : cmpI a b < 0 ↔ a < b := by unfold cmpI; split <;> (try split) <;> omega
set_option maxRecDepth 100000 in
set_option maxHeartbeats 8000000 in
theorem isNaN64_any (a : Int) (w : World) : Calls Tryd.prog 90 #[.int .i64 a] w (fun e w' => e = .returned (.bool false) ∧ w' = w) := by
  go_enter Tryd.func90, Tryd.ntmps90
  go_wp2_with fail
  go_ret
  exact ⟨rfl, rfl⟩
set_option maxRecDepth 100000 in
set_option maxHeartbeats 8000000 in
theorem cmp64_any (a b : Int) (w : World) : Calls Tryd.prog 65 #[.int .i64 a, .int .i64 b] w (fun e w' => e = .returned (.int .i64 (cmpI a b)) ∧ w' = w) := by
  have N1 := Lib.hid (isNaN64_any a w)
  have N2 := Lib.hid (isNaN64_any b w)
  have HV := Lib.hid (show cmpI a b = if a < b then -1 else if b < a then 1 else 0 from rfl)
  by_cases h1 : a < b
  · have HR := Lib.hid (show cmpI a b = -1 by rw [HV.out, if_pos h1])
    go_enter Tryd.func65, Tryd.ntmps65
    go_wp2_with fail
    refine N1.out.mono ?_
    rintro e w1 ⟨rfl, rfl⟩
    go_wp2_with fail
    refine N2.out.mono ?_
    rintro e w1 ⟨rfl, rfl⟩
    go_wp2_with fail
    go_ret
    exact ⟨by rw [HR.out]; rfl, rfl⟩
  · by_cases h2 : b < a
    · have HR := Lib.hid (show cmpI a b = 1 by rw [HV.out, if_neg h1, if_pos h2])
      go_enter Tryd.func65, Tryd.ntmps65
      go_wp2_with fail
      refine N1.out.mono ?_
      rintro e w1 ⟨rfl, rfl⟩
      go_wp2_with fail
      refine N2.out.mono ?_
      rintro e w1 ⟨rfl, rfl⟩
      go_wp2_with fail
      go_ret
      exact ⟨by rw [HR.out]; rfl, rfl⟩
    · have HR := Lib.hid (show cmpI a b = 0 by rw [HV.out, if_neg h1, if_neg h2])
      go_enter Tryd.func65, Tryd.ntmps65
      go_wp2_with fail
      refine N1.out.mono ?_
      rintro e w1 ⟨rfl, rfl⟩
      go_wp2_with fail
      refine N2.out.mono ?_
      rintro e w1 ⟨rfl, rfl⟩
      go_wp2_with fail
      go_ret
      exact ⟨by rw [HR.out]; rfl, rfl⟩
/-- A place as a number. -/
def numF (x : Fin 20) : Int := x.val
theorem numF_bd (x : Fin 20) : 0 ≤ numF x ∧ numF x < 20 := by unfold numF; omega
set_option maxRecDepth 100000 in
set_option maxHeartbeats 8000000 in
theorem rising_any (a b : Int) (W : World) (h : Tb W) (ha : 0 ≤ a ∧ a < 20) (hb : 0 ≤ b ∧ b < 20) : Calls Tryd.prog 64 #[.int .i64 a, .int .i64 b] W fun e V' => e = .returned (.int .i64 (cmpI (ent a) (ent b))) ∧ ∃ q, V' = W.drewN q := by
  have c1 := h.at ha.1 ha.2
  have c2 := h.at hb.1 hb.2
  obtain ⟨a1, a2⟩ := ha
  obtain ⟨b1, b2⟩ := hb
  have HC := Lib.hid (fun V => cmp64_any (ent a) (ent b) V)
  generalize ent a = ea at c1 HC ⊢
  generalize ent b = eb at c2 HC ⊢
  go_enter Tryd.func64, Tryd.ntmps64
  go_wp2_with fail
  go_quiet ((go_at_call 65; refine Calls.quiet_of_same (HC.out _)))
  go_wp2_with fail
  go_ret
  exact ⟨rfl, _, rfl⟩
set_option maxRecDepth 100000 in
set_option maxHeartbeats 8000000 in
theorem falling_any (a b : Int) (B : Nat) (W : World) (h : Tb W) (ha : 0 ≤ a ∧ a < 20) (hb : 0 ≤ b ∧ b < 20) (hB : W.cell? ⟨B, 0, none⟩ = some (.func (.func 64) #[] #[])) : Calls Tryd.prog 66 #[.int .i64 a, .int .i64 b, .pointer (some ⟨B, 0, none⟩)] W fun e V' => e = .returned (.int .i64 (cmpI (ent b) (ent a))) ∧ ∃ q, V' = W.drewN q := by
  have HR := Lib.hid (rising_any b a W h hb ha)
  go_enter Tryd.func66, Tryd.ntmps66
  go_wp2_with fail
  refine HR.out.mono ?_
  rintro e w1 ⟨rfl, q, rfl⟩
  go_wp2_with fail
  go_ret
  exact ⟨rfl, q, rfl⟩
end Go.Proofs.YtjffemeeomogaaaDoor.Bu
