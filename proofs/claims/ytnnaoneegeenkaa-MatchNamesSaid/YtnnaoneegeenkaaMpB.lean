/- match's Quirk, and what its closures make of a number. -/
import Derived.Test.YtnnaoneegeenkaaMpA
namespace Go.Proofs.Ytnnaoneegeenkaa.Mq
open Go.ChangeShapes Go.WideShapes Go.ChangeAt Go.RowKit Own Ro Kc Go.Maps Go.WideMaps
open Rm (fnV)

set_option maxRecDepth 100000 in
theorem q1_any (n : Int) (w : World) : Calls Try.prog 25 #[.int .i64 n] w fun e w' => e = .returned (.int .i64 n) ∧ w' = w := by
  go_enter Try.func25, Try.ntmps25
  go_wp2_with fail
  go_ret
  exact ⟨rfl, rfl⟩
set_option maxRecDepth 100000 in
theorem q2_any (n : Int) (w : World) : Calls Try.prog 26 #[.int .i64 n] w fun e w' => e = .returned (.int .i64 (wrap64 (n.tdiv 4))) ∧ w' = w := by
  go_enter Try.func26, Try.ntmps26
  go_wp2_with fail
  go_ret
  exact ⟨rfl, rfl⟩
set_option maxRecDepth 100000 in
theorem q3_any (n : Int) (w : World) : Calls Try.prog 27 #[.int .i64 n] w fun e w' => e = .returned (.int .i64 (wrap64 (n.tdiv 2))) ∧ w' = w := by
  go_enter Try.func27, Try.ntmps27
  go_wp2_with fail
  go_ret
  exact ⟨rfl, rfl⟩
set_option maxRecDepth 100000 in
theorem q4_any (n : Int) (w : World) : Calls Try.prog 28 #[.int .i64 n] w fun e w' => e = .returned (.int .i64 (wrap64 (n + n))) ∧ w' = w := by
  go_enter Try.func28, Try.ntmps28
  go_wp2_with fail
  go_ret
  exact ⟨rfl, rfl⟩
set_option maxRecDepth 100000 in
theorem q5_any (n : Int) (w : World) : Calls Try.prog 29 #[.int .i64 n] w fun e w' => e = .returned (.int .i64 (if n.tmod 2 = 0 then n else wrap64 (-n))) ∧ w' = w := by
  go_enter Try.func29, Try.ntmps29
  by_cases h : n.tmod 2 = 0
  · rw [if_pos h]
    go_wp2_with fail
    go_ret
    exact ⟨rfl, rfl⟩
  · rw [if_neg h]
    go_wp2_with fail
    go_ret
    exact ⟨rfl, rfl⟩
def QFound (s : List UInt8) (f : Nat) : Prop := Maps.has DQ (.string s) = true ∧ DQ.atKey (.string s) (.held .nilFunc) = .held (fnV f) ∧ (∀ n W, Calls Try.prog f #[.int .i64 n] W (fun e w' => e = .returned (.int .i64 (qnV f n)) ∧ w' = W)) ∧ ∀ args W, (callFunc f args).run Try.prog W = .ok (.enter f args) W
theorem qf_1 : QFound [] 25 := ⟨rfl, rfl, fun n W => q1_any n W, enters_of Try.func25 (by kernel_rfl) rfl⟩
theorem qf_2 : QFound slowN 26 := ⟨rfl, rfl, fun n W => q2_any n W, enters_of Try.func26 (by kernel_rfl) rfl⟩
theorem qf_3 : QFound halfN 27 := ⟨rfl, rfl, fun n W => q3_any n W, enters_of Try.func27 (by kernel_rfl) rfl⟩
theorem qf_4 : QFound doubleN 28 := ⟨rfl, rfl, fun n W => q4_any n W, enters_of Try.func28 (by kernel_rfl) rfl⟩
theorem qf_5 : QFound oddN 29 := ⟨rfl, rfl, fun n W => q5_any n W, enters_of Try.func29 (by kernel_rfl) rfl⟩
theorem q_none (s : List UInt8) (h : s ∉ Qs) : Maps.has DQ (.string s) = false ∧ DQ.atKey (.string s) (.held .nilFunc) = .held .nilFunc := by
  simp only [Qs, List.mem_cons, List.not_mem_nil, or_false, not_or] at h
  obtain ⟨h1, h2, h3, h4, h5⟩ := h
  have e : ∀ {a b : List UInt8}, a ≠ b → Lit.string a ≠ Lit.string b := fun hab he => hab (by injection he)
  unfold DQ
  rw [has_put_other (e h5), has_put_other (e h4), has_put_other (e h3), has_put_other (e h2), has_put_other (e h1), atKey_put_other (e h5), atKey_put_other (e h4), atKey_put_other (e h3), atKey_put_other (e h2), atKey_put_other (e h1)]
  exact ⟨rfl, rfl⟩
theorem zeroQ (w : World) : (zeroValue 40).run Try.prog w = .ok .nilFunc w := by kernel_rfl
set_option maxRecDepth 100000 in
set_option maxHeartbeats 8000000 in
theorem quirk_ok {s : List UInt8} {f : Nat} (hf : QFound s f) (w : World) (hs : s.length ≤ maxLen) : Calls Try.prog 11 #[.string (str s)] w (fun e w' => e = .returned (.tuple #[fnV f, .bool true]) ∧ Below w.heap.size w w') := by
  have HF := Lib.hid hf
  have HKEY := Lib.hid (show keyOf Try.prog 9 (.string (str s)) = some (.string s) from keyOf_string_mk Try.underlying9 (by rw [str_size]; omega))
  have HA := Lib.hid turns_any
  clear hf hs
  generalize str s = S at HKEY ⊢
  go_enter Try.func11, Try.ntmps11
  go_wp2_with fail
  refine (HA.out w).mono ?_
  rintro e w1 ⟨rfl, hm, hb⟩
  have HM := Lib.hid hm
  have HB := Lib.hid hb
  clear hm hb HA
  go_wp2_with (at_lookup; refine wpList_lookup_own_ok _ rfl _ _ 51 rfl 9 40 nameLaw Try.underlying51 Rm.rd (zeroQ _) (.held .nilFunc) [] rfl w.heap.size 5 DQ rfl HM.out _ _ rfl HKEY.out ?_; rw [HF.out.1, HF.out.2.1]; intro v ps hv; obtain rfl : v = fnV f := (by unfold Rm.rd at hv; injection hv with hv; injection hv with hv _; injection hv); unfold fnV)
  go_ret2
  exact ⟨rfl, HB.out⟩
set_option maxRecDepth 100000 in
set_option maxHeartbeats 8000000 in
theorem quirk_none (s : List UInt8) (w : World) (hn : s ∉ Qs) (hs : s.length ≤ maxLen) : Calls Try.prog 11 #[.string (str s)] w (fun e w' => e = .returned (.tuple #[.nilFunc, .bool false]) ∧ Below w.heap.size w w') := by
  have HF := Lib.hid (q_none s hn)
  have HKEY := Lib.hid (show keyOf Try.prog 9 (.string (str s)) = some (.string s) from keyOf_string_mk Try.underlying9 (by rw [str_size]; omega))
  have HA := Lib.hid turns_any
  clear hn hs
  generalize str s = S at HKEY ⊢
  go_enter Try.func11, Try.ntmps11
  go_wp2_with fail
  refine (HA.out w).mono ?_
  rintro e w1 ⟨rfl, hm, hb⟩
  have HM := Lib.hid hm
  have HB := Lib.hid hb
  clear hm hb HA
  go_wp2_with (at_lookup; refine wpList_lookup_own_ok _ rfl _ _ 51 rfl 9 40 nameLaw Try.underlying51 Rm.rd (zeroQ _) (.held .nilFunc) [] rfl w.heap.size 5 DQ rfl HM.out _ _ rfl HKEY.out ?_; rw [HF.out.1, HF.out.2]; intro v ps hv; obtain rfl : v = .nilFunc := (by unfold Rm.rd at hv; injection hv with hv; injection hv with hv _; injection hv))
  go_ret2
  exact ⟨rfl, HB.out⟩
/-- The closure of a quirk, if there is one. -/
def qOf (s : List UInt8) : Option Nat := if s = [] then some 25 else if s = slowN then some 26 else if s = halfN then some 27 else if s = doubleN then some 28 else if s = oddN then some 29 else none
def QPost (s : List UInt8) (w : World) (e : Ending) (w' : World) : Prop := (match qOf s with | some f => e = .returned (.tuple #[fnV f, .bool true]) | none => e = .returned (.tuple #[.nilFunc, .bool false])) ∧ Below w.heap.size w w'
theorem qOf_found {s : List UInt8} {f : Nat} (h : qOf s = some f) : QFound s f := by
  unfold qOf at h
  split at h
  · next e => cases h; rw [e]; exact qf_1
  split at h
  · next e => cases h; rw [e]; exact qf_2
  split at h
  · next e => cases h; rw [e]; exact qf_3
  split at h
  · next e => cases h; rw [e]; exact qf_4
  split at h
  · next e => cases h; rw [e]; exact qf_5
  · cases h
theorem qOf_none {s : List UInt8} (h : qOf s = none) : s ∉ Qs := by
  unfold qOf at h
  split at h
  · cases h
  split at h
  · cases h
  split at h
  · cases h
  split at h
  · cases h
  split at h
  · cases h
  next h1 h2 h3 h4 h5 =>
    intro hm
    simp only [Qs, List.mem_cons, List.not_mem_nil, or_false] at hm
    rcases hm with hm | hm | hm | hm | hm
    · exact h1 hm
    · exact h2 hm
    · exact h3 hm
    · exact h4 hm
    · exact h5 hm
theorem quirk_any (s : List UInt8) (w : World) (hs : s.length ≤ maxLen) : Calls Try.prog 11 #[.string (str s)] w (QPost s w) := by
  unfold QPost
  cases h : qOf s with
  | none => exact quirk_none s w (qOf_none h) hs
  | some f => exact quirk_ok (qOf_found h) w hs
end Go.Proofs.Ytnnaoneegeenkaa.Mq
