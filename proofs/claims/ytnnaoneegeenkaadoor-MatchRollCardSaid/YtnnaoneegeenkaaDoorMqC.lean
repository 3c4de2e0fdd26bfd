/- What a quirk makes of a number, as the document has it. -/
import Derived.Test.YtnnaoneegeenkaaDoorMqB
namespace Go.Proofs.YtnnaoneegeenkaaDoor.Mq
open Go.ChangeShapes Go.WideShapes Go.ChangeAt Go.RowKit Own Ro Kc Go.Maps Go.WideMaps
open Rm (fnV)

def tV (s : List UInt8) (n : Int) : Int := match qOf s with | some f => qnV f n | none => 0
def tB (s : List UInt8) : Bool := (qOf s).isSome
def TPost (s : List UInt8) (n : Int) (w : World) (e : Ending) (w' : World) : Prop := e = .returned (.tuple #[.int .i64 (tV s n), .bool (tB s)]) ∧ w' = w
set_option maxRecDepth 100000 in
set_option maxHeartbeats 4000000 in
theorem turned_0 (s : List UInt8) (n : Int) (w : World) (h0 : s = []) : Calls Tryd.prog 21 #[.string (str s), .int .i64 n] w (TPost s n w) := by
  have e0 : ((str s).toList == ([] : List UInt8)) = true := by rw [Lib.toList_data, str_list]; simpa [slowN, halfN, doubleN, oddN] using h0
  have hq : qOf s = some 81 := by unfold qOf; rw [if_pos h0]
  unfold TPost tV tB
  rw [hq]
  clear h0 hq
  generalize str s = S at e0 ⊢
  go_enter Tryd.func21, Tryd.ntmps21
  go_wp2_with fail
  go_ret2
  exact ⟨rfl, rfl⟩
set_option maxRecDepth 100000 in
set_option maxHeartbeats 4000000 in
theorem turned_1 (s : List UInt8) (n : Int) (w : World) (h0 : s ≠ []) (h1 : s = slowN) : Calls Tryd.prog 21 #[.string (str s), .int .i64 n] w (TPost s n w) := by
  have e0 : ((str s).toList == ([] : List UInt8)) = false := by rw [Lib.toList_data, str_list]; simpa [slowN, halfN, doubleN, oddN] using h0
  have e1 : ((str s).toList == ([115, 108, 111, 119] : List UInt8)) = true := by rw [Lib.toList_data, str_list]; simpa [slowN, halfN, doubleN, oddN] using h1
  have hq : qOf s = some 82 := by unfold qOf; rw [if_neg h0, if_pos h1]
  unfold TPost tV tB
  rw [hq]
  clear h0 h1 hq
  generalize str s = S at e0 e1 ⊢
  go_enter Tryd.func21, Tryd.ntmps21
  go_wp2_with fail
  go_ret2
  exact ⟨rfl, rfl⟩
set_option maxRecDepth 100000 in
set_option maxHeartbeats 4000000 in
theorem turned_2 (s : List UInt8) (n : Int) (w : World) (h0 : s ≠ []) (h1 : s ≠ slowN) (h2 : s = halfN) : Calls Tryd.prog 21 #[.string (str s), .int .i64 n] w (TPost s n w) := by
  have e0 : ((str s).toList == ([] : List UInt8)) = false := by rw [Lib.toList_data, str_list]; simpa [slowN, halfN, doubleN, oddN] using h0
  have e1 : ((str s).toList == ([115, 108, 111, 119] : List UInt8)) = false := by rw [Lib.toList_data, str_list]; simpa [slowN, halfN, doubleN, oddN] using h1
  have e2 : ((str s).toList == ([104, 97, 108, 102] : List UInt8)) = true := by rw [Lib.toList_data, str_list]; simpa [slowN, halfN, doubleN, oddN] using h2
  have hq : qOf s = some 83 := by unfold qOf; rw [if_neg h0, if_neg h1, if_pos h2]
  unfold TPost tV tB
  rw [hq]
  clear h0 h1 h2 hq
  generalize str s = S at e0 e1 e2 ⊢
  go_enter Tryd.func21, Tryd.ntmps21
  go_wp2_with fail
  go_ret2
  exact ⟨rfl, rfl⟩
set_option maxRecDepth 100000 in
set_option maxHeartbeats 4000000 in
theorem turned_3 (s : List UInt8) (n : Int) (w : World) (h0 : s ≠ []) (h1 : s ≠ slowN) (h2 : s ≠ halfN) (h3 : s = doubleN) : Calls Tryd.prog 21 #[.string (str s), .int .i64 n] w (TPost s n w) := by
  have e0 : ((str s).toList == ([] : List UInt8)) = false := by rw [Lib.toList_data, str_list]; simpa [slowN, halfN, doubleN, oddN] using h0
  have e1 : ((str s).toList == ([115, 108, 111, 119] : List UInt8)) = false := by rw [Lib.toList_data, str_list]; simpa [slowN, halfN, doubleN, oddN] using h1
  have e2 : ((str s).toList == ([104, 97, 108, 102] : List UInt8)) = false := by rw [Lib.toList_data, str_list]; simpa [slowN, halfN, doubleN, oddN] using h2
  have e3 : ((str s).toList == ([100, 111, 117, 98, 108, 101] : List UInt8)) = true := by rw [Lib.toList_data, str_list]; simpa [slowN, halfN, doubleN, oddN] using h3
  have hq : qOf s = some 84 := by unfold qOf; rw [if_neg h0, if_neg h1, if_neg h2, if_pos h3]
  unfold TPost tV tB
  rw [hq]
  clear h0 h1 h2 h3 hq
  generalize str s = S at e0 e1 e2 e3 ⊢
  go_enter Tryd.func21, Tryd.ntmps21
  go_wp2_with fail
  go_ret2
  exact ⟨rfl, rfl⟩
set_option maxRecDepth 100000 in
set_option maxHeartbeats 4000000 in
theorem turned_4a (s : List UInt8) (n : Int) (w : World) (h0 : s ≠ []) (h1 : s ≠ slowN) (h2 : s ≠ halfN) (h3 : s ≠ doubleN) (h4 : s = oddN) (hm : n.tmod 2 = 0) : Calls Tryd.prog 21 #[.string (str s), .int .i64 n] w (TPost s n w) := by
  have e0 : ((str s).toList == ([] : List UInt8)) = false := by rw [Lib.toList_data, str_list]; simpa [slowN, halfN, doubleN, oddN] using h0
  have e1 : ((str s).toList == ([115, 108, 111, 119] : List UInt8)) = false := by rw [Lib.toList_data, str_list]; simpa [slowN, halfN, doubleN, oddN] using h1
  have e2 : ((str s).toList == ([104, 97, 108, 102] : List UInt8)) = false := by rw [Lib.toList_data, str_list]; simpa [slowN, halfN, doubleN, oddN] using h2
  have e3 : ((str s).toList == ([100, 111, 117, 98, 108, 101] : List UInt8)) = false := by rw [Lib.toList_data, str_list]; simpa [slowN, halfN, doubleN, oddN] using h3
  have e4 : ((str s).toList == ([111, 100, 100] : List UInt8)) = true := by rw [Lib.toList_data, str_list]; simpa [slowN, halfN, doubleN, oddN] using h4
  have hq : qOf s = some 85 := by unfold qOf; rw [if_neg h0, if_neg h1, if_neg h2, if_neg h3, if_pos h4]
  unfold TPost tV tB
  rw [hq]
  clear h0 h1 h2 h3 h4 hq
  generalize str s = S at e0 e1 e2 e3 e4 ⊢
  go_enter Tryd.func21, Tryd.ntmps21
  go_wp2_with fail
  go_ret2
  exact ⟨by simp only [qnV, Option.isSome]; first | rfl | (rw [if_pos hm]; rfl) | (rw [if_neg hm]; rfl), rfl⟩
set_option maxRecDepth 100000 in
set_option maxHeartbeats 4000000 in
theorem turned_4b (s : List UInt8) (n : Int) (w : World) (h0 : s ≠ []) (h1 : s ≠ slowN) (h2 : s ≠ halfN) (h3 : s ≠ doubleN) (h4 : s = oddN) (hm : ¬ n.tmod 2 = 0) : Calls Tryd.prog 21 #[.string (str s), .int .i64 n] w (TPost s n w) := by
  have e0 : ((str s).toList == ([] : List UInt8)) = false := by rw [Lib.toList_data, str_list]; simpa [slowN, halfN, doubleN, oddN] using h0
  have e1 : ((str s).toList == ([115, 108, 111, 119] : List UInt8)) = false := by rw [Lib.toList_data, str_list]; simpa [slowN, halfN, doubleN, oddN] using h1
  have e2 : ((str s).toList == ([104, 97, 108, 102] : List UInt8)) = false := by rw [Lib.toList_data, str_list]; simpa [slowN, halfN, doubleN, oddN] using h2
  have e3 : ((str s).toList == ([100, 111, 117, 98, 108, 101] : List UInt8)) = false := by rw [Lib.toList_data, str_list]; simpa [slowN, halfN, doubleN, oddN] using h3
  have e4 : ((str s).toList == ([111, 100, 100] : List UInt8)) = true := by rw [Lib.toList_data, str_list]; simpa [slowN, halfN, doubleN, oddN] using h4
  have hq : qOf s = some 85 := by unfold qOf; rw [if_neg h0, if_neg h1, if_neg h2, if_neg h3, if_pos h4]
  unfold TPost tV tB
  rw [hq]
  clear h0 h1 h2 h3 h4 hq
  generalize str s = S at e0 e1 e2 e3 e4 ⊢
  go_enter Tryd.func21, Tryd.ntmps21
  go_wp2_with fail
  go_ret2
  exact ⟨by simp only [qnV, Option.isSome]; first | rfl | (rw [if_pos hm]; rfl) | (rw [if_neg hm]; rfl), rfl⟩
set_option maxRecDepth 100000 in
set_option maxHeartbeats 4000000 in
theorem turned_5 (s : List UInt8) (n : Int) (w : World) (h0 : s ≠ []) (h1 : s ≠ slowN) (h2 : s ≠ halfN) (h3 : s ≠ doubleN) (h4 : s ≠ oddN) : Calls Tryd.prog 21 #[.string (str s), .int .i64 n] w (TPost s n w) := by
  have e0 : ((str s).toList == ([] : List UInt8)) = false := by rw [Lib.toList_data, str_list]; simpa [slowN, halfN, doubleN, oddN] using h0
  have e1 : ((str s).toList == ([115, 108, 111, 119] : List UInt8)) = false := by rw [Lib.toList_data, str_list]; simpa [slowN, halfN, doubleN, oddN] using h1
  have e2 : ((str s).toList == ([104, 97, 108, 102] : List UInt8)) = false := by rw [Lib.toList_data, str_list]; simpa [slowN, halfN, doubleN, oddN] using h2
  have e3 : ((str s).toList == ([100, 111, 117, 98, 108, 101] : List UInt8)) = false := by rw [Lib.toList_data, str_list]; simpa [slowN, halfN, doubleN, oddN] using h3
  have e4 : ((str s).toList == ([111, 100, 100] : List UInt8)) = false := by rw [Lib.toList_data, str_list]; simpa [slowN, halfN, doubleN, oddN] using h4
  have hq : qOf s = none := by unfold qOf; rw [if_neg h0, if_neg h1, if_neg h2, if_neg h3, if_neg h4]
  unfold TPost tV tB
  rw [hq]
  clear h0 h1 h2 h3 h4 hq
  generalize str s = S at e0 e1 e2 e3 e4 ⊢
  go_enter Tryd.func21, Tryd.ntmps21
  go_wp2_with fail
  go_ret2
  exact ⟨rfl, rfl⟩
theorem turned_any (s : List UInt8) (n : Int) (w : World) : Calls Tryd.prog 21 #[.string (str s), .int .i64 n] w (TPost s n w) := by
  by_cases h0 : s = []
  · exact turned_0 s n w h0
  by_cases h1 : s = slowN
  · exact turned_1 s n w h0 h1
  by_cases h2 : s = halfN
  · exact turned_2 s n w h0 h1 h2
  by_cases h3 : s = doubleN
  · exact turned_3 s n w h0 h1 h2 h3
  by_cases h4 : s = oddN
  · by_cases hm : n.tmod 2 = 0
    · exact turned_4a s n w h0 h1 h2 h3 h4 hm
    · exact turned_4b s n w h0 h1 h2 h3 h4 hm
  · exact turned_5 s n w h0 h1 h2 h3 h4
end Go.Proofs.YtnnaoneegeenkaaDoor.Mq
