/- The law's asks: a place's props. -/
import Derived.Test.YtfafhkhamaccfaaTaM
namespace Go.Proofs.Ytfafhkhamaccfaa.Tr
open Go.ChangeShapes Go.WideShapes Go.ChangeAt Go.RowKit Own wordsNames

set_option maxRecDepth 100000 in
set_option maxHeartbeats 8000000 in
theorem asks_any (A B : Option Addr) (ca cb na nb : Nat) (L : List Nd) (Ra Rb : List Sl) (i er : Int) (nm : List UInt8) (y : World) (hp : Pl L i er) (hm : Mild L) (hw : Wf L) (hcp : Caps Ra) (hA : NodesIn y A na L Ra) (hB : NodesIn y B nb L Rb) :
    Calls Try.prog 14 #[.slice A na ca, .slice B nb cb, .int .i64 i, .string (str nm)] y fun e w' => e = .returned (.bool true) ∧ Below y.heap.size y w' := by
  have T1 := Lib.hid fun (W : World) (hW : Below y.heap.size y W) => tValue_any A ca na L Ra i er nm W hp hm hw hcp (hA.below hW)
  have R1 := Lib.hid fun (W : World) (hW : Below y.heap.size y W) => refValue_any B cb nb L Rb i er nm W hp hm (hB.below hW)
  have T2 := Lib.hid fun (W : World) (hW : Below y.heap.size y W) => tHandleOf_any A ca na L Ra i er W hp hm hw hcp (hA.below hW)
  have R2 := Lib.hid fun (W : World) (hW : Below y.heap.size y W) => refHandleOf_any B cb nb L Rb i er W hp hm (hB.below hW)
  have T3 := Lib.hid fun (W : World) (hW : Below y.heap.size y W) => tEnabled_any A ca na L Ra i er W hp hm hw hcp (hA.below hW)
  have R3 := Lib.hid fun (W : World) (hW : Below y.heap.size y W) => refEnabled_any B cb nb L Rb i er W hp hm (hB.below hW)
  have T4 := Lib.hid fun (W : World) (hW : Below y.heap.size y W) => tPlain_any A ca na L Ra i er W hp hm hw hcp (hA.below hW)
  have R4 := Lib.hid fun (W : World) (hW : Below y.heap.size y W) => refPlain_any B cb nb L Rb i er W hp hm (hB.below hW)
  have T5 := Lib.hid fun (W : World) (hW : Below y.heap.size y W) => tCompat_any A ca na L Ra i er W hp hm hw hcp (hA.below hW)
  have R5 := Lib.hid fun (W : World) (hW : Below y.heap.size y W) => refCompat_any B cb nb L Rb i er W hp hm (hB.below hW)
  have hcl : (cpV L i er).length ≤ 1024 := by
    rcases pl_err hp with rfl | rfl | ⟨rfl, h1, h2, _⟩
    · rw [cpV_bad L i (by omega)]; exact Nat.zero_le _
    · rw [cpV_bad L i (by omega)]; exact Nat.zero_le _
    · unfold cpV
      rw [if_pos rfl]
      exact says_len (node_ok (pl_next hp rfl) (by omega))
  clear hp hm hw hcp hA hB
  generalize valT L i er nm = v1 at T1 R1
  generalize valE L i er nm = x1 at T1 R1
  generalize (hdV L i er : Int) = v2 at T2 R2
  generalize hdE L i er = x2 at T2 R2
  generalize enV L i er = v3 at T3 R3
  generalize plV L i er = v4 at T4 R4
  generalize cpV L i er = v5 at T5 R5 hcl
  generalize str v1 = S1 at T1 R1
  have s1 : (S1.toList == S1.toList) = true := beq_self_eq_true _
  have s2 : (x1 != x1) = false := by simp
  have s3 : (v2 != v2) = false := by simp
  have s4 : (x2 != x2) = false := by simp
  have s5 : (v3 == v3) = true := beq_self_eq_true _
  have s6 : (v4 == v4) = true := beq_self_eq_true _
  have s7 : (er == er) = true := beq_self_eq_true _
  go_enter Try.func14, Try.ntmps14
  go_wp2_with fail
  refine (T1.out _ (Below.refl _ _)).mono ?_
  rintro e w1 ⟨rfl, b1⟩
  have B1 := Lib.hid b1
  clear b1
  go_wp2_with fail
  refine (R1.out _ B1.out).mono ?_
  rintro e w2 ⟨rfl, b2⟩
  have B2 := Lib.hid (bt B1.out b2)
  clear b2 B1
  go_wp2_with fail
  refine (T2.out _ B2.out).mono ?_
  rintro e w3 ⟨rfl, b3⟩
  have B3 := Lib.hid (bt B2.out b3)
  clear b3 B2
  go_wp2_with fail
  refine (R2.out _ B3.out).mono ?_
  rintro e w4 ⟨rfl, b4⟩
  have B4 := Lib.hid (bt B3.out b4)
  clear b4 B3
  go_wp2_with fail
  refine (T3.out _ B4.out).mono ?_
  rintro e w5 ⟨rfl, b5⟩
  have B5 := Lib.hid (bt B4.out b5)
  clear b5 B4
  go_wp2_with fail
  refine (R3.out _ B5.out).mono ?_
  rintro e w6 ⟨rfl, b6⟩
  have B6 := Lib.hid (bt B5.out b6)
  clear b6 B5
  go_wp2_with fail
  refine (T4.out _ B6.out).mono ?_
  rintro e w7 ⟨rfl, b7⟩
  have B7 := Lib.hid (bt B6.out b7)
  clear b7 B6
  go_wp2_with fail
  refine (R4.out _ B7.out).mono ?_
  rintro e w8 ⟨rfl, b8⟩
  have B8 := Lib.hid (bt B7.out b8)
  clear b8 B7
  go_wp2_with fail
  refine (T5.out _ B8.out).mono ?_
  rintro e w9 ⟨A9, n9, c9, hn9, rfl, ho9, b9⟩
  have B9 := Lib.hid (bt B8.out b9)
  have O9 := Lib.hid ho9
  have N9 := Lib.hid hn9
  have z9 : n9 ≤ 1024 := by omega
  clear b9 B8 ho9 hn9
  go_wp2_with fail
  refine (R5.out _ B9.out).mono ?_
  rintro e w10 ⟨A10, n10, c10, hn10, rfl, ho10, b10⟩
  have B10 := Lib.hid (bt B9.out b10)
  have O10 := Lib.hid (own_srcS ho10)
  have O92 := Lib.hid ((own_srcS O9.out).below b10)
  have N10 := Lib.hid hn10
  clear b10 B9 ho10 hn10 O9
  have HS := Lib.hid (sameTexts_any A9 A10 c9 c10 n9 n10 v5 w10 N9.out N10.out (by omega) O92.out O10.out)
  clear O92 O10
  go_wp2_with fail
  refine HS.out.mono ?_
  rintro e w11 ⟨rfl, q, rfl⟩
  go_wp2_with fail
  go_ret
  exact ⟨rfl, below_dr B10.out q⟩
end Go.Proofs.Ytfafhkhamaccfaa.Tr
