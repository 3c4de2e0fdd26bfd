/- The law MatchSettings. -/
import Derived.Test.YtnnaoneegeenkaaDoorMqE
import Derived.Test.YtnnaoneegeenkaaDoorKcX
import Derived.Test.YtnnaoneegeenkaaDoorKcT
namespace Go.Proofs.YtnnaoneegeenkaaDoor.Mq
open Go.ChangeShapes Go.WideShapes Go.ChangeAt Go.RowKit Own Ro Kc Go.Maps Go.WideMaps
open Rm (fnV T5)
open Ka (i64s i64s_len i64s_at)
open Kq (lookT tabsI rTable_any TablePost)

theorem fun_nil (W : World) : Sem.run Tryd.prog (Go.binOp .eql 58 .nilFunc .nilFunc) W = .ok (.bool true) W := by kernel_rfl
theorem fun_fn (f : Nat) (W : World) : Sem.run Tryd.prog (Go.binOp .eql 58 (.func (.func f) #[] #[]) .nilFunc) W = .ok (.bool false) W := by kernel_rfl
def tabF (a : Cd) : List Int := lookT (tabsI 5) a.fam
theorem tabF_len (a : Cd) : (tabF a).length ≤ 1099511627776 := by
  unfold tabF
  rw [Kq.tabs5]
  unfold lookT
  split
  · decide
  unfold lookT
  split
  · decide
  unfold lookT
  split
  · decide
  unfold lookT
  split
  · decide
  unfold lookT
  split
  · decide
  · exact Nat.zero_le _
set_option maxRecDepth 100000 in
set_option maxHeartbeats 16000000 in
theorem settings_any (a : Cd) (r : Sl) (nm : List UInt8) (z : Int) (w : World) (hm : MildC 1099511627776 a) (hr : r.2.1 = a.compat.length) (_hcap : r.2.1 ≤ r.2.2) (hne : Neat r) (hs : CellsIn w 1 r.1 r.2.1 (strs a.compat)) (ht5 : T5 w) (hnm : nm.length ≤ maxLen) :
    Calls Tryd.prog 5 #[cardV a r, .string (str nm), .int .i64 z] w fun e w' => e = .returned (.bool true) ∧ Below w.heap.size w w' := by
  obtain ⟨x, er, hx⟩ := set_ex a (tabF a)
  obtain ⟨w1, hw1, hlt1, hb1, hbx⟩ := box_ex w a r
  have HB1 := Lib.hid hb1
  have HBX := Lib.hid hbx
  have HSC := Lib.hid (fun W (hW : Below w1.heap.size w1 W) => (hs.below hb1).below hW)
  have HT5 := Lib.hid (fun W (hW : Below w1.heap.size w1 W) => (ht5.below hb1).below hW)
  have HTW := Lib.hid (twin_any a r w1 hm hr hne (hs.below hb1))
  have HTB := Lib.hid (fun W (hW : Below w1.heap.size w1 W) => rTable_any a.fam W (HT5.out W hW) (Nat.le_trans hm.2.1 (by unfold maxLen; decide)))
  have HRS := Lib.hid (fun T c W (hW : Below w1.heap.size w1 W) hT => refSetting_any a r T (tabF a).length c (tabF a) x er W hx rfl hT hm hr (HSC.out W hW) (tabF_len a))
  have HPS := Lib.hid (fun A2 n2 c2 W (hW : Below w1.heap.size w1 W) (h1 : n2 = a.compat.length) (h2 : n2 ≤ c2) (h3 : CellsIn W 1 A2 n2 (strs a.compat)) => setting_any a (A2, n2, c2) x er W hx hm h1 h2 h3 (HT5.out W hW))
  have HSM := Lib.hid (fun A2 n2 c2 W (hW : Below w1.heap.size w1 W) (h1 : n2 = a.compat.length) (h3 : CellsIn W 1 A2 n2 (strs a.compat)) => refSame_any a a (A2, n2, c2) r true W (by simp) hm hm h1 hr h3 (HSC.out W hW))
  have HTU := Lib.hid (fun n W => turned_any nm n W)
  have HQK := Lib.hid (fun W => quirk_any nm W hnm)
  have HTP : Hid (∀ e w4 W, TablePost a.fam w4 e W → ∃ A c, e = .returned (.tuple #[.slice A (tabF a).length c, .int .i64 (if tabF a = [] then 6 else 0)]) ∧ CellsIn W 1 A (tabF a).length (i64s (tabF a)) ∧ Below w4.heap.size w4 W) := Lib.hid (fun e w4 W h => h)
  clear hx hm hr _hcap hne hs ht5 hnm hb1 hbx HSC HT5
  have HE1 := Lib.hid (fun W (hW : Below w1.heap.size w1 W) => show W.cell? ⟨w.heap.size, 1, none⟩ = some (.string (str a.fam)) from HBX.out W hW 1 _ rfl)
  have HEA : Hid (∀ W, Below w1.heap.size w1 W → W.cell? ⟨w.heap.size, 0, none⟩ = some (.string (str a.name)) ∧ W.cell? ⟨w.heap.size, 1, none⟩ = some (.string (str a.fam)) ∧ W.cell? ⟨w.heap.size, 2, none⟩ = some (.int .u8 a.level) ∧ W.cell? ⟨w.heap.size, 3, none⟩ = some (.slice r.1 r.2.1 r.2.2) ∧ W.cell? ⟨w.heap.size, 4, none⟩ = some (.int .i8 a.score) ∧ W.cell? ⟨w.heap.size, 5, none⟩ = some (.string (str a.quirk)) ∧ W.cell? ⟨w.heap.size, 6, none⟩ = some (.int .i16 a.entry)) :=
    Lib.hid (fun W hW => ⟨HBX.out W hW 0 _ rfl, HBX.out W hW 1 _ rfl, HBX.out W hW 2 _ rfl, HBX.out W hW 3 _ rfl, HBX.out W hW 4 _ rfl, HBX.out W hW 5 _ rfl, HBX.out W hW 6 _ rfl⟩)
  have HEB : Hid (∀ w2 A n c W, Below w1.heap.size w1 w2 → Below (w2.alloc (.cells (cells7 a (A, n, c)) 30)).heap.size (w2.alloc (.cells (cells7 a (A, n, c)) 30)) W → W.cell? ⟨w2.heap.size, 0, none⟩ = some (.string (str a.name)) ∧ W.cell? ⟨w2.heap.size, 1, none⟩ = some (.string (str a.fam)) ∧ W.cell? ⟨w2.heap.size, 2, none⟩ = some (.int .u8 a.level) ∧ W.cell? ⟨w2.heap.size, 3, none⟩ = some (.slice A n c) ∧ W.cell? ⟨w2.heap.size, 4, none⟩ = some (.int .i8 a.score) ∧ W.cell? ⟨w2.heap.size, 5, none⟩ = some (.string (str a.quirk)) ∧ W.cell? ⟨w2.heap.size, 6, none⟩ = some (.int .i16 a.entry)) :=
    Lib.hid (fun w2 A n c W _ hW => by
      have q := fun j u hu => (hW.cell (p := ⟨w2.heap.size, j, none⟩) (by simp)).trans (box7s w2 a (A, n, c) 30 j u hu)
      exact ⟨q 0 _ rfl, q 1 _ rfl, q 2 _ rfl, q 3 _ rfl, q 4 _ rfl, q 5 _ rfl, q 6 _ rfl⟩)
  clear HBX
  unfold MadeC at HTW
  generalize tabF a = tab at HRS HTP
  unfold cardV at HTW HRS HPS HSM ⊢
  unfold cells7 at hw1 HTW HRS HPS HSM HEB ⊢
  obtain ⟨name, fm, lv, cp, sc, qk, en⟩ := a
  obtain ⟨ra, rn, rc⟩ := r
  simp only [slV] at hw1 HTW HRS HPS HSM HEA HEB ⊢
  try dsimp only at hw1 HTW HRS HPS HSM HEA HEB HE1 HTB HTP ⊢
  generalize str name = S1 at hw1 HTW HRS HPS HSM HEA HEB ⊢
  generalize str fm = S2 at hw1 HTW HRS HPS HSM HEA HEB HE1 HTB ⊢
  generalize str qk = S3 at hw1 HTW HRS HPS HSM HEA HEB ⊢
  have HW1 := Lib.hid hw1
  clear hw1
  have da := HEA.out w1 (Below.refl _ _)
  obtain ⟨d0, d1, d2, d3, d4, d5, d6⟩ := da
  have hfe1 := fun_nil
  have hfe2 := fun_fn
  go_enter Tryd.func5, Tryd.ntmps5
  go_upto_region 1 with (fail)
  rw [HW1.out]
  go_wp2_with fail
  refine HTW.out.mono ?_
  rintro e w2 ⟨A2, c2, n2, rfl, hn2, ho2, hb2⟩
  have B2 := Lib.hid hb2
  have HO2 := Lib.hid (own_cells ho2)
  have HN2 := Lib.hid hn2
  have HC2 : Hid (n2 ≤ c2) := Lib.hid (by obtain ⟨A', c', e, _, h⟩ := own_srcK ho2; injection e with _ _ e; rw [e]; exact h)
  clear hb2 ho2 hn2 HTW d0 d1 d2 d3 d4 d5 d6
  go_upto_region 2 with ((with_reducible (show wpList _ _ _ ((⟨none, .store _ _ _, _, _, _, _⟩ : Oper) :: _) _ _)); refine Rm.wpList_store_new (w := w2) (op := ⟨none, .store 30 (.tmp 7) (.tmp 19), _, _, _, _⟩) rfl 30 (.tmp 7) (.tmp 19) rfl #[.string ⟨#[]⟩, .string ⟨#[]⟩, .int .u8 0, .slice none 0 0, .int .i8 0, .string ⟨#[]⟩, .int .i16 0] #[.string S1, .string S2, .int .u8 lv, .slice A2 n2 c2, .int .i8 sc, .string S3, .int .i16 en] rfl rfl (by kernel_rfl) rfl (by simp [Value.oneCell']) ?_)
  have G3 := Lib.hid (grows' w2 (.cells #[.string S1, .string S2, .int .u8 lv, .slice A2 n2 c2, .int .i8 sc, .string S3, .int .i16 en] 30))
  have HEC := Lib.hid (fun W hW => HEB.out w2 A2 n2 c2 W B2.out hW)
  have hlt2 : w2.heap.size < (w2.alloc (.cells #[.string S1, .string S2, .int .u8 lv, .slice A2 n2 c2, .int .i8 sc, .string S3, .int .i16 en] 30)).heap.size := by simp
  generalize w2.alloc (.cells #[.string S1, .string S2, .int .u8 lv, .slice A2 n2 c2, .int .i8 sc, .string S3, .int .i16 en] 30) = w3 at G3 HEC hlt2 ⊢
  have B3 := Lib.hid (bt B2.out G3.out)
  have HO3 := Lib.hid (HO2.out.below G3.out)
  clear G3 HO2 B2 HEB hlt2
  generalize w2.heap.size = b2 at HEC ⊢
  have f1 := HE1.out w3 B3.out
  go_wp2_with fail
  refine (HTB.out w3 B3.out).mono ?_
  intro e w4 h4
  obtain ⟨A4, c4, rfl, hc4, hb4⟩ := HTP.out e w3 w4 h4
  have B4 := Lib.hid (bt B3.out hb4)
  have C4 := Lib.hid hb4
  have HC4 := Lib.hid hc4
  clear h4 hc4 hb4 f1 HTP HTB
  obtain ⟨d0, d1, d2, d3, d4, d5, d6⟩ := HEA.out w4 B4.out
  by_cases ht : tab = []
  · subst ht
    simp only [List.length_nil, if_true] at HC4 HRS ⊢
    go_wp2_with fail
    refine (HRS.out none 0 w4 B4.out ⟨rfl, .inl rfl⟩).mono ?_
    rintro e w5 ⟨rfl, hb5⟩
    have B5 := Lib.hid (bt B4.out hb5)
    have C5 := Lib.hid (bt C4.out hb5)
    clear hb5 d0 d1 d2 d3 d4 d5 d6 HRS HC4
    obtain ⟨g0, g1, g2, g3, g4, g5, g6⟩ := HEC.out w5 C5.out
    go_wp2_with fail
    refine (HPS.out A2 n2 c2 w5 B5.out HN2.out HC2.out (HO3.out.below C5.out)).mono ?_
    rintro e w6 ⟨rfl, hb6⟩
    have B6 := Lib.hid (bt B5.out hb6)
    have C6 := Lib.hid (bt C5.out hb6)
    clear hb6 g0 g1 g2 g3 g4 g5 g6 HPS
    obtain ⟨g0, g1, g2, g3, g4, g5, g6⟩ := HEC.out w6 C6.out
    obtain ⟨d0, d1, d2, d3, d4, d5, d6⟩ := HEA.out w6 B6.out
    go_wp2_with fail
    refine (HSM.out A2 n2 c2 w6 B6.out HN2.out (HO3.out.below C6.out)).mono ?_
    rintro e w7 ⟨rfl, hb7⟩
    have B7 := Lib.hid (bt B6.out hb7)
    clear hb7 g0 g1 g2 g3 g4 g5 g6 d0 d1 d2 d3 d4 d5 d6 HSM
    unfold TPost tV tB at HTU
    unfold QPost at HQK
    cases hq : qOf nm with
    | none =>
      simp only [hq, Option.isSome] at HTU HQK
      clear hq
      go_wp2_with fail
      refine (HTU.out z w7).mono ?_
      rintro e w8 ⟨rfl, rfl⟩
      go_wp2_with fail
      refine (HQK.out w8).mono ?_
      rintro e w9 ⟨rfl, hb9⟩
      have B9 := Lib.hid (bt B7.out hb9)
      clear hb9
      go_wp2_with fail
      go_ret
      exact ⟨rfl, bt HB1.out B9.out⟩
    | some f =>
      have heg := (qOf_found hq).2.2.2
      have HF := Lib.hid (qOf_found hq).2.2.1
      simp only [hq, Option.isSome] at HTU HQK
      unfold fnV at HQK
      clear hq
      go_wp2_with fail
      refine (HTU.out z w7).mono ?_
      rintro e w8 ⟨rfl, rfl⟩
      go_wp2_with fail
      refine (HQK.out w8).mono ?_
      rintro e w9 ⟨rfl, hb9⟩
      have B9 := Lib.hid (bt B7.out hb9)
      clear hb9
      go_wp2_with fail
      refine (HF.out z w9).mono ?_
      rintro e w10 ⟨rfl, rfl⟩
      go_wp2_with fail
      refine (HF.out z w10).mono ?_
      rintro e w11 ⟨rfl, rfl⟩
      go_wp2_with fail
      go_ret
      exact ⟨rfl, bt HB1.out B9.out⟩
  · simp only [if_neg ht]
    clear ht
    go_wp2_with fail
    refine (HRS.out A4 c4 w4 B4.out HC4.out).mono ?_
    rintro e w5 ⟨rfl, hb5⟩
    have B5 := Lib.hid (bt B4.out hb5)
    have C5 := Lib.hid (bt C4.out hb5)
    clear hb5 d0 d1 d2 d3 d4 d5 d6 HRS HC4
    obtain ⟨g0, g1, g2, g3, g4, g5, g6⟩ := HEC.out w5 C5.out
    go_wp2_with fail
    refine (HPS.out A2 n2 c2 w5 B5.out HN2.out HC2.out (HO3.out.below C5.out)).mono ?_
    rintro e w6 ⟨rfl, hb6⟩
    have B6 := Lib.hid (bt B5.out hb6)
    have C6 := Lib.hid (bt C5.out hb6)
    clear hb6 g0 g1 g2 g3 g4 g5 g6 HPS
    obtain ⟨g0, g1, g2, g3, g4, g5, g6⟩ := HEC.out w6 C6.out
    obtain ⟨d0, d1, d2, d3, d4, d5, d6⟩ := HEA.out w6 B6.out
    go_wp2_with fail
    refine (HSM.out A2 n2 c2 w6 B6.out HN2.out (HO3.out.below C6.out)).mono ?_
    rintro e w7 ⟨rfl, hb7⟩
    have B7 := Lib.hid (bt B6.out hb7)
    clear hb7 g0 g1 g2 g3 g4 g5 g6 d0 d1 d2 d3 d4 d5 d6 HSM
    unfold TPost tV tB at HTU
    unfold QPost at HQK
    cases hq : qOf nm with
    | none =>
      simp only [hq, Option.isSome] at HTU HQK
      clear hq
      go_wp2_with fail
      refine (HTU.out z w7).mono ?_
      rintro e w8 ⟨rfl, rfl⟩
      go_wp2_with fail
      refine (HQK.out w8).mono ?_
      rintro e w9 ⟨rfl, hb9⟩
      have B9 := Lib.hid (bt B7.out hb9)
      clear hb9
      go_wp2_with fail
      go_ret
      exact ⟨rfl, bt HB1.out B9.out⟩
    | some f =>
      have heg := (qOf_found hq).2.2.2
      have HF := Lib.hid (qOf_found hq).2.2.1
      simp only [hq, Option.isSome] at HTU HQK
      unfold fnV at HQK
      clear hq
      go_wp2_with fail
      refine (HTU.out z w7).mono ?_
      rintro e w8 ⟨rfl, rfl⟩
      go_wp2_with fail
      refine (HQK.out w8).mono ?_
      rintro e w9 ⟨rfl, hb9⟩
      have B9 := Lib.hid (bt B7.out hb9)
      clear hb9
      go_wp2_with fail
      refine (HF.out z w9).mono ?_
      rintro e w10 ⟨rfl, rfl⟩
      go_wp2_with fail
      refine (HF.out z w10).mono ?_
      rintro e w11 ⟨rfl, rfl⟩
      go_wp2_with fail
      go_ret
      exact ⟨rfl, bt HB1.out B9.out⟩
end Go.Proofs.YtnnaoneegeenkaaDoor.Mq
