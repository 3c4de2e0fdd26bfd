/- The number that a card stands for: both sides. -/
import Derived.Test.YtnnaoneegeenkaaDoorMqC
import Derived.Test.YtnnaoneegeenkaaDoorKcC
import Derived.Test.YtnnaoneegeenkaaDoorKcW
import Derived.Test.YtnnaoneegeenkaaDoorRvS
namespace Go.Proofs.YtnnaoneegeenkaaDoor.Mq
open Go.ChangeShapes Go.WideShapes Go.ChangeAt Go.RowKit Own Ro Kc Go.Maps Go.WideMaps
open Rm (fnV T5)
open Ka (i64s i64s_len i64s_at)
open Kq (lookT tabsI rTable_any TablePost)

theorem chk_ok {a : Cd} (h : CardOk a) : ChkC [a] 0 0 := .inr ⟨fun k hk => by
  obtain rfl : k = 0 := by simpa using hk
  exact ⟨by decide, h, fun j hj => absurd hj (Nat.not_lt_zero j)⟩, rfl, rfl⟩
theorem chk_bad {a : Cd} (h : ¬ CardOk a) : ChkC [a] 0 70 := .inl ⟨by simp, fun hc => h hc.2.1, fun k hk => absurd hk (Nat.not_lt_zero k), rfl⟩
theorem mild_one {M : Nat} {a : Cd} (h1 : 1 ≤ M) (h : MildC M a) : MildL M [a] := by
  refine ⟨by simpa using h1, fun k => ?_⟩
  cases k with
  | zero => exact h
  | succ k => exact ⟨Nat.zero_le _, Nat.zero_le _, Nat.zero_le _, Nat.zero_le _, fun j => by show (([] : List (List UInt8)).getD j []).length ≤ M; simp⟩
theorem one_rows (w : World) (a : Cd) (r : Sl) (hr : r.2.1 = a.compat.length) (hs : CellsIn w 1 r.1 r.2.1 (strs a.compat)) :
    Ro.RowsIn KC (w.alloc (.cells (cells7 a r) 30)) (some ⟨w.heap.size, 0, none⟩) 1 [a] [r] := by
  refine ⟨rfl, rfl, ⟨rfl, .inr ⟨_, 0, rfl, by simp, fun j u hu => ?_⟩⟩, fun i hi => ?_⟩
  · rw [Nat.zero_add, box7]
    have e : (KC.rows [a] [r]) = (cells7 a r).toList := rfl
    rw [e] at hu
    simpa using hu
  · obtain rfl : i = 0 := by omega
    exact ⟨hr, hs.below (grows' w _)⟩
/-- What a card stands for, by its family's table. -/
def SetRel (a : Cd) (tab : List Int) (x er : Int) : Prop :=
  (¬ CardOk a ∧ x = 0 ∧ er = 70) ∨ (CardOk a ∧ (tab = [] ∨ qOf a.quirk = none ∨ (tab.length : Int) ≤ a.entry) ∧ x = 0 ∧ er = 6) ∨
  (CardOk a ∧ tab ≠ [] ∧ (∃ f, qOf a.quirk = some f) ∧ a.entry < 0 ∧ x = 0 ∧ er = 0) ∨
  (CardOk a ∧ tab ≠ [] ∧ ∃ f, qOf a.quirk = some f ∧ 0 ≤ a.entry ∧ a.entry < (tab.length : Int) ∧ x = qnV f (tab.getD a.entry.toNat 0) ∧ er = 0)
theorem set_ex (a : Cd) (tab : List Int) : ∃ x er, SetRel a tab x er := by
  by_cases h1 : CardOk a
  · by_cases h2 : tab = []
    · exact ⟨0, 6, .inr (.inl ⟨h1, .inl h2, rfl, rfl⟩)⟩
    cases h3 : qOf a.quirk with
    | none => exact ⟨0, 6, .inr (.inl ⟨h1, .inr (.inl h3), rfl, rfl⟩)⟩
    | some f =>
      by_cases h4 : (tab.length : Int) ≤ a.entry
      · exact ⟨0, 6, .inr (.inl ⟨h1, .inr (.inr h4), rfl, rfl⟩)⟩
      by_cases h5 : a.entry < 0
      · exact ⟨0, 0, .inr (.inr (.inl ⟨h1, h2, ⟨f, h3⟩, h5, rfl, rfl⟩))⟩
      · exact ⟨_, 0, .inr (.inr (.inr ⟨h1, h2, f, h3, by omega, by omega, rfl, rfl⟩))⟩
  · exact ⟨0, 70, .inl ⟨h1, rfl, rfl⟩⟩
theorem cards_one (a : Cd) (r : Sl) (g : Bool) (b : Nat) (W : World) (hg : g = true ↔ CardOk a) (hm : MildC 1099511627776 a) (hs : Ro.RowsIn KC W (some ⟨b, 0, none⟩) 1 [a] [r]) :
    Calls Tryd.prog 45 #[.slice (some ⟨b, 0, none⟩) 1 1] W (fun e w' => e = .returned (.bool g) ∧ Below W.heap.size W w') := by
  have HC : Hid (Calls Tryd.prog 79 #[.slice (some ⟨b, 0, none⟩) 1 1] W (fun e w' => e = .returned (.tuple #[.int .i64 0, .int .i64 (if g then 0 else 70)]) ∧ Below W.heap.size W w')) := Lib.hid (by
    refine refCheck_any _ _ _ [a] [r] 0 (if g then 0 else 70) W ?_ (mild_one (by decide) hm) (Nat.le_refl 1) hs
    cases g with
    | true => exact chk_ok (hg.1 rfl)
    | false => exact chk_bad fun h => by have := hg.2 h; cases this)
  clear hg hm hs
  go_enter Tryd.func45, Tryd.ntmps45
  cases g with
  | true =>
    have HD := Lib.hid (show Calls Tryd.prog 79 #[.slice (some ⟨b, 0, none⟩) 1 1] W (fun e w' => e = .returned (.tuple #[.int .i64 0, .int .i64 0]) ∧ Below W.heap.size W w') from HC.out)
    clear HC
    go_wp2_with fail
    refine HD.out.mono ?_
    rintro e w2 ⟨rfl, hb⟩
    have HB := Lib.hid hb
    clear hb HD
    go_wp2_with fail
    go_ret
    exact ⟨rfl, HB.out⟩
  | false =>
    have HD := Lib.hid (show Calls Tryd.prog 79 #[.slice (some ⟨b, 0, none⟩) 1 1] W (fun e w' => e = .returned (.tuple #[.int .i64 0, .int .i64 70]) ∧ Below W.heap.size W w') from HC.out)
    clear HC
    go_wp2_with fail
    refine HD.out.mono ?_
    rintro e w2 ⟨rfl, hb⟩
    have HB := Lib.hid hb
    clear hb HD
    go_wp2_with fail
    go_ret
    exact ⟨rfl, HB.out⟩
/-- A card in a box, and what stands behind it. -/
theorem box_ex (w : World) (a : Cd) (r : Sl) : ∃ w1, w.alloc (.cells (cells7 a r) 30) = w1 ∧ w.heap.size < w1.heap.size ∧ Below w.heap.size w w1 ∧ ∀ W, Below w1.heap.size w1 W → ∀ j u, (cells7 a r)[j]? = some u → W.cell? ⟨w.heap.size, j, none⟩ = some u :=
  ⟨_, rfl, by simp, grows' w _, fun W hW j u hu => (hW.cell (p := ⟨w.heap.size, j, none⟩) (by simp)).trans (box7s w a r 30 j u hu)⟩
set_option maxRecDepth 100000 in
set_option maxHeartbeats 8000000 in
theorem set_bad (a : Cd) (r : Sl) (w : World) (hc : ¬ CardOk a) (hm : MildC 1099511627776 a) (hr : r.2.1 = a.compat.length) (hcap : r.2.1 ≤ r.2.2) (hs : CellsIn w 1 r.1 r.2.1 (strs a.compat)) (ht5 : T5 w) :
    Calls Tryd.prog 19 #[cardV a r] w fun e w' => e = .returned (.tuple #[.int .i64 0, .int .i64 70]) ∧ Below w.heap.size w w' := by
  obtain ⟨w1, hw1, hlt1, hb1, hbx⟩ := box_ex w a r
  have HB1 := Lib.hid hb1
  have HBX := Lib.hid hbx
  have hs1 := hs.below hb1
  have HR := Lib.hid (one_rows w1 a r hr hs1)
  have HG2 := Lib.hid (grows' w1 (.cells (cells7 a r) 30))
  have m2 : a.fam.length ≤ maxLen := Nat.le_trans hm.2.1 (by unfold maxLen; decide)
  have m3 : a.quirk.length ≤ maxLen := Nat.le_trans hm.2.2.1 (by unfold maxLen; decide)
  have HT5 := Lib.hid (ht5.below hb1)
  have HTB := Lib.hid (fun W (hW : Below w1.heap.size w1 W) => rTable_any a.fam W (HT5.out.below hW) m2)
  have HQK := Lib.hid (fun W => quirk_any a.quirk W m3)
  have HCK := Lib.hid (check_any (some ⟨w1.heap.size, 0, none⟩) 1 1 [a] [r] 0 70 _ (chk_bad hc) (mild_one (by decide) hm) (fun k => by cases k with | zero => exact hcap | succ k => simp [sl0]) HR.out)
  clear m2 m3 ht5
  clear hm hr hs hs1 hb1 hbx HR hcap
  have d := HBX.out w1 (Below.refl _ _)
  have d0 : w1.cell? ⟨w.heap.size, 0, none⟩ = some (.string (str a.name)) := d 0 _ rfl
  have d1 : w1.cell? ⟨w.heap.size, 1, none⟩ = some (.string (str a.fam)) := d 1 _ rfl
  have d2 : w1.cell? ⟨w.heap.size, 2, none⟩ = some (.int .u8 a.level) := d 2 _ rfl
  have d3 : w1.cell? ⟨w.heap.size, 3, none⟩ = some (.slice r.1 r.2.1 r.2.2) := d 3 _ rfl
  have d4 : w1.cell? ⟨w.heap.size, 4, none⟩ = some (.int .i8 a.score) := d 4 _ rfl
  have d5 : w1.cell? ⟨w.heap.size, 5, none⟩ = some (.string (str a.quirk)) := d 5 _ rfl
  have d6 : w1.cell? ⟨w.heap.size, 6, none⟩ = some (.int .i16 a.entry) := d 6 _ rfl
  have HE1 := Lib.hid (fun W (hW : Below w1.heap.size w1 W) => show W.cell? ⟨w.heap.size, 1, none⟩ = some (.string (str a.fam)) from HBX.out W hW 1 _ rfl)
  have HE5 := Lib.hid (fun W (hW : Below w1.heap.size w1 W) => show W.cell? ⟨w.heap.size, 5, none⟩ = some (.string (str a.quirk)) from HBX.out W hW 5 _ rfl)
  have HE6 := Lib.hid (fun W (hW : Below w1.heap.size w1 W) => show W.cell? ⟨w.heap.size, 6, none⟩ = some (.int .i16 a.entry) from HBX.out W hW 6 _ rfl)
  clear d HBX
  unfold cardV
  unfold cells7 at hw1 HCK HG2 ⊢
  obtain ⟨nm, fm, lv, cp, sc, qk, en⟩ := a
  obtain ⟨ra, rn, rc⟩ := r
  simp only [slV] at hw1 HCK HG2 d0 d1 d2 d3 d4 d5 d6 ⊢
  try dsimp only at hw1 HCK HG2 d0 d1 d2 d3 d4 d5 d6 ⊢
  clear hc HQK HTB HE1 HE5 HE6 HT5
  generalize str nm = S1 at d0 hw1 HCK HG2 ⊢
  generalize str fm = S2 at d1 hw1 HCK HG2 ⊢
  generalize str qk = S3 at d5 hw1 HCK HG2 ⊢
  have HW1 := Lib.hid hw1
  clear hw1
  go_enter Tryd.func19, Tryd.ntmps19
  go_upto_region 1 with (fail)
  rw [HW1.out]
  go_wp2_with fail
  refine HCK.out.mono ?_
  rintro e w3 ⟨rfl, hb⟩
  have BB := Lib.hid hb
  clear hb HCK
  go_wp2_with fail
  go_ret2
  exact ⟨rfl, bt HB1.out (bt HG2.out BB.out)⟩
set_option maxRecDepth 100000 in
set_option maxHeartbeats 8000000 in
theorem set_notab (a : Cd) (r : Sl) (w : World) (hc : CardOk a) (ht : lookT (tabsI 5) a.fam = [])  (hm : MildC 1099511627776 a) (hr : r.2.1 = a.compat.length) (hcap : r.2.1 ≤ r.2.2) (hs : CellsIn w 1 r.1 r.2.1 (strs a.compat)) (ht5 : T5 w) :
    Calls Tryd.prog 19 #[cardV a r] w fun e w' => e = .returned (.tuple #[.int .i64 0, .int .i64 6]) ∧ Below w.heap.size w w' := by
  have hen : -1 ≤ a.entry := hc.2.2.2.2.2.2.1
  have hen2 : a.entry ≤ 47 := hc.2.2.2.2.2.2.2
  have HOK := Lib.hid hc
  obtain ⟨w1, hw1, hlt1, hb1, hbx⟩ := box_ex w a r
  have HB1 := Lib.hid hb1
  have HBX := Lib.hid hbx
  have hs1 := hs.below hb1
  have HR := Lib.hid (one_rows w1 a r hr hs1)
  have HG2 := Lib.hid (grows' w1 (.cells (cells7 a r) 30))
  have m2 : a.fam.length ≤ maxLen := Nat.le_trans hm.2.1 (by unfold maxLen; decide)
  have m3 : a.quirk.length ≤ maxLen := Nat.le_trans hm.2.2.1 (by unfold maxLen; decide)
  have HT5 := Lib.hid (ht5.below hb1)
  have HTB := Lib.hid (fun W (hW : Below w1.heap.size w1 W) => rTable_any a.fam W (HT5.out.below hW) m2)
  have HQK := Lib.hid (fun W => quirk_any a.quirk W m3)
  have HCK := Lib.hid (check_any (some ⟨w1.heap.size, 0, none⟩) 1 1 [a] [r] 0 0 _ (chk_ok hc) (mild_one (by decide) hm) (fun k => by cases k with | zero => exact hcap | succ k => simp [sl0]) HR.out)
  clear m2 m3 ht5
  clear hm hr hs hs1 hb1 hbx HR hcap
  have d := HBX.out w1 (Below.refl _ _)
  have d0 : w1.cell? ⟨w.heap.size, 0, none⟩ = some (.string (str a.name)) := d 0 _ rfl
  have d1 : w1.cell? ⟨w.heap.size, 1, none⟩ = some (.string (str a.fam)) := d 1 _ rfl
  have d2 : w1.cell? ⟨w.heap.size, 2, none⟩ = some (.int .u8 a.level) := d 2 _ rfl
  have d3 : w1.cell? ⟨w.heap.size, 3, none⟩ = some (.slice r.1 r.2.1 r.2.2) := d 3 _ rfl
  have d4 : w1.cell? ⟨w.heap.size, 4, none⟩ = some (.int .i8 a.score) := d 4 _ rfl
  have d5 : w1.cell? ⟨w.heap.size, 5, none⟩ = some (.string (str a.quirk)) := d 5 _ rfl
  have d6 : w1.cell? ⟨w.heap.size, 6, none⟩ = some (.int .i16 a.entry) := d 6 _ rfl
  have HE1 := Lib.hid (fun W (hW : Below w1.heap.size w1 W) => show W.cell? ⟨w.heap.size, 1, none⟩ = some (.string (str a.fam)) from HBX.out W hW 1 _ rfl)
  have HE5 := Lib.hid (fun W (hW : Below w1.heap.size w1 W) => show W.cell? ⟨w.heap.size, 5, none⟩ = some (.string (str a.quirk)) from HBX.out W hW 5 _ rfl)
  have HE6 := Lib.hid (fun W (hW : Below w1.heap.size w1 W) => show W.cell? ⟨w.heap.size, 6, none⟩ = some (.int .i16 a.entry) from HBX.out W hW 6 _ rfl)
  clear d HBX
  unfold cardV
  unfold cells7 at hw1 HCK HG2 ⊢
  obtain ⟨nm, fm, lv, cp, sc, qk, en⟩ := a
  obtain ⟨ra, rn, rc⟩ := r
  clear HT5 hc HOK
  unfold TablePost at HTB
  unfold QPost at HQK
  simp only [show lookT (tabsI 5) fm = [] from ht, List.length_nil, if_true] at HTB
  clear ht
  cases hq : qOf qk with
  | none =>
    simp only [hq] at HQK
    clear hq
    simp only [slV] at hw1 HCK HG2 d0 d1 d2 d3 d4 d5 d6 ⊢
    try dsimp only at hw1 HCK HG2 d0 d1 d2 d3 d4 d5 d6 HE1 HE5 HE6 HTB HQK ⊢
    generalize str nm = S1 at d0 hw1 HCK HG2 ⊢
    generalize str fm = S2 at d1 hw1 HCK HG2 HE1 HTB ⊢
    generalize str qk = S3 at d5 hw1 HCK HG2 HE5 HQK ⊢
    have HW1 := Lib.hid hw1
    clear hw1
    go_enter Tryd.func19, Tryd.ntmps19
    go_upto_region 1 with (fail)
    rw [HW1.out]
    go_wp2_with fail
    refine HCK.out.mono ?_
    rintro e w3 ⟨rfl, hb⟩
    have B3 := Lib.hid (bt HG2.out hb)
    have f1 := HE1.out w3 B3.out
    clear hb HCK d0 d1 d2 d3 d4 d5 d6
    go_wp2_with fail
    refine (HTB.out w3 B3.out).mono ?_
    rintro e w4 ⟨A4, c4, rfl, hc4, hb4⟩
    have B4 := Lib.hid (bt B3.out hb4)
    have HC4 := Lib.hid hc4
    have f5 := HE5.out w4 B4.out
    clear hb4 hc4 f1 B3
    go_wp2_with fail
    refine (HQK.out w4).mono ?_
    rintro e w5 ⟨rfl, hb5⟩
    have B5 := Lib.hid (bt B4.out hb5)
    have f6 := HE6.out w5 B5.out
    have HC5 := Lib.hid (HC4.out.below hb5)
    clear hb5 f5 B4 HC4
    go_wp2_with fail
    go_ret2
    exact ⟨rfl, bt HB1.out (B5.out)⟩
  | some f =>
    simp only [hq] at HQK
    clear hq
    simp only [slV] at hw1 HCK HG2 d0 d1 d2 d3 d4 d5 d6 ⊢
    try dsimp only at hw1 HCK HG2 d0 d1 d2 d3 d4 d5 d6 HE1 HE5 HE6 HTB HQK ⊢
    generalize str nm = S1 at d0 hw1 HCK HG2 ⊢
    generalize str fm = S2 at d1 hw1 HCK HG2 HE1 HTB ⊢
    generalize str qk = S3 at d5 hw1 HCK HG2 HE5 HQK ⊢
    have HW1 := Lib.hid hw1
    clear hw1
    go_enter Tryd.func19, Tryd.ntmps19
    go_upto_region 1 with (fail)
    rw [HW1.out]
    go_wp2_with fail
    refine HCK.out.mono ?_
    rintro e w3 ⟨rfl, hb⟩
    have B3 := Lib.hid (bt HG2.out hb)
    have f1 := HE1.out w3 B3.out
    clear hb HCK d0 d1 d2 d3 d4 d5 d6
    go_wp2_with fail
    refine (HTB.out w3 B3.out).mono ?_
    rintro e w4 ⟨A4, c4, rfl, hc4, hb4⟩
    have B4 := Lib.hid (bt B3.out hb4)
    have HC4 := Lib.hid hc4
    have f5 := HE5.out w4 B4.out
    clear hb4 hc4 f1 B3
    go_wp2_with fail
    refine (HQK.out w4).mono ?_
    rintro e w5 ⟨rfl, hb5⟩
    have B5 := Lib.hid (bt B4.out hb5)
    have f6 := HE6.out w5 B5.out
    have HC5 := Lib.hid (HC4.out.below hb5)
    clear hb5 f5 B4 HC4
    go_wp2_with fail
    go_ret2
    exact ⟨rfl, bt HB1.out (B5.out)⟩
set_option maxRecDepth 100000 in
set_option maxHeartbeats 8000000 in
theorem set_noq (a : Cd) (r : Sl) (w : World) (hc : CardOk a) (ht : lookT (tabsI 5) a.fam ≠ []) (hq : qOf a.quirk = none) (hm : MildC 1099511627776 a) (hr : r.2.1 = a.compat.length) (hcap : r.2.1 ≤ r.2.2) (hs : CellsIn w 1 r.1 r.2.1 (strs a.compat)) (ht5 : T5 w) :
    Calls Tryd.prog 19 #[cardV a r] w fun e w' => e = .returned (.tuple #[.int .i64 0, .int .i64 6]) ∧ Below w.heap.size w w' := by
  have hen : -1 ≤ a.entry := hc.2.2.2.2.2.2.1
  have hen2 : a.entry ≤ 47 := hc.2.2.2.2.2.2.2
  have HOK := Lib.hid hc
  obtain ⟨w1, hw1, hlt1, hb1, hbx⟩ := box_ex w a r
  have HB1 := Lib.hid hb1
  have HBX := Lib.hid hbx
  have hs1 := hs.below hb1
  have HR := Lib.hid (one_rows w1 a r hr hs1)
  have HG2 := Lib.hid (grows' w1 (.cells (cells7 a r) 30))
  have m2 : a.fam.length ≤ maxLen := Nat.le_trans hm.2.1 (by unfold maxLen; decide)
  have m3 : a.quirk.length ≤ maxLen := Nat.le_trans hm.2.2.1 (by unfold maxLen; decide)
  have HT5 := Lib.hid (ht5.below hb1)
  have HTB := Lib.hid (fun W (hW : Below w1.heap.size w1 W) => rTable_any a.fam W (HT5.out.below hW) m2)
  have HQK := Lib.hid (fun W => quirk_any a.quirk W m3)
  have HCK := Lib.hid (check_any (some ⟨w1.heap.size, 0, none⟩) 1 1 [a] [r] 0 0 _ (chk_ok hc) (mild_one (by decide) hm) (fun k => by cases k with | zero => exact hcap | succ k => simp [sl0]) HR.out)
  clear m2 m3 ht5
  clear hm hr hs hs1 hb1 hbx HR hcap
  have d := HBX.out w1 (Below.refl _ _)
  have d0 : w1.cell? ⟨w.heap.size, 0, none⟩ = some (.string (str a.name)) := d 0 _ rfl
  have d1 : w1.cell? ⟨w.heap.size, 1, none⟩ = some (.string (str a.fam)) := d 1 _ rfl
  have d2 : w1.cell? ⟨w.heap.size, 2, none⟩ = some (.int .u8 a.level) := d 2 _ rfl
  have d3 : w1.cell? ⟨w.heap.size, 3, none⟩ = some (.slice r.1 r.2.1 r.2.2) := d 3 _ rfl
  have d4 : w1.cell? ⟨w.heap.size, 4, none⟩ = some (.int .i8 a.score) := d 4 _ rfl
  have d5 : w1.cell? ⟨w.heap.size, 5, none⟩ = some (.string (str a.quirk)) := d 5 _ rfl
  have d6 : w1.cell? ⟨w.heap.size, 6, none⟩ = some (.int .i16 a.entry) := d 6 _ rfl
  have HE1 := Lib.hid (fun W (hW : Below w1.heap.size w1 W) => show W.cell? ⟨w.heap.size, 1, none⟩ = some (.string (str a.fam)) from HBX.out W hW 1 _ rfl)
  have HE5 := Lib.hid (fun W (hW : Below w1.heap.size w1 W) => show W.cell? ⟨w.heap.size, 5, none⟩ = some (.string (str a.quirk)) from HBX.out W hW 5 _ rfl)
  have HE6 := Lib.hid (fun W (hW : Below w1.heap.size w1 W) => show W.cell? ⟨w.heap.size, 6, none⟩ = some (.int .i16 a.entry) from HBX.out W hW 6 _ rfl)
  clear d HBX
  unfold cardV
  unfold cells7 at hw1 HCK HG2 ⊢
  obtain ⟨nm, fm, lv, cp, sc, qk, en⟩ := a
  obtain ⟨ra, rn, rc⟩ := r
  clear HT5 hc HOK
  unfold TablePost at HTB
  unfold QPost at HQK
  dsimp only at ht hq
  simp only [if_neg ht] at HTB
  simp only [hq] at HQK
  clear ht hq
  generalize lookT (tabsI 5) fm = tab at HTB
  simp only [slV] at hw1 HCK HG2 d0 d1 d2 d3 d4 d5 d6 ⊢
  try dsimp only at hw1 HCK HG2 d0 d1 d2 d3 d4 d5 d6 HE1 HE5 HE6 HTB HQK ⊢
  generalize str nm = S1 at d0 hw1 HCK HG2 ⊢
  generalize str fm = S2 at d1 hw1 HCK HG2 HE1 HTB ⊢
  generalize str qk = S3 at d5 hw1 HCK HG2 HE5 HQK ⊢
  have HW1 := Lib.hid hw1
  clear hw1
  go_enter Tryd.func19, Tryd.ntmps19
  go_upto_region 1 with (fail)
  rw [HW1.out]
  go_wp2_with fail
  refine HCK.out.mono ?_
  rintro e w3 ⟨rfl, hb⟩
  have B3 := Lib.hid (bt HG2.out hb)
  have f1 := HE1.out w3 B3.out
  clear hb HCK d0 d1 d2 d3 d4 d5 d6
  go_wp2_with fail
  refine (HTB.out w3 B3.out).mono ?_
  rintro e w4 ⟨A4, c4, rfl, hc4, hb4⟩
  have B4 := Lib.hid (bt B3.out hb4)
  have HC4 := Lib.hid hc4
  have f5 := HE5.out w4 B4.out
  clear hb4 hc4 f1 B3
  go_wp2_with fail
  refine (HQK.out w4).mono ?_
  rintro e w5 ⟨rfl, hb5⟩
  have B5 := Lib.hid (bt B4.out hb5)
  have f6 := HE6.out w5 B5.out
  have HC5 := Lib.hid (HC4.out.below hb5)
  clear hb5 f5 B4 HC4
  go_wp2_with fail
  go_ret2
  exact ⟨rfl, bt HB1.out (B5.out)⟩
set_option maxRecDepth 100000 in
set_option maxHeartbeats 8000000 in
theorem set_over (a : Cd) (r : Sl) (w : World) (hc : CardOk a) (ht : lookT (tabsI 5) a.fam ≠ []) (f : Nat) (hq : qOf a.quirk = some f) (he : ((lookT (tabsI 5) a.fam).length : Int) ≤ a.entry) (hm : MildC 1099511627776 a) (hr : r.2.1 = a.compat.length) (hcap : r.2.1 ≤ r.2.2) (hs : CellsIn w 1 r.1 r.2.1 (strs a.compat)) (ht5 : T5 w) :
    Calls Tryd.prog 19 #[cardV a r] w fun e w' => e = .returned (.tuple #[.int .i64 0, .int .i64 6]) ∧ Below w.heap.size w w' := by
  have hen : -1 ≤ a.entry := hc.2.2.2.2.2.2.1
  have hen2 : a.entry ≤ 47 := hc.2.2.2.2.2.2.2
  have HOK := Lib.hid hc
  obtain ⟨w1, hw1, hlt1, hb1, hbx⟩ := box_ex w a r
  have HB1 := Lib.hid hb1
  have HBX := Lib.hid hbx
  have hs1 := hs.below hb1
  have HR := Lib.hid (one_rows w1 a r hr hs1)
  have HG2 := Lib.hid (grows' w1 (.cells (cells7 a r) 30))
  have m2 : a.fam.length ≤ maxLen := Nat.le_trans hm.2.1 (by unfold maxLen; decide)
  have m3 : a.quirk.length ≤ maxLen := Nat.le_trans hm.2.2.1 (by unfold maxLen; decide)
  have HT5 := Lib.hid (ht5.below hb1)
  have HTB := Lib.hid (fun W (hW : Below w1.heap.size w1 W) => rTable_any a.fam W (HT5.out.below hW) m2)
  have HQK := Lib.hid (fun W => quirk_any a.quirk W m3)
  have HCK := Lib.hid (check_any (some ⟨w1.heap.size, 0, none⟩) 1 1 [a] [r] 0 0 _ (chk_ok hc) (mild_one (by decide) hm) (fun k => by cases k with | zero => exact hcap | succ k => simp [sl0]) HR.out)
  clear m2 m3 ht5
  clear hm hr hs hs1 hb1 hbx HR hcap
  have d := HBX.out w1 (Below.refl _ _)
  have d0 : w1.cell? ⟨w.heap.size, 0, none⟩ = some (.string (str a.name)) := d 0 _ rfl
  have d1 : w1.cell? ⟨w.heap.size, 1, none⟩ = some (.string (str a.fam)) := d 1 _ rfl
  have d2 : w1.cell? ⟨w.heap.size, 2, none⟩ = some (.int .u8 a.level) := d 2 _ rfl
  have d3 : w1.cell? ⟨w.heap.size, 3, none⟩ = some (.slice r.1 r.2.1 r.2.2) := d 3 _ rfl
  have d4 : w1.cell? ⟨w.heap.size, 4, none⟩ = some (.int .i8 a.score) := d 4 _ rfl
  have d5 : w1.cell? ⟨w.heap.size, 5, none⟩ = some (.string (str a.quirk)) := d 5 _ rfl
  have d6 : w1.cell? ⟨w.heap.size, 6, none⟩ = some (.int .i16 a.entry) := d 6 _ rfl
  have HE1 := Lib.hid (fun W (hW : Below w1.heap.size w1 W) => show W.cell? ⟨w.heap.size, 1, none⟩ = some (.string (str a.fam)) from HBX.out W hW 1 _ rfl)
  have HE5 := Lib.hid (fun W (hW : Below w1.heap.size w1 W) => show W.cell? ⟨w.heap.size, 5, none⟩ = some (.string (str a.quirk)) from HBX.out W hW 5 _ rfl)
  have HE6 := Lib.hid (fun W (hW : Below w1.heap.size w1 W) => show W.cell? ⟨w.heap.size, 6, none⟩ = some (.int .i16 a.entry) from HBX.out W hW 6 _ rfl)
  clear d HBX
  unfold cardV
  unfold cells7 at hw1 HCK HG2 ⊢
  obtain ⟨nm, fm, lv, cp, sc, qk, en⟩ := a
  obtain ⟨ra, rn, rc⟩ := r
  clear HT5 hc HOK
  unfold TablePost at HTB
  unfold QPost at HQK
  dsimp only at ht hq he
  simp only [if_neg ht] at HTB
  simp only [hq] at HQK
  clear ht hq
  generalize lookT (tabsI 5) fm = tab at HTB he
  simp only [slV] at hw1 HCK HG2 d0 d1 d2 d3 d4 d5 d6 ⊢
  try dsimp only at hw1 HCK HG2 d0 d1 d2 d3 d4 d5 d6 HE1 HE5 HE6 HTB HQK ⊢
  generalize str nm = S1 at d0 hw1 HCK HG2 ⊢
  generalize str fm = S2 at d1 hw1 HCK HG2 HE1 HTB ⊢
  generalize str qk = S3 at d5 hw1 HCK HG2 HE5 HQK ⊢
  have HW1 := Lib.hid hw1
  clear hw1
  go_enter Tryd.func19, Tryd.ntmps19
  go_upto_region 1 with (fail)
  rw [HW1.out]
  go_wp2_with fail
  refine HCK.out.mono ?_
  rintro e w3 ⟨rfl, hb⟩
  have B3 := Lib.hid (bt HG2.out hb)
  have f1 := HE1.out w3 B3.out
  clear hb HCK d0 d1 d2 d3 d4 d5 d6
  go_wp2_with fail
  refine (HTB.out w3 B3.out).mono ?_
  rintro e w4 ⟨A4, c4, rfl, hc4, hb4⟩
  have B4 := Lib.hid (bt B3.out hb4)
  have HC4 := Lib.hid hc4
  have f5 := HE5.out w4 B4.out
  clear hb4 hc4 f1 B3
  go_wp2_with fail
  refine (HQK.out w4).mono ?_
  rintro e w5 ⟨rfl, hb5⟩
  have B5 := Lib.hid (bt B4.out hb5)
  have f6 := HE6.out w5 B5.out
  have HC5 := Lib.hid (HC4.out.below hb5)
  clear hb5 f5 B4 HC4
  generalize tab.length = n at *
  have z1 : (0 : Int) ≤ (n : Int) := by omega
  go_wp2_with fail
  go_ret2
  exact ⟨rfl, bt HB1.out (B5.out)⟩
set_option maxRecDepth 100000 in
set_option maxHeartbeats 8000000 in
theorem set_neg (a : Cd) (r : Sl) (w : World) (hc : CardOk a) (ht : lookT (tabsI 5) a.fam ≠ []) (f : Nat) (hq : qOf a.quirk = some f) (he : a.entry < 0) (hm : MildC 1099511627776 a) (hr : r.2.1 = a.compat.length) (hcap : r.2.1 ≤ r.2.2) (hs : CellsIn w 1 r.1 r.2.1 (strs a.compat)) (ht5 : T5 w) :
    Calls Tryd.prog 19 #[cardV a r] w fun e w' => e = .returned (.tuple #[.int .i64 0, .int .i64 0]) ∧ Below w.heap.size w w' := by
  have hen : -1 ≤ a.entry := hc.2.2.2.2.2.2.1
  have hen2 : a.entry ≤ 47 := hc.2.2.2.2.2.2.2
  have HOK := Lib.hid hc
  obtain ⟨w1, hw1, hlt1, hb1, hbx⟩ := box_ex w a r
  have HB1 := Lib.hid hb1
  have HBX := Lib.hid hbx
  have hs1 := hs.below hb1
  have HR := Lib.hid (one_rows w1 a r hr hs1)
  have HG2 := Lib.hid (grows' w1 (.cells (cells7 a r) 30))
  have m2 : a.fam.length ≤ maxLen := Nat.le_trans hm.2.1 (by unfold maxLen; decide)
  have m3 : a.quirk.length ≤ maxLen := Nat.le_trans hm.2.2.1 (by unfold maxLen; decide)
  have HT5 := Lib.hid (ht5.below hb1)
  have HTB := Lib.hid (fun W (hW : Below w1.heap.size w1 W) => rTable_any a.fam W (HT5.out.below hW) m2)
  have HQK := Lib.hid (fun W => quirk_any a.quirk W m3)
  have HCK := Lib.hid (check_any (some ⟨w1.heap.size, 0, none⟩) 1 1 [a] [r] 0 0 _ (chk_ok hc) (mild_one (by decide) hm) (fun k => by cases k with | zero => exact hcap | succ k => simp [sl0]) HR.out)
  clear m2 m3 ht5
  clear hm hr hs hs1 hb1 hbx HR hcap
  have d := HBX.out w1 (Below.refl _ _)
  have d0 : w1.cell? ⟨w.heap.size, 0, none⟩ = some (.string (str a.name)) := d 0 _ rfl
  have d1 : w1.cell? ⟨w.heap.size, 1, none⟩ = some (.string (str a.fam)) := d 1 _ rfl
  have d2 : w1.cell? ⟨w.heap.size, 2, none⟩ = some (.int .u8 a.level) := d 2 _ rfl
  have d3 : w1.cell? ⟨w.heap.size, 3, none⟩ = some (.slice r.1 r.2.1 r.2.2) := d 3 _ rfl
  have d4 : w1.cell? ⟨w.heap.size, 4, none⟩ = some (.int .i8 a.score) := d 4 _ rfl
  have d5 : w1.cell? ⟨w.heap.size, 5, none⟩ = some (.string (str a.quirk)) := d 5 _ rfl
  have d6 : w1.cell? ⟨w.heap.size, 6, none⟩ = some (.int .i16 a.entry) := d 6 _ rfl
  have HE1 := Lib.hid (fun W (hW : Below w1.heap.size w1 W) => show W.cell? ⟨w.heap.size, 1, none⟩ = some (.string (str a.fam)) from HBX.out W hW 1 _ rfl)
  have HE5 := Lib.hid (fun W (hW : Below w1.heap.size w1 W) => show W.cell? ⟨w.heap.size, 5, none⟩ = some (.string (str a.quirk)) from HBX.out W hW 5 _ rfl)
  have HE6 := Lib.hid (fun W (hW : Below w1.heap.size w1 W) => show W.cell? ⟨w.heap.size, 6, none⟩ = some (.int .i16 a.entry) from HBX.out W hW 6 _ rfl)
  clear d HBX
  unfold cardV
  unfold cells7 at hw1 HCK HG2 ⊢
  obtain ⟨nm, fm, lv, cp, sc, qk, en⟩ := a
  obtain ⟨ra, rn, rc⟩ := r
  clear HT5 hc HOK
  unfold TablePost at HTB
  unfold QPost at HQK
  dsimp only at ht hq he
  simp only [if_neg ht] at HTB
  simp only [hq] at HQK
  clear ht hq
  generalize lookT (tabsI 5) fm = tab at HTB
  simp only [slV] at hw1 HCK HG2 d0 d1 d2 d3 d4 d5 d6 ⊢
  try dsimp only at hw1 HCK HG2 d0 d1 d2 d3 d4 d5 d6 HE1 HE5 HE6 HTB HQK ⊢
  generalize str nm = S1 at d0 hw1 HCK HG2 ⊢
  generalize str fm = S2 at d1 hw1 HCK HG2 HE1 HTB ⊢
  generalize str qk = S3 at d5 hw1 HCK HG2 HE5 HQK ⊢
  have HW1 := Lib.hid hw1
  clear hw1
  go_enter Tryd.func19, Tryd.ntmps19
  go_upto_region 1 with (fail)
  rw [HW1.out]
  go_wp2_with fail
  refine HCK.out.mono ?_
  rintro e w3 ⟨rfl, hb⟩
  have B3 := Lib.hid (bt HG2.out hb)
  have f1 := HE1.out w3 B3.out
  clear hb HCK d0 d1 d2 d3 d4 d5 d6
  go_wp2_with fail
  refine (HTB.out w3 B3.out).mono ?_
  rintro e w4 ⟨A4, c4, rfl, hc4, hb4⟩
  have B4 := Lib.hid (bt B3.out hb4)
  have HC4 := Lib.hid hc4
  have f5 := HE5.out w4 B4.out
  clear hb4 hc4 f1 B3
  go_wp2_with fail
  refine (HQK.out w4).mono ?_
  rintro e w5 ⟨rfl, hb5⟩
  have B5 := Lib.hid (bt B4.out hb5)
  have f6 := HE6.out w5 B5.out
  have HC5 := Lib.hid (HC4.out.below hb5)
  clear hb5 f5 B4 HC4
  have z1 : ¬ ((tab.length : Nat) : Int) ≤ en := by omega
  go_wp2_with fail
  go_ret2
  exact ⟨rfl, bt HB1.out (B5.out)⟩
set_option maxRecDepth 100000 in
set_option maxHeartbeats 8000000 in
theorem set_in (a : Cd) (r : Sl) (w : World) (hc : CardOk a) (ht : lookT (tabsI 5) a.fam ≠ []) (f : Nat) (hq : qOf a.quirk = some f) (he : 0 ≤ a.entry) (he2 : a.entry < ((lookT (tabsI 5) a.fam).length : Int)) (hm : MildC 1099511627776 a) (hr : r.2.1 = a.compat.length) (hcap : r.2.1 ≤ r.2.2) (hs : CellsIn w 1 r.1 r.2.1 (strs a.compat)) (ht5 : T5 w) :
    Calls Tryd.prog 19 #[cardV a r] w fun e w' => e = .returned (.tuple #[.int .i64 (qnV f ((lookT (tabsI 5) a.fam).getD a.entry.toNat 0)), .int .i64 0]) ∧ Below w.heap.size w w' := by
  have hen : -1 ≤ a.entry := hc.2.2.2.2.2.2.1
  have hen2 : a.entry ≤ 47 := hc.2.2.2.2.2.2.2
  have HOK := Lib.hid hc
  obtain ⟨w1, hw1, hlt1, hb1, hbx⟩ := box_ex w a r
  have HB1 := Lib.hid hb1
  have HBX := Lib.hid hbx
  have hs1 := hs.below hb1
  have HR := Lib.hid (one_rows w1 a r hr hs1)
  have HG2 := Lib.hid (grows' w1 (.cells (cells7 a r) 30))
  have m2 : a.fam.length ≤ maxLen := Nat.le_trans hm.2.1 (by unfold maxLen; decide)
  have m3 : a.quirk.length ≤ maxLen := Nat.le_trans hm.2.2.1 (by unfold maxLen; decide)
  have HT5 := Lib.hid (ht5.below hb1)
  have HTB := Lib.hid (fun W (hW : Below w1.heap.size w1 W) => rTable_any a.fam W (HT5.out.below hW) m2)
  have HQK := Lib.hid (fun W => quirk_any a.quirk W m3)
  have HCK := Lib.hid (check_any (some ⟨w1.heap.size, 0, none⟩) 1 1 [a] [r] 0 0 _ (chk_ok hc) (mild_one (by decide) hm) (fun k => by cases k with | zero => exact hcap | succ k => simp [sl0]) HR.out)
  clear m2 m3 ht5
  clear hm hr hs hs1 hb1 hbx HR hcap
  have d := HBX.out w1 (Below.refl _ _)
  have d0 : w1.cell? ⟨w.heap.size, 0, none⟩ = some (.string (str a.name)) := d 0 _ rfl
  have d1 : w1.cell? ⟨w.heap.size, 1, none⟩ = some (.string (str a.fam)) := d 1 _ rfl
  have d2 : w1.cell? ⟨w.heap.size, 2, none⟩ = some (.int .u8 a.level) := d 2 _ rfl
  have d3 : w1.cell? ⟨w.heap.size, 3, none⟩ = some (.slice r.1 r.2.1 r.2.2) := d 3 _ rfl
  have d4 : w1.cell? ⟨w.heap.size, 4, none⟩ = some (.int .i8 a.score) := d 4 _ rfl
  have d5 : w1.cell? ⟨w.heap.size, 5, none⟩ = some (.string (str a.quirk)) := d 5 _ rfl
  have d6 : w1.cell? ⟨w.heap.size, 6, none⟩ = some (.int .i16 a.entry) := d 6 _ rfl
  have HE1 := Lib.hid (fun W (hW : Below w1.heap.size w1 W) => show W.cell? ⟨w.heap.size, 1, none⟩ = some (.string (str a.fam)) from HBX.out W hW 1 _ rfl)
  have HE5 := Lib.hid (fun W (hW : Below w1.heap.size w1 W) => show W.cell? ⟨w.heap.size, 5, none⟩ = some (.string (str a.quirk)) from HBX.out W hW 5 _ rfl)
  have HE6 := Lib.hid (fun W (hW : Below w1.heap.size w1 W) => show W.cell? ⟨w.heap.size, 6, none⟩ = some (.int .i16 a.entry) from HBX.out W hW 6 _ rfl)
  clear d HBX
  unfold cardV
  unfold cells7 at hw1 HCK HG2 ⊢
  obtain ⟨nm, fm, lv, cp, sc, qk, en⟩ := a
  obtain ⟨ra, rn, rc⟩ := r
  clear HT5 hc HOK
  unfold TablePost at HTB
  unfold QPost at HQK
  dsimp only at ht hq he
  simp only [if_neg ht] at HTB
  simp only [hq] at HQK
  have HF := Lib.hid (qOf_found hq)
  have heg := (qOf_found hq).2.2.2
  unfold fnV at HQK
  clear ht hq
  generalize lookT (tabsI 5) fm = tab at HTB he2 ⊢
  simp only [slV] at hw1 HCK HG2 d0 d1 d2 d3 d4 d5 d6 ⊢
  try dsimp only at hw1 HCK HG2 d0 d1 d2 d3 d4 d5 d6 HE1 HE5 HE6 HTB HQK he2 he ⊢
  generalize str nm = S1 at d0 hw1 HCK HG2 ⊢
  generalize str fm = S2 at d1 hw1 HCK HG2 HE1 HTB ⊢
  generalize str qk = S3 at d5 hw1 HCK HG2 HE5 HQK ⊢
  have HW1 := Lib.hid hw1
  clear hw1
  go_enter Tryd.func19, Tryd.ntmps19
  go_upto_region 1 with (fail)
  rw [HW1.out]
  go_wp2_with fail
  refine HCK.out.mono ?_
  rintro e w3 ⟨rfl, hb⟩
  have B3 := Lib.hid (bt HG2.out hb)
  have f1 := HE1.out w3 B3.out
  clear hb HCK d0 d1 d2 d3 d4 d5 d6
  go_wp2_with fail
  refine (HTB.out w3 B3.out).mono ?_
  rintro e w4 ⟨A4, c4, rfl, hc4, hb4⟩
  have B4 := Lib.hid (bt B3.out hb4)
  have HC4 := Lib.hid hc4
  have f5 := HE5.out w4 B4.out
  clear hb4 hc4 f1 B3
  go_wp2_with fail
  refine (HQK.out w4).mono ?_
  rintro e w5 ⟨rfl, hb5⟩
  have B5 := Lib.hid (bt B4.out hb5)
  have f6 := HE6.out w5 B5.out
  have HC5 := Lib.hid (HC4.out.below hb5)
  clear hb5 f5 B4 HC4
  obtain ⟨bt_, ot_, rfl, _, hct⟩ := HC5.out.at (by omega)
  have z1 : ¬ ((tab.length : Nat) : Int) ≤ en := by omega
  have z2 : ¬ en < 0 := by omega
  have ec := hct en.toNat _ (i64s_at tab en.toNat (by omega))
  clear hct HC5
  generalize hxx : tab.getD en.toNat 0 = x at ec
  have HXX := Lib.hid hxx
  clear hxx
  go_wp2_with fail
  refine (HF.out.2.2.1 x w5).mono ?_
  rintro e w6 ⟨rfl, rfl⟩
  go_wp2_with fail
  go_ret2
  exact ⟨by rw [HXX.out]; rfl, bt HB1.out B5.out⟩
end Go.Proofs.YtnnaoneegeenkaaDoor.Mq
