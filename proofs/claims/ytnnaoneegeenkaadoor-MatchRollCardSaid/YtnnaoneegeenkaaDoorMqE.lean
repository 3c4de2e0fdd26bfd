/- The number that a card stands for, as the document has it. -/
import Derived.Test.YtnnaoneegeenkaaDoorMqD
namespace Go.Proofs.YtnnaoneegeenkaaDoor.Mq
open Go.ChangeShapes Go.WideShapes Go.ChangeAt Go.RowKit Own Ro Kc Go.Maps Go.WideMaps
open Rm (fnV T5)
open Ka (i64s i64s_len i64s_at)
set_option maxRecDepth 100000 in
set_option maxHeartbeats 8000000 in
theorem rset_bad (a : Cd) (r : Sl) (T : Option Addr) (n c : Nat) (tab : List Int) (w : World) (hn : n = tab.length) (hT : CellsIn w 1 T n (i64s tab)) (hc : ¬ CardOk a) (hm : MildC 1099511627776 a) (hr : r.2.1 = a.compat.length) (hs : CellsIn w 1 r.1 r.2.1 (strs a.compat)) (_hnm : n ≤ 1099511627776) :
    Calls Tryd.prog 18 #[cardV a r, .slice T n c] w fun e w' => e = .returned (.tuple #[.int .i64 0, .int .i64 70]) ∧ Below w.heap.size w w' := by
  obtain ⟨w1, hw1, hlt1, hb1, hbx⟩ := box_ex w a r
  have HB1 := Lib.hid hb1
  have HBX := Lib.hid hbx
  have hs1 := hs.below hb1
  have HR := Lib.hid (one_rows w1 a r hr hs1)
  have HG2 := Lib.hid (grows' w1 (.cells (cells7 a r) 30))
  have HTB := Lib.hid (fun W (hW : Below w1.heap.size w1 W) => (hT.below hb1).below hW)
  have HTU := Lib.hid (fun n W => turned_any a.quirk n W)
  have HCK := Lib.hid (cards_one a r false w1.heap.size _ (by simp [hc]) hm HR.out)
  clear hm hr hs hs1 hb1 hbx HR hT
  have d := HBX.out w1 (Below.refl _ _)
  have d0 : w1.cell? ⟨w.heap.size, 0, none⟩ = some (.string (str a.name)) := d 0 _ rfl
  have d1 : w1.cell? ⟨w.heap.size, 1, none⟩ = some (.string (str a.fam)) := d 1 _ rfl
  have d2 : w1.cell? ⟨w.heap.size, 2, none⟩ = some (.int .u8 a.level) := d 2 _ rfl
  have d3 : w1.cell? ⟨w.heap.size, 3, none⟩ = some (.slice r.1 r.2.1 r.2.2) := d 3 _ rfl
  have d4 : w1.cell? ⟨w.heap.size, 4, none⟩ = some (.int .i8 a.score) := d 4 _ rfl
  have d5 : w1.cell? ⟨w.heap.size, 5, none⟩ = some (.string (str a.quirk)) := d 5 _ rfl
  have d6 : w1.cell? ⟨w.heap.size, 6, none⟩ = some (.int .i16 a.entry) := d 6 _ rfl
  have HE5 := Lib.hid (fun W (hW : Below w1.heap.size w1 W) => show W.cell? ⟨w.heap.size, 5, none⟩ = some (.string (str a.quirk)) from HBX.out W hW 5 _ rfl)
  have HE6 := Lib.hid (fun W (hW : Below w1.heap.size w1 W) => show W.cell? ⟨w.heap.size, 6, none⟩ = some (.int .i16 a.entry) from HBX.out W hW 6 _ rfl)
  clear d HBX
  unfold cardV
  unfold cells7 at hw1 HCK HG2 ⊢
  obtain ⟨nm, fm, lv, cp, sc, qk, en⟩ := a
  obtain ⟨ra, rn, rc⟩ := r
  have HN := Lib.hid hn
  clear hn
  clear hc HTB HTU
  simp only [slV] at hw1 HCK HG2 d0 d1 d2 d3 d4 d5 d6 ⊢
  try dsimp only at hw1 HCK HG2 d0 d1 d2 d3 d4 d5 d6 HE5 HE6 ⊢
  generalize str nm = S1 at d0 hw1 HCK HG2 ⊢
  generalize str fm = S2 at d1 hw1 HCK HG2 ⊢
  generalize str qk = S3 at d5 hw1 HCK HG2 HE5 ⊢
  have HW1 := Lib.hid hw1
  clear hw1
  go_enter Tryd.func18, Tryd.ntmps18
  go_upto_region 1 with (fail)
  rw [HW1.out]
  go_wp2_with fail
  refine HCK.out.mono ?_
  rintro e w3 ⟨rfl, hb⟩
  have B3 := Lib.hid (bt HG2.out hb)
  have f5 := HE5.out w3 B3.out
  have f6 := HE6.out w3 B3.out
  clear hb HCK d0 d1 d2 d3 d4 d5 d6
  go_wp2_with fail
  go_ret2
  exact ⟨rfl, bt HB1.out B3.out⟩
set_option maxRecDepth 100000 in
set_option maxHeartbeats 8000000 in
theorem rset_over (a : Cd) (r : Sl) (T : Option Addr) (n c : Nat) (tab : List Int) (w : World) (hn : n = tab.length) (hT : CellsIn w 1 T n (i64s tab)) (hc : CardOk a) (he0 : 0 ≤ a.entry) (he : (n : Int) ≤ a.entry) (hm : MildC 1099511627776 a) (hr : r.2.1 = a.compat.length) (hs : CellsIn w 1 r.1 r.2.1 (strs a.compat)) (_hnm : n ≤ 1099511627776) :
    Calls Tryd.prog 18 #[cardV a r, .slice T n c] w fun e w' => e = .returned (.tuple #[.int .i64 0, .int .i64 6]) ∧ Below w.heap.size w w' := by
  have hen : -1 ≤ a.entry := hc.2.2.2.2.2.2.1
  have hen2 : a.entry ≤ 47 := hc.2.2.2.2.2.2.2
  obtain ⟨w1, hw1, hlt1, hb1, hbx⟩ := box_ex w a r
  have HB1 := Lib.hid hb1
  have HBX := Lib.hid hbx
  have hs1 := hs.below hb1
  have HR := Lib.hid (one_rows w1 a r hr hs1)
  have HG2 := Lib.hid (grows' w1 (.cells (cells7 a r) 30))
  have HTB := Lib.hid (fun W (hW : Below w1.heap.size w1 W) => (hT.below hb1).below hW)
  have HTU := Lib.hid (fun n W => turned_any a.quirk n W)
  have HCK := Lib.hid (cards_one a r true w1.heap.size _ (by simp [hc]) hm HR.out)
  clear hm hr hs hs1 hb1 hbx HR hT
  have d := HBX.out w1 (Below.refl _ _)
  have d0 : w1.cell? ⟨w.heap.size, 0, none⟩ = some (.string (str a.name)) := d 0 _ rfl
  have d1 : w1.cell? ⟨w.heap.size, 1, none⟩ = some (.string (str a.fam)) := d 1 _ rfl
  have d2 : w1.cell? ⟨w.heap.size, 2, none⟩ = some (.int .u8 a.level) := d 2 _ rfl
  have d3 : w1.cell? ⟨w.heap.size, 3, none⟩ = some (.slice r.1 r.2.1 r.2.2) := d 3 _ rfl
  have d4 : w1.cell? ⟨w.heap.size, 4, none⟩ = some (.int .i8 a.score) := d 4 _ rfl
  have d5 : w1.cell? ⟨w.heap.size, 5, none⟩ = some (.string (str a.quirk)) := d 5 _ rfl
  have d6 : w1.cell? ⟨w.heap.size, 6, none⟩ = some (.int .i16 a.entry) := d 6 _ rfl
  have HE5 := Lib.hid (fun W (hW : Below w1.heap.size w1 W) => show W.cell? ⟨w.heap.size, 5, none⟩ = some (.string (str a.quirk)) from HBX.out W hW 5 _ rfl)
  have HE6 := Lib.hid (fun W (hW : Below w1.heap.size w1 W) => show W.cell? ⟨w.heap.size, 6, none⟩ = some (.int .i16 a.entry) from HBX.out W hW 6 _ rfl)
  clear d HBX
  unfold cardV
  unfold cells7 at hw1 HCK HG2 ⊢
  obtain ⟨nm, fm, lv, cp, sc, qk, en⟩ := a
  obtain ⟨ra, rn, rc⟩ := r
  have HN := Lib.hid hn
  clear hn
  clear hc
  dsimp only at he0 he hen hen2
  simp only [slV] at hw1 HCK HG2 d0 d1 d2 d3 d4 d5 d6 ⊢
  try dsimp only at hw1 HCK HG2 d0 d1 d2 d3 d4 d5 d6 HE5 HE6 HTU ⊢
  generalize str nm = S1 at d0 hw1 HCK HG2 ⊢
  generalize str fm = S2 at d1 hw1 HCK HG2 ⊢
  generalize str qk = S3 at d5 hw1 HCK HG2 HE5 HTU ⊢
  have HW1 := Lib.hid hw1
  clear hw1
  go_enter Tryd.func18, Tryd.ntmps18
  go_upto_region 1 with (fail)
  rw [HW1.out]
  go_wp2_with fail
  refine HCK.out.mono ?_
  rintro e w3 ⟨rfl, hb⟩
  have B3 := Lib.hid (bt HG2.out hb)
  have f5 := HE5.out w3 B3.out
  have f6 := HE6.out w3 B3.out
  clear hb HCK d0 d1 d2 d3 d4 d5 d6
  go_wp2_with fail
  go_ret2
  exact ⟨rfl, bt HB1.out B3.out⟩
set_option maxRecDepth 100000 in
set_option maxHeartbeats 8000000 in
theorem rset_none (a : Cd) (r : Sl) (T : Option Addr) (n c : Nat) (tab : List Int) (w : World) (hn : n = tab.length) (hT : CellsIn w 1 T n (i64s tab)) (hc : CardOk a) (he0 : a.entry < 0) (he : n = 0) (hm : MildC 1099511627776 a) (hr : r.2.1 = a.compat.length) (hs : CellsIn w 1 r.1 r.2.1 (strs a.compat)) (hnm : n ≤ 1099511627776) :
    Calls Tryd.prog 18 #[cardV a r, .slice T n c] w fun e w' => e = .returned (.tuple #[.int .i64 0, .int .i64 6]) ∧ Below w.heap.size w w' := by
  have hen : -1 ≤ a.entry := hc.2.2.2.2.2.2.1
  have hen2 : a.entry ≤ 47 := hc.2.2.2.2.2.2.2
  obtain ⟨w1, hw1, hlt1, hb1, hbx⟩ := box_ex w a r
  have HB1 := Lib.hid hb1
  have HBX := Lib.hid hbx
  have hs1 := hs.below hb1
  have HR := Lib.hid (one_rows w1 a r hr hs1)
  have HG2 := Lib.hid (grows' w1 (.cells (cells7 a r) 30))
  have HTB := Lib.hid (fun W (hW : Below w1.heap.size w1 W) => (hT.below hb1).below hW)
  have HTU := Lib.hid (fun n W => turned_any a.quirk n W)
  have HCK := Lib.hid (cards_one a r true w1.heap.size _ (by simp [hc]) hm HR.out)
  clear hm hr hs hs1 hb1 hbx HR hT
  have d := HBX.out w1 (Below.refl _ _)
  have d0 : w1.cell? ⟨w.heap.size, 0, none⟩ = some (.string (str a.name)) := d 0 _ rfl
  have d1 : w1.cell? ⟨w.heap.size, 1, none⟩ = some (.string (str a.fam)) := d 1 _ rfl
  have d2 : w1.cell? ⟨w.heap.size, 2, none⟩ = some (.int .u8 a.level) := d 2 _ rfl
  have d3 : w1.cell? ⟨w.heap.size, 3, none⟩ = some (.slice r.1 r.2.1 r.2.2) := d 3 _ rfl
  have d4 : w1.cell? ⟨w.heap.size, 4, none⟩ = some (.int .i8 a.score) := d 4 _ rfl
  have d5 : w1.cell? ⟨w.heap.size, 5, none⟩ = some (.string (str a.quirk)) := d 5 _ rfl
  have d6 : w1.cell? ⟨w.heap.size, 6, none⟩ = some (.int .i16 a.entry) := d 6 _ rfl
  have HE5 := Lib.hid (fun W (hW : Below w1.heap.size w1 W) => show W.cell? ⟨w.heap.size, 5, none⟩ = some (.string (str a.quirk)) from HBX.out W hW 5 _ rfl)
  have HE6 := Lib.hid (fun W (hW : Below w1.heap.size w1 W) => show W.cell? ⟨w.heap.size, 6, none⟩ = some (.int .i16 a.entry) from HBX.out W hW 6 _ rfl)
  clear d HBX
  unfold cardV
  unfold cells7 at hw1 HCK HG2 ⊢
  obtain ⟨nm, fm, lv, cp, sc, qk, en⟩ := a
  obtain ⟨ra, rn, rc⟩ := r
  have HN := Lib.hid hn
  clear hn
  clear hc
  subst he
  dsimp only at he0 hen hen2
  simp only [slV] at hw1 HCK HG2 d0 d1 d2 d3 d4 d5 d6 ⊢
  try dsimp only at hw1 HCK HG2 d0 d1 d2 d3 d4 d5 d6 HE5 HE6 HTU ⊢
  generalize str nm = S1 at d0 hw1 HCK HG2 ⊢
  generalize str fm = S2 at d1 hw1 HCK HG2 ⊢
  generalize str qk = S3 at d5 hw1 HCK HG2 HE5 HTU ⊢
  have HW1 := Lib.hid hw1
  clear hw1
  go_enter Tryd.func18, Tryd.ntmps18
  go_upto_region 1 with (fail)
  rw [HW1.out]
  go_wp2_with fail
  refine HCK.out.mono ?_
  rintro e w3 ⟨rfl, hb⟩
  have B3 := Lib.hid (bt HG2.out hb)
  have f5 := HE5.out w3 B3.out
  have f6 := HE6.out w3 B3.out
  clear hb HCK d0 d1 d2 d3 d4 d5 d6
  have z0 : ¬ 0 ≤ en := by omega
  go_wp2_with fail
  go_ret2
  exact ⟨rfl, bt HB1.out B3.out⟩
set_option maxRecDepth 100000 in
set_option maxHeartbeats 8000000 in
theorem rset_noqn (a : Cd) (r : Sl) (T : Option Addr) (n c : Nat) (tab : List Int) (w : World) (hn : n = tab.length) (hT : CellsIn w 1 T n (i64s tab)) (hc : CardOk a) (he0 : a.entry < 0) (he : 0 < n) (hq : qOf a.quirk = none) (hm : MildC 1099511627776 a) (hr : r.2.1 = a.compat.length) (hs : CellsIn w 1 r.1 r.2.1 (strs a.compat)) (hnm : n ≤ 1099511627776) :
    Calls Tryd.prog 18 #[cardV a r, .slice T n c] w fun e w' => e = .returned (.tuple #[.int .i64 0, .int .i64 6]) ∧ Below w.heap.size w w' := by
  have hen : -1 ≤ a.entry := hc.2.2.2.2.2.2.1
  have hen2 : a.entry ≤ 47 := hc.2.2.2.2.2.2.2
  obtain ⟨w1, hw1, hlt1, hb1, hbx⟩ := box_ex w a r
  have HB1 := Lib.hid hb1
  have HBX := Lib.hid hbx
  have hs1 := hs.below hb1
  have HR := Lib.hid (one_rows w1 a r hr hs1)
  have HG2 := Lib.hid (grows' w1 (.cells (cells7 a r) 30))
  have HTB := Lib.hid (fun W (hW : Below w1.heap.size w1 W) => (hT.below hb1).below hW)
  have HTU := Lib.hid (fun n W => turned_any a.quirk n W)
  have HCK := Lib.hid (cards_one a r true w1.heap.size _ (by simp [hc]) hm HR.out)
  clear hm hr hs hs1 hb1 hbx HR hT
  have d := HBX.out w1 (Below.refl _ _)
  have d0 : w1.cell? ⟨w.heap.size, 0, none⟩ = some (.string (str a.name)) := d 0 _ rfl
  have d1 : w1.cell? ⟨w.heap.size, 1, none⟩ = some (.string (str a.fam)) := d 1 _ rfl
  have d2 : w1.cell? ⟨w.heap.size, 2, none⟩ = some (.int .u8 a.level) := d 2 _ rfl
  have d3 : w1.cell? ⟨w.heap.size, 3, none⟩ = some (.slice r.1 r.2.1 r.2.2) := d 3 _ rfl
  have d4 : w1.cell? ⟨w.heap.size, 4, none⟩ = some (.int .i8 a.score) := d 4 _ rfl
  have d5 : w1.cell? ⟨w.heap.size, 5, none⟩ = some (.string (str a.quirk)) := d 5 _ rfl
  have d6 : w1.cell? ⟨w.heap.size, 6, none⟩ = some (.int .i16 a.entry) := d 6 _ rfl
  have HE5 := Lib.hid (fun W (hW : Below w1.heap.size w1 W) => show W.cell? ⟨w.heap.size, 5, none⟩ = some (.string (str a.quirk)) from HBX.out W hW 5 _ rfl)
  have HE6 := Lib.hid (fun W (hW : Below w1.heap.size w1 W) => show W.cell? ⟨w.heap.size, 6, none⟩ = some (.int .i16 a.entry) from HBX.out W hW 6 _ rfl)
  clear d HBX
  unfold cardV
  unfold cells7 at hw1 HCK HG2 ⊢
  obtain ⟨nm, fm, lv, cp, sc, qk, en⟩ := a
  obtain ⟨ra, rn, rc⟩ := r
  have HN := Lib.hid hn
  clear hn
  clear hc
  dsimp only at he0 hen hen2 hq
  unfold TPost tV tB at HTU
  simp only [hq] at HTU
  clear hq
  simp only [slV] at hw1 HCK HG2 d0 d1 d2 d3 d4 d5 d6 ⊢
  try dsimp only at hw1 HCK HG2 d0 d1 d2 d3 d4 d5 d6 HE5 HE6 HTU ⊢
  generalize str nm = S1 at d0 hw1 HCK HG2 ⊢
  generalize str fm = S2 at d1 hw1 HCK HG2 ⊢
  generalize str qk = S3 at d5 hw1 HCK HG2 HE5 HTU ⊢
  have HW1 := Lib.hid hw1
  clear hw1
  go_enter Tryd.func18, Tryd.ntmps18
  go_upto_region 1 with (fail)
  rw [HW1.out]
  go_wp2_with fail
  refine HCK.out.mono ?_
  rintro e w3 ⟨rfl, hb⟩
  have B3 := Lib.hid (bt HG2.out hb)
  have f5 := HE5.out w3 B3.out
  have f6 := HE6.out w3 B3.out
  clear hb HCK d0 d1 d2 d3 d4 d5 d6
  have z0 : ¬ 0 ≤ en := by omega
  have z1 : ¬ n = 0 := by omega
  go_wp2_with fail
  refine (HTU.out _ w3).mono ?_
  rintro e w5 ⟨rfl, rfl⟩
  go_wp2_with fail
  go_ret2
  exact ⟨rfl, bt HB1.out B3.out⟩
set_option maxRecDepth 100000 in
set_option maxHeartbeats 8000000 in
theorem rset_neg (a : Cd) (r : Sl) (T : Option Addr) (n c : Nat) (tab : List Int) (w : World) (hn : n = tab.length) (hT : CellsIn w 1 T n (i64s tab)) (hc : CardOk a) (he0 : a.entry < 0) (he : 0 < n) (f : Nat) (hq : qOf a.quirk = some f) (hm : MildC 1099511627776 a) (hr : r.2.1 = a.compat.length) (hs : CellsIn w 1 r.1 r.2.1 (strs a.compat)) (hnm : n ≤ 1099511627776) :
    Calls Tryd.prog 18 #[cardV a r, .slice T n c] w fun e w' => e = .returned (.tuple #[.int .i64 0, .int .i64 0]) ∧ Below w.heap.size w w' := by
  have hen : -1 ≤ a.entry := hc.2.2.2.2.2.2.1
  have hen2 : a.entry ≤ 47 := hc.2.2.2.2.2.2.2
  obtain ⟨w1, hw1, hlt1, hb1, hbx⟩ := box_ex w a r
  have HB1 := Lib.hid hb1
  have HBX := Lib.hid hbx
  have hs1 := hs.below hb1
  have HR := Lib.hid (one_rows w1 a r hr hs1)
  have HG2 := Lib.hid (grows' w1 (.cells (cells7 a r) 30))
  have HTB := Lib.hid (fun W (hW : Below w1.heap.size w1 W) => (hT.below hb1).below hW)
  have HTU := Lib.hid (fun n W => turned_any a.quirk n W)
  have HCK := Lib.hid (cards_one a r true w1.heap.size _ (by simp [hc]) hm HR.out)
  clear hm hr hs hs1 hb1 hbx HR hT
  have d := HBX.out w1 (Below.refl _ _)
  have d0 : w1.cell? ⟨w.heap.size, 0, none⟩ = some (.string (str a.name)) := d 0 _ rfl
  have d1 : w1.cell? ⟨w.heap.size, 1, none⟩ = some (.string (str a.fam)) := d 1 _ rfl
  have d2 : w1.cell? ⟨w.heap.size, 2, none⟩ = some (.int .u8 a.level) := d 2 _ rfl
  have d3 : w1.cell? ⟨w.heap.size, 3, none⟩ = some (.slice r.1 r.2.1 r.2.2) := d 3 _ rfl
  have d4 : w1.cell? ⟨w.heap.size, 4, none⟩ = some (.int .i8 a.score) := d 4 _ rfl
  have d5 : w1.cell? ⟨w.heap.size, 5, none⟩ = some (.string (str a.quirk)) := d 5 _ rfl
  have d6 : w1.cell? ⟨w.heap.size, 6, none⟩ = some (.int .i16 a.entry) := d 6 _ rfl
  have HE5 := Lib.hid (fun W (hW : Below w1.heap.size w1 W) => show W.cell? ⟨w.heap.size, 5, none⟩ = some (.string (str a.quirk)) from HBX.out W hW 5 _ rfl)
  have HE6 := Lib.hid (fun W (hW : Below w1.heap.size w1 W) => show W.cell? ⟨w.heap.size, 6, none⟩ = some (.int .i16 a.entry) from HBX.out W hW 6 _ rfl)
  clear d HBX
  unfold cardV
  unfold cells7 at hw1 HCK HG2 ⊢
  obtain ⟨nm, fm, lv, cp, sc, qk, en⟩ := a
  obtain ⟨ra, rn, rc⟩ := r
  have HN := Lib.hid hn
  clear hn
  clear hc
  dsimp only at he0 hen hen2 hq
  unfold TPost tV tB at HTU
  simp only [hq, Option.isSome] at HTU
  clear hq
  simp only [slV] at hw1 HCK HG2 d0 d1 d2 d3 d4 d5 d6 ⊢
  try dsimp only at hw1 HCK HG2 d0 d1 d2 d3 d4 d5 d6 HE5 HE6 HTU ⊢
  generalize str nm = S1 at d0 hw1 HCK HG2 ⊢
  generalize str fm = S2 at d1 hw1 HCK HG2 ⊢
  generalize str qk = S3 at d5 hw1 HCK HG2 HE5 HTU ⊢
  have HW1 := Lib.hid hw1
  clear hw1
  go_enter Tryd.func18, Tryd.ntmps18
  go_upto_region 1 with (fail)
  rw [HW1.out]
  go_wp2_with fail
  refine HCK.out.mono ?_
  rintro e w3 ⟨rfl, hb⟩
  have B3 := Lib.hid (bt HG2.out hb)
  have f5 := HE5.out w3 B3.out
  have f6 := HE6.out w3 B3.out
  clear hb HCK d0 d1 d2 d3 d4 d5 d6
  have z0 : ¬ 0 ≤ en := by omega
  have z1 : ¬ n = 0 := by omega
  go_wp2_with fail
  refine (HTU.out _ w3).mono ?_
  rintro e w5 ⟨rfl, rfl⟩
  go_wp2_with fail
  go_ret2
  exact ⟨rfl, bt HB1.out B3.out⟩
set_option maxRecDepth 100000 in
set_option maxHeartbeats 8000000 in
theorem rset_noqi (a : Cd) (r : Sl) (T : Option Addr) (n c : Nat) (tab : List Int) (w : World) (hn : n = tab.length) (hT : CellsIn w 1 T n (i64s tab)) (hc : CardOk a) (he0 : 0 ≤ a.entry) (he : a.entry < (n : Int)) (hq : qOf a.quirk = none) (hm : MildC 1099511627776 a) (hr : r.2.1 = a.compat.length) (hs : CellsIn w 1 r.1 r.2.1 (strs a.compat)) (hnm : n ≤ 1099511627776) :
    Calls Tryd.prog 18 #[cardV a r, .slice T n c] w fun e w' => e = .returned (.tuple #[.int .i64 0, .int .i64 6]) ∧ Below w.heap.size w w' := by
  have hen : -1 ≤ a.entry := hc.2.2.2.2.2.2.1
  have hen2 : a.entry ≤ 47 := hc.2.2.2.2.2.2.2
  obtain ⟨w1, hw1, hlt1, hb1, hbx⟩ := box_ex w a r
  have HB1 := Lib.hid hb1
  have HBX := Lib.hid hbx
  have hs1 := hs.below hb1
  have HR := Lib.hid (one_rows w1 a r hr hs1)
  have HG2 := Lib.hid (grows' w1 (.cells (cells7 a r) 30))
  have HTB := Lib.hid (fun W (hW : Below w1.heap.size w1 W) => (hT.below hb1).below hW)
  have HTU := Lib.hid (fun n W => turned_any a.quirk n W)
  have HCK := Lib.hid (cards_one a r true w1.heap.size _ (by simp [hc]) hm HR.out)
  clear hm hr hs hs1 hb1 hbx HR hT
  have d := HBX.out w1 (Below.refl _ _)
  have d0 : w1.cell? ⟨w.heap.size, 0, none⟩ = some (.string (str a.name)) := d 0 _ rfl
  have d1 : w1.cell? ⟨w.heap.size, 1, none⟩ = some (.string (str a.fam)) := d 1 _ rfl
  have d2 : w1.cell? ⟨w.heap.size, 2, none⟩ = some (.int .u8 a.level) := d 2 _ rfl
  have d3 : w1.cell? ⟨w.heap.size, 3, none⟩ = some (.slice r.1 r.2.1 r.2.2) := d 3 _ rfl
  have d4 : w1.cell? ⟨w.heap.size, 4, none⟩ = some (.int .i8 a.score) := d 4 _ rfl
  have d5 : w1.cell? ⟨w.heap.size, 5, none⟩ = some (.string (str a.quirk)) := d 5 _ rfl
  have d6 : w1.cell? ⟨w.heap.size, 6, none⟩ = some (.int .i16 a.entry) := d 6 _ rfl
  have HE5 := Lib.hid (fun W (hW : Below w1.heap.size w1 W) => show W.cell? ⟨w.heap.size, 5, none⟩ = some (.string (str a.quirk)) from HBX.out W hW 5 _ rfl)
  have HE6 := Lib.hid (fun W (hW : Below w1.heap.size w1 W) => show W.cell? ⟨w.heap.size, 6, none⟩ = some (.int .i16 a.entry) from HBX.out W hW 6 _ rfl)
  clear d HBX
  unfold cardV
  unfold cells7 at hw1 HCK HG2 ⊢
  obtain ⟨nm, fm, lv, cp, sc, qk, en⟩ := a
  obtain ⟨ra, rn, rc⟩ := r
  have HN := Lib.hid hn
  clear hn
  clear hc
  dsimp only at he0 he hen hen2 hq
  unfold TPost tV tB at HTU
  simp only [hq, Option.isSome] at HTU
  clear hq
  simp only [slV] at hw1 HCK HG2 d0 d1 d2 d3 d4 d5 d6 ⊢
  try dsimp only at hw1 HCK HG2 d0 d1 d2 d3 d4 d5 d6 HE5 HE6 HTU ⊢
  generalize str nm = S1 at d0 hw1 HCK HG2 ⊢
  generalize str fm = S2 at d1 hw1 HCK HG2 ⊢
  generalize str qk = S3 at d5 hw1 HCK HG2 HE5 HTU ⊢
  have HW1 := Lib.hid hw1
  clear hw1
  go_enter Tryd.func18, Tryd.ntmps18
  go_upto_region 1 with (fail)
  rw [HW1.out]
  go_wp2_with fail
  refine HCK.out.mono ?_
  rintro e w3 ⟨rfl, hb⟩
  have B3 := Lib.hid (bt HG2.out hb)
  have f5 := HE5.out w3 B3.out
  have f6 := HE6.out w3 B3.out
  clear hb HCK d0 d1 d2 d3 d4 d5 d6
  obtain ⟨bt_, ot_, rfl, _, hct⟩ := (HTB.out w3 B3.out).at (by omega)
  have z1 : ¬ (n : Int) ≤ en := by omega
  have z2 : ¬ en < 0 := by omega
  have z3 : ¬ n = 0 := by omega
  have ec := hct en.toNat _ (i64s_at tab en.toNat (by rw [← HN.out]; omega))
  clear hct HTB
  generalize hxx : tab.getD en.toNat 0 = x at ec
  have HXX := Lib.hid hxx
  clear hxx
  go_wp2_with fail
  refine (HTU.out _ w3).mono ?_
  rintro e w5 ⟨rfl, rfl⟩
  go_wp2_with fail
  go_ret2
  exact ⟨rfl, bt HB1.out B3.out⟩
set_option maxRecDepth 100000 in
set_option maxHeartbeats 8000000 in
theorem rset_in (a : Cd) (r : Sl) (T : Option Addr) (n c : Nat) (tab : List Int) (w : World) (hn : n = tab.length) (hT : CellsIn w 1 T n (i64s tab)) (hc : CardOk a) (he0 : 0 ≤ a.entry) (he : a.entry < (n : Int)) (f : Nat) (hq : qOf a.quirk = some f) (hm : MildC 1099511627776 a) (hr : r.2.1 = a.compat.length) (hs : CellsIn w 1 r.1 r.2.1 (strs a.compat)) (hnm : n ≤ 1099511627776) :
    Calls Tryd.prog 18 #[cardV a r, .slice T n c] w fun e w' => e = .returned (.tuple #[.int .i64 (qnV f (tab.getD a.entry.toNat 0)), .int .i64 0]) ∧ Below w.heap.size w w' := by
  have hen : -1 ≤ a.entry := hc.2.2.2.2.2.2.1
  have hen2 : a.entry ≤ 47 := hc.2.2.2.2.2.2.2
  obtain ⟨w1, hw1, hlt1, hb1, hbx⟩ := box_ex w a r
  have HB1 := Lib.hid hb1
  have HBX := Lib.hid hbx
  have hs1 := hs.below hb1
  have HR := Lib.hid (one_rows w1 a r hr hs1)
  have HG2 := Lib.hid (grows' w1 (.cells (cells7 a r) 30))
  have HTB := Lib.hid (fun W (hW : Below w1.heap.size w1 W) => (hT.below hb1).below hW)
  have HTU := Lib.hid (fun n W => turned_any a.quirk n W)
  have HCK := Lib.hid (cards_one a r true w1.heap.size _ (by simp [hc]) hm HR.out)
  clear hm hr hs hs1 hb1 hbx HR hT
  have d := HBX.out w1 (Below.refl _ _)
  have d0 : w1.cell? ⟨w.heap.size, 0, none⟩ = some (.string (str a.name)) := d 0 _ rfl
  have d1 : w1.cell? ⟨w.heap.size, 1, none⟩ = some (.string (str a.fam)) := d 1 _ rfl
  have d2 : w1.cell? ⟨w.heap.size, 2, none⟩ = some (.int .u8 a.level) := d 2 _ rfl
  have d3 : w1.cell? ⟨w.heap.size, 3, none⟩ = some (.slice r.1 r.2.1 r.2.2) := d 3 _ rfl
  have d4 : w1.cell? ⟨w.heap.size, 4, none⟩ = some (.int .i8 a.score) := d 4 _ rfl
  have d5 : w1.cell? ⟨w.heap.size, 5, none⟩ = some (.string (str a.quirk)) := d 5 _ rfl
  have d6 : w1.cell? ⟨w.heap.size, 6, none⟩ = some (.int .i16 a.entry) := d 6 _ rfl
  have HE5 := Lib.hid (fun W (hW : Below w1.heap.size w1 W) => show W.cell? ⟨w.heap.size, 5, none⟩ = some (.string (str a.quirk)) from HBX.out W hW 5 _ rfl)
  have HE6 := Lib.hid (fun W (hW : Below w1.heap.size w1 W) => show W.cell? ⟨w.heap.size, 6, none⟩ = some (.int .i16 a.entry) from HBX.out W hW 6 _ rfl)
  clear d HBX
  unfold cardV
  unfold cells7 at hw1 HCK HG2 ⊢
  obtain ⟨nm, fm, lv, cp, sc, qk, en⟩ := a
  obtain ⟨ra, rn, rc⟩ := r
  have HN := Lib.hid hn
  clear hn
  clear hc
  dsimp only at he0 he hen hen2 hq
  unfold TPost tV tB at HTU
  simp only [hq, Option.isSome] at HTU
  clear hq
  simp only [slV] at hw1 HCK HG2 d0 d1 d2 d3 d4 d5 d6 ⊢
  try dsimp only at hw1 HCK HG2 d0 d1 d2 d3 d4 d5 d6 HE5 HE6 HTU ⊢
  generalize str nm = S1 at d0 hw1 HCK HG2 ⊢
  generalize str fm = S2 at d1 hw1 HCK HG2 ⊢
  generalize str qk = S3 at d5 hw1 HCK HG2 HE5 HTU ⊢
  have HW1 := Lib.hid hw1
  clear hw1
  go_enter Tryd.func18, Tryd.ntmps18
  go_upto_region 1 with (fail)
  rw [HW1.out]
  go_wp2_with fail
  refine HCK.out.mono ?_
  rintro e w3 ⟨rfl, hb⟩
  have B3 := Lib.hid (bt HG2.out hb)
  have f5 := HE5.out w3 B3.out
  have f6 := HE6.out w3 B3.out
  clear hb HCK d0 d1 d2 d3 d4 d5 d6
  obtain ⟨bt_, ot_, rfl, _, hct⟩ := (HTB.out w3 B3.out).at (by omega)
  have z1 : ¬ (n : Int) ≤ en := by omega
  have z2 : ¬ en < 0 := by omega
  have z3 : ¬ n = 0 := by omega
  have ec := hct en.toNat _ (i64s_at tab en.toNat (by rw [← HN.out]; omega))
  clear hct HTB
  generalize hxx : tab.getD en.toNat 0 = x at ec
  have HXX := Lib.hid hxx
  clear hxx
  go_wp2_with fail
  refine (HTU.out _ w3).mono ?_
  rintro e w5 ⟨rfl, rfl⟩
  go_wp2_with fail
  go_ret2
  exact ⟨by rw [HXX.out]; rfl, bt HB1.out B3.out⟩
theorem refSetting_any (a : Cd) (r : Sl) (T : Option Addr) (n c : Nat) (tab : List Int) (x er : Int) (w : World) (hx : SetRel a tab x er) (hn : n = tab.length) (hT : CellsIn w 1 T n (i64s tab)) (hm : MildC 1099511627776 a) (hr : r.2.1 = a.compat.length) (hs : CellsIn w 1 r.1 r.2.1 (strs a.compat)) (hnm : n ≤ 1099511627776) :
    Calls Tryd.prog 18 #[cardV a r, .slice T n c] w fun e w' => e = .returned (.tuple #[.int .i64 x, .int .i64 er]) ∧ Below w.heap.size w w' := by
  rcases hx with ⟨hc, rfl, rfl⟩ | ⟨hc, h, rfl, rfl⟩ | ⟨hc, ht, ⟨f, hq⟩, he, rfl, rfl⟩ | ⟨hc, ht, f, hq, he, he2, rfl, rfl⟩
  · exact rset_bad a r T n c tab w hn hT hc hm hr hs hnm
  · by_cases he0 : 0 ≤ a.entry
    · by_cases he : (n : Int) ≤ a.entry
      · exact rset_over a r T n c tab w hn hT hc he0 he hm hr hs hnm
      · have hq : qOf a.quirk = none := by
          rcases h with h | h | h
          · rw [h] at hn; simp at hn; omega
          · exact h
          · omega
        exact rset_noqi a r T n c tab w hn hT hc he0 (by omega) hq hm hr hs hnm
    · by_cases h0 : n = 0
      · exact rset_none a r T n c tab w hn hT hc (by omega) h0 hm hr hs hnm
      · have hq : qOf a.quirk = none := by
          rcases h with h | h | h
          · rw [h] at hn; simp at hn; omega
          · exact h
          · omega
        exact rset_noqn a r T n c tab w hn hT hc (by omega) (by omega) hq hm hr hs hnm
  · have h0 : 0 < tab.length := List.length_pos_iff.2 ht
    exact rset_neg a r T n c tab w hn hT hc he (by omega) f hq hm hr hs hnm
  · exact rset_in a r T n c tab w hn hT hc he (by omega) f hq hm hr hs hnm
theorem setting_any (a : Cd) (r : Sl) (x er : Int) (w : World) (hx : SetRel a (Kq.lookT (Kq.tabsI 5) a.fam) x er) (hm : MildC 1099511627776 a) (hr : r.2.1 = a.compat.length) (hcap : r.2.1 ≤ r.2.2) (hs : CellsIn w 1 r.1 r.2.1 (strs a.compat)) (ht5 : T5 w) :
    Calls Tryd.prog 19 #[cardV a r] w fun e w' => e = .returned (.tuple #[.int .i64 x, .int .i64 er]) ∧ Below w.heap.size w w' := by
  rcases hx with ⟨hc, rfl, rfl⟩ | ⟨hc, h, rfl, rfl⟩ | ⟨hc, ht, ⟨f, hq⟩, he, rfl, rfl⟩ | ⟨hc, ht, f, hq, he, he2, rfl, rfl⟩
  · exact set_bad a r w hc hm hr hcap hs ht5
  · by_cases ht : Kq.lookT (Kq.tabsI 5) a.fam = []
    · exact set_notab a r w hc ht hm hr hcap hs ht5
    cases hq : qOf a.quirk with
    | none => exact set_noq a r w hc ht hq hm hr hcap hs ht5
    | some f =>
      refine set_over a r w hc ht f hq ?_ hm hr hcap hs ht5
      rcases h with h | h | h
      · exact absurd h ht
      · rw [hq] at h; cases h
      · exact h
  · exact set_neg a r w hc ht f hq he hm hr hcap hs ht5
  · exact set_in a r w hc ht f hq he he2 hm hr hcap hs ht5
end Go.Proofs.YtnnaoneegeenkaaDoor.Mq
