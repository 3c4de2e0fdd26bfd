/- The contract of Columns at clear rows. -/
import Derived.Test.YtaoekpedjgnnjaaDoorWdP
import Derived.Deep.OwnRows
namespace Go.Proofs.YtaoekpedjgnnjaaDoor.Wd
open Go.ChangeShapes Go.WideShapes Go.ChangeAt Go.RowKit Own Bld Go.Lib Nums

/-- A row that columnsLine takes. -/
def RowOk (w : World) (m : Nat) (r : Option Addr × Nat × Nat) (x : List (List UInt8)) : Prop :=
  r.2.1 = x.length ∧ r.2.1 ≤ m ∧ Src w r.1 r.2.1 r.2.2 (strs x) ∧ ∀ k, k < r.2.1 → Clear (str (x.getD k [])) ∧ (str (x.getD k [])).size ≤ 67108864

set_option maxRecDepth 100000 in
set_option maxHeartbeats 4000000 in
theorem columns_any (A B : Option Addr) (c d n m : Nat) (R : List (Option Addr × Nat × Nat)) (X : List (List (List UInt8))) (ws : List Nat) (w : World) (hn : n = R.length) (hm : m = ws.length) (hm64 : m ≤ 64) (hnx : n ≤ 16777216)
    (hw : ∀ k, k < m → 1 ≤ ws.getD k 0 ∧ ws.getD k 0 ≤ 4096) (hr : ∀ k, k < n → RowOk w m (R.getD k (none, 0, 0)) (X.getD k []))
    (hA : Src w A n c (slcs R)) (hB : Src w B m d (ws.map fun (x : Nat) => Value.int .i64 (x : Int))) (hT : U8 w) :
    Calls Tryd.prog 7 #[.slice A n c, .slice B m d] w fun e w' => e = .returned (.tuple #[.slice (some ⟨w.heap.size, 0, none⟩) n n, .int .i64 0]) ∧ w'.rowIs w.heap.size 9 n (fun k => .string (str (lineW (X.getD k []) ws))) ∧ Below w.heap.size w w' := by
  have HW := Lib.hid hw
  have HR := Lib.hid hr
  have HN := Lib.hid hn
  have HM := Lib.hid hm
  have GA := Lib.hid hA
  have GB := Lib.hid hB
  have HT := Lib.hid hT
  have HAC := Lib.hid (areColumns_yes A B c d n m R ws w hn hm hm64 (by omega) hw (fun k hk => (hr k hk).2.1) hA hB)
  have hmk := run_make_row' (P := Tryd.prog) 25 9 (.string ByteArray.empty) 16 rfl info_str rfl .i64 .i64 n (by omega) (by omega)
  clear hA hB hw hr hn hm hT
  go_enter Tryd.func7, Tryd.ntmps7
  go_wp2_with fail
  refine HAC.out.mono ?_
  rintro e w1 ⟨rfl, hw1⟩
  replace hw1 := hw1.symm
  subst hw1
  go_wp2_with fail
  clear hmk
  go_loopw [18] (fun i wr => ∃ j : Nat, j ≤ n ∧ i = .int .i64 j ∧ wr.rowIs w.heap.size 9 n (fun k => if k < j then .string (str (lineW (X.getD k []) ws)) else .string ByteArray.empty) ∧ Below w.heap.size w wr) (fun i _ => n - (RowKit.intOf i).toNat)
  case atStart => exact ⟨0, by omega, rfl, (World.rowIs_made w _ n _).congr (fun i _ => by rw [if_neg (by omega)]), (Below.refl _ _).alloc (Nat.le_refl _) _⟩
  case round =>
    obtain ⟨j, hj, rfl, hrow, hbw⟩ := hrel
    have HO := Lib.hid hrow
    have HB := Lib.hid hbw
    have hsz := hbw.size
    clear hrow hbw
    by_cases hlt : j < n
    · obtain ⟨b, o, rfl, hbl, hc1⟩ := src_get' (GA.out.below HB.out) (by omega)
      have e1 := hc1 j _ (slcs_at R j (by rw [← HN.out]; exact hlt))
      have hrr := HR.out j hlt
      generalize R.getD j (none, 0, 0) = r at e1 hrr
      obtain ⟨ra, rn, rc⟩ := r
      obtain ⟨h1, h2, h3, h4⟩ := hrr
      have HCL := Lib.hid (columnsLine_any ra B rc d rn m (X.getD j []) ws wr h1 HM.out h2 (by have : rn ≤ m := h2; omega) h4 (fun k hk => HW.out k (by have : rn ≤ m := h2; omega)) (h3.below HB.out) (GB.out.below HB.out) (HT.out.below HB.out))
      clear hc1 h1 h2 h3 h4
      go_wp2_with fail
      refine HCL.out.mono ?_
      rintro e w2 ⟨rfl, b2⟩
      have HO2 := Lib.hid (HO.out.of_block (b2.block _ HO.out.lt))
      have HB2 := Lib.hid (HB.out.trans (b2.mono hsz))
      have e2 := HO2.out.cell hlt
      have f2 := HO2.out.frozen j
      have HO3 := Lib.hid (HO2.out.set j (.string (str (lineW (X.getD j []) ws))))
      have HB3 := Lib.hid (HB2.out.setCell (p := ⟨w.heap.size, j, none⟩) (Nat.le_refl _) (.string (str (lineW (X.getD j []) ws))))
      clear b2
      go_wp2_with fail
      go_roundw
      case rel =>
        refine ⟨j + 1, by omega, by go_num, HO3.out.congr fun k _ => ?_, HB3.out⟩
        by_cases hkj : k = j
        · subst hkj
          rw [if_pos rfl, if_pos (by omega)]
        · rw [if_neg hkj]
          by_cases hk2 : k < j
          · rw [if_pos hk2, if_pos (by omega)]
          · rw [if_neg hk2, if_neg (by omega)]
      case measure => simp [RowKit.intOf]; omega
    · obtain rfl : n = j := by omega
      go_wp2_with fail
      go_ret2
      exact ⟨rfl, HO.out.congr fun k hk => (if_pos hk), HB.out⟩
end Go.Proofs.YtaoekpedjgnnjaaDoor.Wd
