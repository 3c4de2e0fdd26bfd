/- Which card fits, as the document has it: names, Fits, Fit. -/
import Derived.Test.YtnnaoneegeenkaaMtC
import Derived.Test.YtnnaoneegeenkaaKcW
namespace Go.Proofs.Ytnnaoneegeenkaa.Mv
open Go.ChangeShapes Go.WideShapes Go.ChangeAt Go.RowKit Own Ro Kc wordsNames Go.Maps Go.WideMaps
open Mt

set_option maxRecDepth 100000 in
set_option maxHeartbeats 8000000 in
theorem names_any (a : Cd) (r : Sl) (x : Tx) (g : Bool) (w : World) (hg : g = true ↔ x ∈ a.compat) (hr : r.2.1 = a.compat.length) (hb : r.2.1 ≤ 1099511627776) (hs : CellsIn w 1 r.1 r.2.1 (strs a.compat)) :
    Calls Try.prog 20 #[cardV a r, .string (str x)] w fun e w' => e = .returned (.bool g) ∧ Below w.heap.size w w' := by
  have G1 := Lib.hid (grows' w (.cells (cells7 a r) 37))
  have HS := Lib.hid (hs.below G1.out)
  have HR := Lib.hid hr
  have HG := Lib.hid hg
  have c3 := box7s w a r 37 3 (.slice r.1 r.2.1 r.2.2) rfl
  have HEQ := Lib.hid (fun j => eq_lists (a.compat.getD j []) x)
  clear hs hr hg
  unfold cardV
  unfold cells7 at c3 G1 HS ⊢
  obtain ⟨ra, rn, rc⟩ := r
  simp only [slV] at c3 G1 HS ⊢
  dsimp only at HR HS hb
  generalize str x = X at *
  go_enter Try.func20, Try.ntmps20
  go_upto_region 1 with (fail)
  generalize w.alloc (.cells #[.string (str a.name), .string (str a.fam), .int .u8 a.level, .slice ra rn rc, .int .i8 a.score, .string (str a.quirk), .int .i16 a.entry] 37) = w1 at *
  have B1 := Lib.hid G1.out
  clear G1
  generalize hbx : w.heap.size = bx at *
  go_wp2_with fail
  go_loopw [5] (fun v5 wr => ∃ k : Nat, k ≤ rn ∧ v5 = .int .i64 (k : Nat) ∧ Hid (∀ i, i < k → a.compat.getD i [] ≠ x) ∧ wr = w1) (fun v5 _ => rn - (RowKit.intOf v5).toNat)
  case atStart => exact ⟨0, by omega, rfl, Lib.hid (fun i hi => absurd hi (Nat.not_lt_zero i)), rfl⟩
  case round =>
    obtain ⟨k, hk, rfl, HP, rfl⟩ := hrel
    by_cases hlt : k < rn
    · have k1 : (0 : Int) ≤ (k : Int) := by omega
      have k2 : (k : Int) < (rn : Int) := by omega
      obtain ⟨tb, to_, rfl, htb, htc⟩ := HS.out.at (by omega)
      have et := htc k _ (strs_at a.compat k (by rw [← HR.out]; exact hlt))
      have q := HEQ.out k
      clear htc htb
      by_cases he : a.compat.getD k [] = x
      · rw [decide_eq_true he] at q
        have HF := Lib.hid (HG.out.2 (he ▸ (by
          rw [List.getD_eq_getElem?_getD, List.getElem?_eq_getElem (by rw [← HR.out]; exact hlt)]
          exact List.getElem_mem _)))
        clear he
        generalize str (a.compat.getD k []) = S at et q
        go_wp2_with fail
        go_ret
        exact ⟨by rw [HF.out]; rfl, hbx ▸ B1.out⟩
      · rw [decide_eq_false he] at q
        have HE := Lib.hid he
        clear he
        generalize str (a.compat.getD k []) = S at et q
        go_wp2_with fail
        go_roundw
        case rel => exact ⟨k + 1, by omega, by go_num, Lib.hid (fun i hi => by
          by_cases hik : i = k
          · rw [hik]; exact HE.out
          · exact HP.out i (by omega)), trivial⟩
        case measure => simp [RowKit.intOf]; omega
    · have HK := Lib.hid (show k = rn by omega)
      have zk : ¬ (k : Int) < (rn : Int) := by omega
      have HF : Hid (g = false) := Lib.hid (Bool.eq_false_iff.2 fun h => by
        obtain ⟨i, hi, he⟩ := List.mem_iff_getElem.1 (HG.out.1 h)
        refine HP.out i (by rw [HK.out, HR.out]; exact hi) ?_
        rw [List.getD_eq_getElem?_getD, List.getElem?_eq_getElem hi]
        exact he)
      go_wp2_with fail
      go_ret
      exact ⟨by rw [HF.out]; rfl, hbx ▸ B1.out⟩
theorem cards_any (A : Option Addr) (c n : Nat) (L : List Cd) (R : List Sl) (g : Bool) (w : World) (hg : g = true ↔ AllOk L) (hm : MildL 1099511627776 L) (hnc : n ≤ c) (hs : Ro.RowsIn KC w A n L R) :
    Calls Try.prog 12 #[.slice A n c] w (fun e w' => e = .returned (.bool g) ∧ Below w.heap.size w w') := by
  obtain ⟨at0, er, hC⟩ := chkC_ex L
  have HC := Lib.hid (refCheck_any A c n L R at0 er w hC hm hnc hs)
  have HG : Hid ((er = 0 ∧ g = true) ∨ (er = 70 ∧ g = false)) := Lib.hid (by
    rcases hC with ⟨h1, h2, _, rfl⟩ | ⟨h1, _, rfl⟩
    · exact .inr ⟨rfl, Bool.eq_false_iff.2 fun h => h2 (hg.1 h at0 h1)⟩
    · exact .inl ⟨rfl, hg.2 h1⟩)
  clear hC hg hm hnc hs
  go_enter Try.func12, Try.ntmps12
  rcases HG.out with ⟨rfl, rfl⟩ | ⟨rfl, rfl⟩
  · go_wp2_with fail
    refine HC.out.mono ?_
    rintro e w2 ⟨rfl, hb⟩
    have HB := Lib.hid hb
    clear hb HC
    go_wp2_with fail
    go_ret
    exact ⟨rfl, HB.out⟩
  · go_wp2_with fail
    refine HC.out.mono ?_
    rintro e w2 ⟨rfl, hb⟩
    have HB := Lib.hid hb
    clear hb HC
    go_wp2_with fail
    go_ret
    exact ⟨rfl, HB.out⟩
end Go.Proofs.Ytnnaoneegeenkaa.Mv
