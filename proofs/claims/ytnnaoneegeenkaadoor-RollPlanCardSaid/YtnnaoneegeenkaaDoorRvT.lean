/- The names of a level, rising: the document's Rank. -/
import Derived.Test.YtnnaoneegeenkaaDoorRvH
namespace Go.Proofs.YtnnaoneegeenkaaDoor.Kq
open Go.ChangeShapes Go.WideShapes Go.ChangeAt Go.RowKit Own Ro wordsNames Kc

abbrev Tx := List UInt8
def gtB (a b : Tx) : Bool := !(Go.Op.bytesLess a b || decide (a = b))
def sw (l : List Tx) (j : Nat) : List Tx := (l.set (j + 1) (l.getD j [])).set j (l.getD (j + 1) [])
/-- The last one sinks to its place. -/
def bub : List Tx → Nat → List Tx
  | l, 0 => l
  | l, j + 1 => if gtB (l.getD j []) (l.getD (j + 1) []) then bub (sw l j) j else l
theorem sw_len (l : List Tx) (j : Nat) : (sw l j).length = l.length := by simp [sw]
theorem bub_len : ∀ (j : Nat) (l : List Tx), (bub l j).length = l.length
  | 0, _ => rfl
  | j + 1, l => by
    unfold bub
    split
    · rw [bub_len j, sw_len]
    · rfl
/-- The names of a level among the first k cards. -/
def rk (i : Int) : Nat → List Tx
  | 0 => []
  | k + 1 => if (SL.getD k cd0).level = i then bub (rk i k ++ [(SL.getD k cd0).name]) (rk i k).length else rk i k
theorem rk_len (i : Int) : ∀ k, (rk i k).length ≤ k
  | 0 => Nat.le_refl _
  | k + 1 => by
    unfold rk
    split
    · rw [bub_len, List.length_append, List.length_singleton]
      have := rk_len i k
      omega
    · have := rk_len i k
      omega
theorem strs_snoc (l : List Tx) (x : Tx) : Kc.strs l ++ [.string (str x)] = Kc.strs (l ++ [x]) := by simp [Kc.strs]
theorem str_back (a : Tx) : (str a).toList = a := by
  rw [Lib.toList_data, str_list]
theorem SL_lv : ∀ k < 22, 0 ≤ (SL.getD k cd0).level ∧ (SL.getD k cd0).level ≤ 4 := by decide +kernel
theorem info_st : (Tryd.prog.info? 9).map (fun i => (i.zero, i.size, i.bytes)) = some (some (.string ⟨#[]⟩), 1, 16) := by kernel_rfl
theorem _root_.Go.RowKit.Below.set9 {B : Nat} {w w' : World} (h : Below B w w') {p : Addr} (hp : B ≤ p.block) (v : Value) : Below B w (w'.setCell p v) :=
  ⟨h.os, h.tape, h.output, by simpa using h.size, fun k hk => (Go.RowKit.Below.heap_setCell _ _ _ _ (by omega)).trans (h.block k hk)⟩
def RankPost (i : Int) (w : World) (e : Ending) (w' : World) : Prop := ∃ A c, e = .returned (.slice A (rk i 22).length c) ∧ CellsIn w' 1 A (rk i 22).length (Kc.strs (rk i 22)) ∧ Below w.heap.size w w'
set_option maxRecDepth 100000 in
set_option maxHeartbeats 8000000 in
theorem refRank_any (i : Int) (w : World) (hi1 : 0 ≤ i) (hi2 : i < 5) : Calls Tryd.prog 34 #[.int .i64 i] w (RankPost i w) := by
  have HC := Lib.hid refCards_any
  go_enter Tryd.func34, Tryd.ntmps34
  go_wp2_with fail
  refine (HC.out _).mono ?_
  rintro e w1 ⟨A, c, R, rfl, hr, hb⟩
  have HR := Lib.hid hr
  have HB := Lib.hid hb
  clear hr hb HC
  go_wp2_with fail
  go_loopw [4, 5] (fun v4 v5 wr => ∃ (k : Nat) (A4 : Option Addr) (c4 : Nat), k ≤ 22 ∧ v5 = .int .i64 (k : Nat) ∧ v4 = .slice A4 (rk i k).length c4 ∧ wr.ownsRow w1.heap.size 9 1 (.slice A4 (rk i k).length c4) (rk i k).length (Kc.strs (rk i k)) ∧ Below w1.heap.size w1 wr) (fun _ v5 _ => 22 - (RowKit.intOf v5).toNat)
  case atStart => exact ⟨0, none, 0, by omega, rfl, rfl, own_nilK w1 _ _ _, Below.refl _ _⟩
  case round =>
    obtain ⟨k, A4, c4, hk, rfl, rfl, ho, hbw⟩ := hrel
    have O4 := Lib.hid ho
    have BW := Lib.hid hbw
    clear ho hbw
    by_cases hlt : k < 22
    · have k1 : (0 : Int) ≤ (k : Int) := by omega
      have k2 : (k : Int) < 22 := by omega
      have hlen := rk_len i k
      obtain ⟨b, o, rfl, hbs, hc, _, _⟩ := (HR.out.below BW.out).rows.at hlt
      have e0 : wr.cell? ⟨b, o + k * 7, none⟩ = some (.string (str (SL.getD k cd0).name)) := hc 0 _ rfl
      have e2 : wr.cell? ⟨b, o + k * 7 + 2, none⟩ = some (.int .u8 (SL.getD k cd0).level) := hc 2 _ rfl
      have hlv := SL_lv k hlt
      have HRK : Hid (rk i (k + 1) = if (SL.getD k cd0).level = i then bub (rk i k ++ [(SL.getD k cd0).name]) (rk i k).length else rk i k) := Lib.hid rfl
      clear hc hbs
      generalize (SL.getD k cd0).name = nm at e0 HRK
      generalize (SL.getD k cd0).level = lv at e2 HRK hlv
      have hwr : wrap64 lv = lv := by unfold wrap64; omega
      by_cases hli : lv = i
      · rw [if_pos hli] at HRK
        subst hli
        have hbn : (wrap64 lv != lv) = false := by rw [hwr]; simp
        have HS := Lib.hid (strs_snoc (rk lv k) nm)
        have HN : Hid ((rk lv k ++ [nm]).length = (rk lv k).length + 1) := Lib.hid (by simp)
        generalize hL : rk lv k = L at *
        clear hL hwr
        generalize L.length = n at *
        generalize str nm = X at e0 HS
        go_wp2_with (at_builtin; (refine wpList_append_srcK (o := ⟨some 30, _, _, _, _, _⟩) rfl (.tmp 23) (.tmp 29) 26 rfl w1.heap.size 9 (.string ⟨#[]⟩) 1 16 (by omega) Tryd.underlying26 info_st rfl _ n (Kc.strs L) rfl (own_belowK O4.out (grows' wr _)) _ 1 1 [.string X] rfl (src_new wr _ _) (by intro u hu; simp at hu; subst hu; rfl) (by omega) (by omega) (by have := BW.out.size; simp; omega) ?_); intro v3 w3 ho3 hg3; rw [HS.out] at ho3; obtain ⟨g9, cap9, hg1, rfl, _⟩ : ∃ g9 cap9, w1.heap.size ≤ g9 ∧ v3 = .slice (some ⟨g9, 0, none⟩) (n + 1) cap9 ∧ True := (by obtain ⟨A3, c3, rfl, _⟩ := own_srcK ho3; obtain ⟨g9, rfl, hg9, _⟩ := own_shapeK ho3 (by omega); exact ⟨g9, c3, hg9, rfl, trivial⟩); have HO3 := Lib.hid ho3; have HB3 := Lib.hid ((BW.out.alloc BW.out.size _).grown hg3 (by have := BW.out.size; simp; omega) (fun g hg => (O4.out.lt g hg).1)); clear ho3 hg3)
        clear HS O4 e0 e2 hbn
        go_loopw [6, 7] (fun v6 v7 wz => ∃ (j : Nat) (cur : List Tx), j ≤ n ∧ v6 = .int .i64 (j : Nat) ∧ cur.length = n + 1 ∧ bub cur j = bub (L ++ [nm]) n ∧ wz.ownsRow w1.heap.size 9 1 (.slice (some ⟨g9, 0, none⟩) (n + 1) cap9) (n + 1) (Kc.strs cur) ∧ Below w1.heap.size w1 wz) (fun v6 _ _ => (RowKit.intOf v6).toNat)
        case atStart => exact ⟨n, L ++ [nm], by omega, rfl, HN.out, rfl, HO3.out, HB3.out⟩
        case round =>
          clear HO3 HB3
          obtain ⟨j, cur, hj, rfl, hcl, hbb, ho, hbz⟩ := hrel
          have OC := Lib.hid ho
          have BZ := Lib.hid hbz
          have HBB := Lib.hid hbb
          have HCL := Lib.hid hcl
          clear ho hbz hbb
          cases j with
          | zero =>
            have HF : Hid (rk lv (k + 1) = cur) := Lib.hid (by rw [HRK.out, ← HBB.out]; rfl)
            rw [show ((0 : Nat) : Int) = (0 : Int) from rfl]
            clear HBB
            go_wp2_with fail
            go_quiet (fail)
            go_wp2_with fail
            go_roundw
            case rel => exact ⟨k + 1, some ⟨g9, 0, none⟩, cap9, by omega, by go_num, by rw [HF.out, HCL.out], by rw [HF.out, HCL.out]; exact own_belowK OC.out (below_dr (Below.refl _ _) _), below_dr BZ.out _⟩
            case measure => simp [RowKit.intOf]; omega
          | succ j =>
            have c0 : wr.cell? ⟨g9, j, none⟩ = some (.string (str (cur.getD j []))) := by
              rw [OC.out.cellAt j (by omega)]
              exact strs_at _ _ (by omega)
            have c1 : wr.cell? ⟨g9, j + 1, none⟩ = some (.string (str (cur.getD (j + 1) []))) := by
              rw [OC.out.cellAt (j + 1) (by omega)]
              exact strs_at _ _ (by omega)
            have z0 := OC.out.frozenAt j
            have z1 := OC.out.frozenAt (j + 1)
            have q1 := eq_lists (cur.getD j []) (cur.getD (j + 1) [])
            have q2 : Go.Op.bytesLess (str (cur.getD j [])).toList (str (cur.getD (j + 1) [])).toList = Go.Op.bytesLess (cur.getD j []) (cur.getD (j + 1) []) := by rw [str_back, str_back]
            have j1 : (0 : Int) ≤ (j : Int) := by omega
            have j2 : (j : Int) < (n : Int) + 1 := by omega
            have j3 : (0 : Int) < (j : Int) + 1 := by omega
            have j4 : (j : Int) + 1 < (n : Int) + 1 := by omega
            have hb9 : bub cur (j + 1) = if gtB (cur.getD j []) (cur.getD (j + 1) []) then bub (sw cur j) j else cur := rfl
            have hab : Hid (cur.getD j [] = cur.getD j [] ∧ cur.getD (j + 1) [] = cur.getD (j + 1) []) := Lib.hid ⟨rfl, rfl⟩
            generalize ha : cur.getD j [] = a at c0 q1 q2 hb9
            generalize hb : cur.getD (j + 1) [] = b2 at c1 q1 q2 hb9
            replace hab := Lib.hid (And.intro ha hb)
            clear ha hb
            have hg : gtB a b2 = !(Go.Op.bytesLess a b2 || decide (a = b2)) := rfl
            generalize Go.Op.bytesLess a b2 = x at q2 hg
            generalize decide (a = b2) = y at q1 hg
            rw [hg, HBB.out] at hb9
            cases x with
            | false =>
              cases y with
              | false =>
                have hbb2 := Lib.hid (show bub (sw cur j) j = bub (L ++ [nm]) n from hb9.symm)
                clear hb9 hg HBB
                have HSW : Hid (∀ q, (((wr.drewN q).setCell ⟨g9, j + 1, none⟩ (.string (str a))).setCell ⟨g9, j, none⟩ (.string (str b2))).ownsRow w1.heap.size 9 1 (.slice (some ⟨g9, 0, none⟩) (n + 1) cap9) (n + 1) (Kc.strs (sw cur j))) := Lib.hid (fun q => by
                  have h1 := ((own_belowK OC.out (below_dr (Below.refl wr.heap.size wr) q)).stored (j + 1) (.string (str a))).1
                  have h2 := (h1.stored j (.string (str b2))).1
                  rw [Kc.strs_set, Kc.strs_set] at h2
                  unfold sw
                  rw [hab.out.1, hab.out.2]
                  exact h2)
                rw [show ((j + 1 : Nat) : Int) = (j : Int) + 1 from rfl]
                go_wp2_with fail
                go_quiet (fail)
                go_wp2_with fail
                go_roundw
                case rel => exact ⟨j, sw cur j, by omega, rfl, by rw [sw_len, HCL.out], hbb2.out, HSW.out _, ((below_dr BZ.out _).set9 hg1 _).set9 hg1 _⟩
                case measure => simp [RowKit.intOf]
              | true =>
                have HF : Hid (rk lv (k + 1) = cur) := Lib.hid (by rw [HRK.out]; exact hb9)
                clear hb9 hg HBB hab
                rw [show ((j + 1 : Nat) : Int) = (j : Int) + 1 from rfl]
                go_wp2_with fail
                go_quiet (fail)
                go_wp2_with fail
                go_roundw
                case rel => exact ⟨k + 1, some ⟨g9, 0, none⟩, cap9, by omega, by go_num, by rw [HF.out, HCL.out], by rw [HF.out, HCL.out]; exact own_belowK OC.out (below_dr (Below.refl _ _) _), below_dr BZ.out _⟩
                case measure => simp [RowKit.intOf]; omega
            | true =>
              have HF : Hid (rk lv (k + 1) = cur) := Lib.hid (by rw [HRK.out]; exact hb9)
              clear hb9 hg HBB hab q1
              rw [show ((j + 1 : Nat) : Int) = (j : Int) + 1 from rfl]
              go_wp2_with fail
              go_quiet (fail)
              go_wp2_with fail
              go_roundw
              case rel => exact ⟨k + 1, some ⟨g9, 0, none⟩, cap9, by omega, by go_num, by rw [HF.out, HCL.out], by rw [HF.out, HCL.out]; exact own_belowK OC.out (below_dr (Below.refl _ _) _), below_dr BZ.out _⟩
              case measure => simp [RowKit.intOf]; omega
      · rw [if_neg hli] at HRK
        have hbn : (wrap64 lv != i) = true := by rw [hwr]; simpa using hli
        clear hwr
        go_wp2_with fail
        go_roundw
        case rel => exact ⟨k + 1, A4, c4, by omega, by go_num, by rw [HRK.out], by rw [HRK.out]; exact O4.out, BW.out⟩
        case measure => simp [RowKit.intOf]; omega
    · obtain rfl : k = 22 := by omega
      go_wp2_with fail
      go_ret
      exact ⟨A4, c4, rfl, own_cells O4.out, bt HB.out BW.out⟩
end Go.Proofs.YtnnaoneegeenkaaDoor.Kq
