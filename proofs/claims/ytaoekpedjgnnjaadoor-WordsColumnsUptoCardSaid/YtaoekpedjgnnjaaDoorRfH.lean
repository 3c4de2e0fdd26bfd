/- The document's own Columns, where the shape is right. -/
import Derived.Test.YtaoekpedjgnnjaaDoorRfA
import Derived.Test.YtaoekpedjgnnjaaDoorWeV
import Derived.Test.YtaoekpedjgnnjaaDoorRfG
import Derived.Deep.RegionHeld3
namespace Go.Proofs.YtaoekpedjgnnjaaDoor.Wd
open Go.ChangeShapes Go.WideShapes Go.ChangeAt Go.RowKit Own Bld Go.Lib Nums

theorem below_dr {B : Nat} {a w : World} (h : Below B a w) (q : Nat) : Below B a (w.drewN q) := ⟨h.os, h.tape, h.output, h.size, h.block⟩
theorem trim_blank (l : List UInt8) : Lib.trimRightB (l ++ [32]) 32 = Lib.trimRightB l 32 := by
  unfold Lib.trimRightB
  rw [List.reverse_append]
  rfl
theorem trim_stop (l : List UInt8) (c : UInt8) (h : c ≠ 32) : Lib.trimRightB (l ++ [c]) 32 = l ++ [c] := by
  unfold Lib.trimRightB
  rw [List.reverse_append]
  show (List.dropWhile _ (c :: l.reverse)).reverse = _
  rw [List.dropWhile_cons_of_neg (by simpa using h)]
  simp
theorem take_pred (s : ByteArray) (q : Nat) (h0 : 0 < q) (hq : q ≤ s.size) : s.data.toList.take q = s.data.toList.take (q - 1) ++ [s[q - 1]'(by omega)] := by
  have h := take_last s (q - 1) (by omega)
  rw [show q - 1 + 1 = q by omega] at h
  exact h
theorem take_all (s : ByteArray) : s.data.toList.take s.size = s.data.toList := List.take_of_length_le (Nat.le_refl s.data.toList.length)
def linesA (X : List (List (List UInt8))) (ws : List Nat) : List (List UInt8) := X.map fun x => lineA x ws
theorem linesA_take (X : List (List (List UInt8))) (ws : List Nat) (i : Nat) (h : i < X.length) : linesA (X.take (i + 1)) ws = linesA (X.take i) ws ++ [lineA (X.getD i []) ws] := by
  unfold linesA
  rw [List.take_succ_eq_append_getElem h, List.map_append, List.getD_eq_getElem?_getD, List.getElem?_eq_getElem h]
  rfl
theorem refFit_ok (s : ByteArray) (n : Nat) (w : World) (hs : s.size ≤ 16777216) (h1 : 1 ≤ n) (hn : n ≤ 4096) :
    Calls Tryd.prog 15 #[.string s, .int .i64 (n : Int)] w fun e w' => e = .returned (.tuple #[.string (str (fitW s.data.toList n)), .int .i64 0]) ∧ Below w.heap.size w w' := by
  by_cases hw : widthW s.data.toList ≤ n
  · exact refFit_pad s n w hs h1 hn hw
  · exact refFit_cut s n w hs h1 hn (by omega)

set_option maxRecDepth 100000 in
set_option maxHeartbeats 16000000 in
theorem refColumns_ok (A B : Option Addr) (c d n m : Nat) (R : List (Option Addr × Nat × Nat)) (X : List (List (List UInt8))) (ws : List Nat) (w : World) (hn : n = R.length) (hnX : n = X.length) (hm : m = ws.length) (hm64 : m ≤ 64) (hnx : n ≤ 16777216)
    (hw : ∀ k, k < m → 1 ≤ ws.getD k 0 ∧ ws.getD k 0 ≤ 4096) (hr : ∀ k, k < n → RowAll w m (R.getD k (none, 0, 0)) (X.getD k []))
    (hA : Src w A n c (slcs R)) (hB : Src w B m d (ws.map fun (x : Nat) => Value.int .i64 (x : Int))) :
    Calls Tryd.prog 6 #[.slice A n c, .slice B m d] w (Made (linesA X ws) 0 w) := by
  have HW := Lib.hid hw
  have HR := Lib.hid hr
  have HN := Lib.hid hn
  have HNX := Lib.hid hnX
  have HM := Lib.hid hm
  have GA := Lib.hid hA
  have GB := Lib.hid hB
  clear hA hB hw hr hn hnX hm
  have t0 : decide ((64 : Int) < (m : Int)) = false := decide_eq_false (by omega)
  go_enter Tryd.func6, Tryd.ntmps6
  go_wp2_with fail
  go_loopw [6] (fun i wr => ∃ k : Nat, k ≤ m ∧ i = .int .i64 k ∧ w = wr) (fun i _ => m - (RowKit.intOf i).toNat)
  case atStart => exact ⟨0, by omega, rfl, rfl⟩
  case round =>
    obtain ⟨k, hk, rfl, rfl⟩ := hrel
    by_cases hlt : k < m
    · obtain ⟨b, o, rfl, _, hc1⟩ := src_get' GB.out (by omega)
      have e1 := hc1 k _ (ints_at ws k (by rw [← HM.out]; exact hlt))
      have hww := HW.out k hlt
      generalize ws.getD k 0 = q at e1 hww
      have t1 : decide ((q : Int) < 1) = false := decide_eq_false (by omega)
      have t2 : decide (4096 < (q : Int)) = false := decide_eq_false (by omega)
      clear hc1
      go_wp2_with fail
      go_roundw
      case rel => exact ⟨k + 1, by omega, by go_num, by first | trivial | rfl⟩
      case measure => simp [RowKit.intOf]; omega
    · obtain rfl : m = k := by omega
      go_wp2_with fail
      go_loopw [7] (fun i wr => ∃ k : Nat, k ≤ n ∧ i = .int .i64 k ∧ w = wr) (fun i _ => n - (RowKit.intOf i).toNat)
      case atStart => exact ⟨0, by omega, rfl, rfl⟩
      case round =>
        obtain ⟨j, hj, rfl, rfl⟩ := hrel
        by_cases hjl : j < n
        · obtain ⟨b, o, rfl, _, hc1⟩ := src_get' GA.out (by omega)
          have e1 := hc1 j _ (slcs_at R j (by rw [← HN.out]; exact hjl))
          have hrr := (HR.out j hjl).2.1
          generalize R.getD j (none, 0, 0) = r at e1 hrr
          obtain ⟨ra, rn, rc⟩ := r
          replace hrr : rn ≤ m := hrr
          have t1 : decide (m < rn) = false := decide_eq_false (by omega)
          have t2 : decide ((m : Int) < (rn : Int)) = false := decide_eq_false (by omega)
          clear hc1
          go_wp2_with fail
          go_roundw
          case rel => exact ⟨j + 1, by omega, by go_num, by first | trivial | rfl⟩
          case measure => simp [RowKit.intOf]; omega
        · obtain rfl : n = j := by omega
          go_wp2_with fail
          go_loopw [8, 9] (fun v8 v9 wr => ∃ i : Nat, i ≤ n ∧ v9 = .int .i64 i ∧ wr.ownsRow w.heap.size 9 1 v8 i (strs (linesA (X.take i) ws)) ∧ Below w.heap.size w wr) (fun _ v9 _ => n - (RowKit.intOf v9).toNat)
          case atStart => exact ⟨0, Nat.zero_le _, rfl, own_nil w _ _, Below.refl _ _⟩
          case round =>
            obtain ⟨i, hi, rfl, hown, hbw⟩ := hrel
            have HO := Lib.hid hown
            have HB := Lib.hid hbw
            have hsz := hbw.size
            clear hown hbw
            by_cases hil : i < n
            · obtain ⟨b, o, rfl, hbs, hc1⟩ := src_get' GA.out (by omega)
              have e1 := hc1 i _ (slcs_at R i (by rw [← HN.out]; exact hil))
              have hrr := HR.out i hil
              have HLT := Lib.hid (linesA_take X ws i (by rw [← HNX.out]; exact hil))
              generalize X.getD i [] = x at hrr HLT
              generalize R.getD i (none, 0, 0) = r at e1 hrr
              obtain ⟨ra, rn, rc⟩ := r
              obtain ⟨hx, hrm, hsr, hcs⟩ := hrr
              replace hx : rn = x.length := hx
              replace hrm : rn ≤ m := hrm
              replace hsr : Src w ra rn rc (strs x) := hsr
              replace hcs : ∀ k, k < rn → (str (x.getD k [])).size ≤ 16777216 := hcs
              have HXL := Lib.hid hx
              have HSR := Lib.hid hsr
              have HCS := Lib.hid hcs
              have E1 : Hid (∀ W, Below w.heap.size w W → W.cell? ⟨b, o + i, none⟩ = some (.slice ra rn rc)) := Lib.hid fun W hW => by rw [hW.cell (p := ⟨b, o + i, none⟩) hbs]; exact e1
              have HAL := Lib.hid (accA_len x ws (by rw [← hx]; exact fun k hk => HW.out k (by omega)))
              clear hx hsr hcs e1 hc1
              have e1 := E1.out _ HB.out
              go_wp2_with fail
              go_loopw [10, 11] (fun v10 v11 wi => ∃ k : Nat, k ≤ rn ∧ v11 = .int .i64 k ∧ v10 = .string (str (accA x ws k)) ∧ wi.ownsRow w.heap.size 9 1 u8 i (strs (linesA (X.take i) ws)) ∧ Below w.heap.size w wi) (fun _ v11 _ => rn - (RowKit.intOf v11).toNat)
              case atStart => exact ⟨0, Nat.zero_le _, rfl, rfl, HO.out, HB.out⟩
              case round =>
                clear HO HB hsz e1
                obtain ⟨k, hk, rfl, rfl, hown, hbw⟩ := hrel
                have HO := Lib.hid hown
                have hsz := hbw.size
                clear hown
                have e1 := E1.out _ hbw
                have HALk := Lib.hid (HAL.out k (by have := HXL.out; omega))
                by_cases hkl : k < rn
                · obtain ⟨b2, o2, rfl, hb2, hc2⟩ := src_get' HSR.out (by omega)
                  obtain ⟨b3, o3, rfl, hb3, hc3⟩ := src_get' GB.out (by omega)
                  have c2 := hc2 k _ (strs_at x k (by rw [← HXL.out]; exact hkl))
                  have c3 := hc3 k _ (ints_at ws k (by rw [← HM.out]; omega))
                  have hcs := HCS.out k hkl
                  have hww := HW.out k (by omega)
                  have HFT := Lib.hid fun W => refFit_ok (str (x.getD k [])) (ws.getD k 0) W hcs hww.1 hww.2
                  have HFL := Lib.hid (fitW_len (x.getD k []) (ws.getD k 0) hww.1)
                  rw [str_list] at HFT
                  have HST : Hid (accA x ws (k + 1) = (if 0 < k then accA x ws k ++ [32] else accA x ws k) ++ fitW (x.getD k []) (ws.getD k 0)) := Lib.hid rfl
                  generalize fitW (x.getD k []) (ws.getD k 0) = f at HFT HST HFL
                  generalize str (x.getD k []) = T at c2 HFT hcs
                  generalize ws.getD k 0 = q at c3 HFT HFL hww
                  have hfz : (str f).size ≤ 16384 := by rw [str_size]; have := HFL.out; omega
                  have HKP : Hid (∀ W, Below wr.heap.size wr W → (W.cell? ⟨b, o + i, none⟩ = some (.slice (some ⟨b2, o2, none⟩) rn rc) ∧ W.cell? ⟨b2, o2 + k, none⟩ = some (.string T) ∧ W.cell? ⟨b3, o3 + k, none⟩ = some (.int .i64 (q : Int))) ∧ Below wr.heap.size wr W) := Lib.hid fun W hW' => by
                    have hW := below_on hbw hW'
                    exact ⟨⟨E1.out W hW, by rw [hW.cell (p := ⟨b2, o2 + k, none⟩) hb2]; exact c2, by rw [hW.cell (p := ⟨b3, o3 + k, none⟩) hb3]; exact c3⟩, hW'⟩
                  have HBW := Lib.hid hbw
                  clear hc2 hc3 c2 c3 hbw
                  have i1 : (0 : Int) ≤ (k : Int) := by omega
                  have i2 : (k : Int) < (rn : Int) := by omega
                  have i3 : (k : Int) < (m : Int) := by omega
                  have i4 : (0 : Int) ≤ (i : Int) := by omega
                  have i5 : (i : Int) < (n : Int) := by omega
                  go_wp2_with fail
                  go_region_held3 (fun w' => (w'.cell? ⟨b, o + i, none⟩ = some (.slice (some ⟨b2, o2, none⟩) rn rc) ∧ w'.cell? ⟨b2, o2 + k, none⟩ = some (.string T) ∧ w'.cell? ⟨b3, o3 + k, none⟩ = some (.int .i64 (q : Int))) ∧ Below wr.heap.size wr w') (first | exact HKP.out _ (by assumption) | exact HKP.out _ (Below.refl _ _) | exact HKP.out _ (below_dr (Below.refl _ _) 1))
                    (first
                      | (go_at_call 15; refine (HFT.out _).mono ?_; rintro e w9 ⟨rfl, b9⟩; have B9 := below_on (y := wr) (by first | assumption | exact Below.refl _ _ | exact below_dr (Below.refl _ _) 1 | exact And.right (by assumption)) b9; clear b9))
                  all_goals
                    have O9 := Lib.hid (own_below HO.out B9 (Nat.le_refl _))
                    have W9 := Lib.hid (below_on HBW.out B9)
                    clear i1 i2 i3 i4 i5
                    by_cases h0 : k = 0
                    case' pos =>
                      have t3 : decide (0 < k) = false := decide_eq_false (by omega)
                      have HV : Hid (str (accA x ws k) ++ str f = str (accA x ws (k + 1))) := Lib.hid (by rw [HST.out, if_neg (by omega), app_str])
                    case' neg =>
                      have t3 : decide (0 < k) = true := decide_eq_true (by omega)
                      have HV : Hid (str (accA x ws k) ++ ⟨#[32]⟩ ++ str f = str (accA x ws (k + 1))) := Lib.hid (by rw [HST.out, if_pos (by omega), ← app_str, ← app_str]; rfl)
                    all_goals
                      have hpz : (str (accA x ws k)).size ≤ 1048640 := by rw [str_size]; have := HALk.out; omega
                      clear h0
                      generalize str (accA x ws k) = P at HV hpz ⊢
                      generalize str f = F at HV hfz ⊢
                      go_wp2_with fail
                      go_roundw
                      case rel => exact ⟨k + 1, by omega, by go_num, congrArg Value.string HV.out, O9.out, W9.out⟩
                      case measure => simp [RowKit.intOf]; omega
                · obtain rfl : rn = k := by omega
                  have HV : Hid (lineA x ws = Lib.trimRightB (accA x ws rn) 32) := Lib.hid (by unfold lineA; rw [← HXL.out])
                  obtain ⟨P, hP⟩ : ∃ P, P = str (accA x ws rn) := ⟨_, rfl⟩
                  have HPL : Hid (P.data.toList = accA x ws rn) := Lib.hid (by rw [hP, str_list])
                  have hpz : P.size ≤ 1048640 := by rw [hP, str_size]; have := HALk.out; omega
                  have HBW := Lib.hid hbw
                  rw [← hP]
                  clear hP hbw
                  go_wp2_with fail
                  go_loop [14] (fun v => ∃ q : Nat, q ≤ P.size ∧ v = .int .i64 q ∧ Hid (Lib.trimRightB P.data.toList 32 = Lib.trimRightB (P.data.toList.take q) 32)) (fun v => (RowKit.intOf v).toNat)
                  case atStart => exact ⟨P.size, Nat.le_refl _, rfl, Lib.hid (by rw [take_all])⟩
                  case round =>
                    obtain ⟨q, hq, rfl, HT⟩ := hrel
                    by_cases hq0 : q = 0
                    case' pos =>
                      have t3 : decide (0 < q) = false := decide_eq_false (by omega)
                      have HE : Hid (P.extract 0 q = str (lineA x ws)) := Lib.hid (by rw [ext_take, HV.out, ← HPL.out, HT.out, hq0]; rfl)
                    case' neg =>
                      have t3 : decide (0 < q) = true := decide_eq_true (by omega)
                      have b1 : (0 : Int) ≤ (q : Int) - 1 := by omega
                      have b2 : (1 : Int) ≤ (q : Int) := by omega
                      have b3 : (q : Int) - 1 < (P.size : Int) := by omega
                      have hqp : q - 1 < P.size := by omega
                      have c256 : (P[q - 1]'(hqp)).toNat < 256 := (P[q - 1]'(hqp)).toNat_lt
                      have htp := take_pred P q (by omega) hq
                      by_cases h32 : P[q - 1]'(hqp) = 32
                      case' neg =>
                        have t4 : (((P[q - 1]'(hqp)).toNat : Int) == 32) = false := beq_eq_false_iff_ne.2 fun e => h32 (UInt8.toNat_inj.1 (by show (P[q - 1]'(hqp)).toNat = 32; omega))
                        have HE : Hid (P.extract 0 q = str (lineA x ws)) := Lib.hid (by rw [ext_take, HV.out, ← HPL.out, HT.out, htp, trim_stop _ _ h32])
                    case' pos =>
                      have t4 : (((P[q - 1]'(hqp)).toNat : Int) == 32) = true := by rw [h32]; rfl
                      have HT2 : Hid (Lib.trimRightB P.data.toList 32 = Lib.trimRightB (P.data.toList.take (q - 1)) 32) := Lib.hid (by rw [HT.out, htp, h32, trim_blank])
                      clear htp h32 hq0
                      go_wp2_with fail
                      go_round
                      case rel => exact ⟨q - 1, by omega, by rw [show ((q - 1 : Nat) : Int) = (q : Int) - 1 by omega], HT2⟩
                      case measure => simp [RowKit.intOf]; omega
                    all_goals
                      try clear htp h32
                      clear hq0
                      go_wp2_with (at_builtin; go_must (refine wpList_append_src rfl (.tmp 100) (.tmp 104) 25 rfl w.heap.size 9 (.string ByteArray.empty) 16 Tryd.underlying25 info_str rfl _ i (strs (linesA (X.take i) ws)) rfl (HO.out.alloc _) _ 1 1 [.string (P.extract 0 q)] rfl (src_new _ _ _) (by intro u hu; simp at hu; subst hu; rfl) (by omega) (by omega) (by simp; omega) ?_); intro v3 w3 ho3 hg3; rw [HE.out, ← strs_snoc, ← HLT.out] at ho3; have O3 := Lib.hid ho3; have B3 := Lib.hid (below_grown' HBW.out hsz HO.out (Nat.le_refl _) hg3); clear ho3 hg3)
                      go_wp2_with fail
                      go_roundw
                      case rel => exact ⟨i + 1, by omega, by go_num, O3.out, B3.out⟩
                      case measure => simp [RowKit.intOf]; omega
            · obtain rfl : n = i := by omega
              have HTK : Hid (X.take n = X) := Lib.hid (by rw [HNX.out, List.take_length])
              have HNL : Hid (n = (linesA X ws).length) := Lib.hid (by unfold linesA; rw [List.length_map]; exact HNX.out)
              rw [HTK.out] at HO
              go_wp2_with fail
              go_ret2
              exact made_own HNL.out HO.out HB.out
end Go.Proofs.YtaoekpedjgnnjaaDoor.Wd
