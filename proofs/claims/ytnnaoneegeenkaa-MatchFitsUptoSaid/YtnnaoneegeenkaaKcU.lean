/- The document's texts and May; names of levels. -/
import Derived.Test.YtnnaoneegeenkaaKcT
namespace Go.Proofs.Ytnnaoneegeenkaa.Kc
open Go.ChangeShapes Go.WideShapes Go.ChangeAt Go.RowKit Own Ro wordsNames

theorem refName_str (s : List UInt8) (w : World) (hs : s.length ≤ 1099511627776) :
    Calls Try.prog 35 #[.string (str s)] w fun e w' => e = .returned (.bool (isName s)) ∧ w = w' := by
  have := refName_any (str s) w (by unfold maxLen; rw [str_size]; omega)
  rw [str_list] at this
  exact this
theorem byte_eqz (c : UInt8) : ((c.toNat : Int) == 0) = decide (c = 0) := by
  rw [Bool.eq_iff_iff, decide_eq_true_eq]
  simp
  constructor
  · intro h; exact UInt8.toNat_inj.1 h
  · rintro rfl; rfl
set_option maxRecDepth 100000 in
set_option maxHeartbeats 8000000 in
theorem texts_any (A : Option Addr) (c n : Nat) (ls : List (List UInt8)) (g : Bool) (w : World) (hg : g = true ↔ TextsOk ls) (hn : n = ls.length) (hm : MildT 1099511627776 ls) (hs : CellsIn w 1 A n (strs ls)) :
    Calls Try.prog 36 #[.slice A n c] w fun e w' => e = .returned (.bool g) ∧ ∃ q, w' = w.drewN q := by
  have hnb : n ≤ 1099511627776 := by have := hm.1; omega
  have HN := Lib.hid hn
  have HG := Lib.hid hg
  have HM := Lib.hid hm
  have GA := Lib.hid hs
  clear hn hg hm hs
  by_cases h1 : n < 1
  · have HF : Hid (g = false) := Lib.hid (Bool.eq_false_iff.2 fun e => by have := (HG.out.1 e).1; have := HN.out; omega)
    go_enter Try.func36, Try.ntmps36
    go_wp2_with fail
    go_ret
    rw [HF.out]
    exact ⟨rfl, 0, rfl⟩
  by_cases h2 : 8 < n
  · have HF : Hid (g = false) := Lib.hid (Bool.eq_false_iff.2 fun e => by have := (HG.out.1 e).2.1; have := HN.out; omega)
    go_enter Try.func36, Try.ntmps36
    go_wp2_with fail
    go_ret
    rw [HF.out]
    exact ⟨rfl, 0, rfl⟩
  obtain ⟨b, o, rfl, hbs, hc⟩ := GA.out.at (by omega)
  have HC := Lib.hid hc
  have HB : Hid (∀ i, i < n → ¬ (okText (ls.getD i []) ∧ ∀ k, k < i → ls.getD k [] ≠ ls.getD i []) → g = false) := Lib.hid fun i hi hno => Bool.eq_false_iff.2 fun e => hno ((HG.out.1 e).2.2 i (by rw [← HN.out]; exact hi))
  clear hc
  go_enter Try.func36, Try.ntmps36
  go_wp2_with fail
  go_loopw [3] (fun v3 wr => ∃ (k q : Nat), k ≤ n ∧ v3 = .int .i64 (k : Int) ∧ wr = w.drewN q ∧ Hid (∀ i, i < k → okText (ls.getD i []) ∧ ∀ j, j < i → ls.getD j [] ≠ ls.getD i [])) (fun v3 _ => n - (RowKit.intOf v3).toNat)
  case atStart => exact ⟨0, 0, by omega, rfl, rfl, Lib.hid fun i hi => by omega⟩
  case round =>
    obtain ⟨k, q, hk, rfl, rfl, HK⟩ := hrel
    by_cases hlt : k < n
    · have e0 := HC.out k _ (strs_at ls k (by rw [← HN.out]; exact hlt))
      have HBK := Lib.hid (HB.out k hlt)
      have hml := HM.out.2 k
      have hsz : (str (ls.getD k [])).size = (ls.getD k []).length := rfl
      have HSZ := Lib.hid hsz
      have hS : (str (ls.getD k [])).size ≤ 1099511627776 := by omega
      have HZ : Hid (∀ j (h : j < (str (ls.getD k [])).size), (str (ls.getD k []))[j] = 0 → (0 : UInt8) ∈ ls.getD k []) := Lib.hid fun j h e => by
        rw [← e]
        exact List.getElem_mem (l := ls.getD k []) (n := j) h
      have HZ2 : Hid ((0 : UInt8) ∈ ls.getD k [] → ∃ j, ∃ h : j < (str (ls.getD k [])).size, (str (ls.getD k []))[j] = 0) := Lib.hid fun hmem => by
        obtain ⟨j, hj, he⟩ := List.getElem_of_mem hmem
        exact ⟨j, hj, he⟩
      have HK2 : Hid (okText (ls.getD k []) ∧ (∀ j, j < k → ls.getD j [] ≠ ls.getD k []) → ∀ i, i < k + 1 → okText (ls.getD i []) ∧ ∀ j, j < i → ls.getD j [] ≠ ls.getD i []) := Lib.hid fun h i hi => by
        by_cases hik : i = k
        · rw [hik]; exact h
        · exact HK.out i (by omega)
      have HQ : Hid (∀ j, ((str (ls.getD j [])).toList == (str (ls.getD k [])).toList) = decide (ls.getD j [] = ls.getD k [])) := Lib.hid fun j => eq_lists _ _
      clear hml hsz
      generalize str (ls.getD k []) = S at e0 HSZ hS HZ HZ2 HQ
      have k1 : (0 : Int) ≤ (k : Int) := by omega
      have k2 : (k : Int) < (n : Int) := by omega
      by_cases s1 : S.size < 1
      · have HF : Hid (g = false) := Lib.hid (HBK.out fun h => by have := h.1.1; have := HSZ.out; omega)
        go_wp2_with fail
        go_ret
        rw [HF.out]
        exact ⟨rfl, _, rfl⟩
      by_cases s2 : 63 < S.size
      · have HF : Hid (g = false) := Lib.hid (HBK.out fun h => by have := h.1.2.1; have := HSZ.out; omega)
        go_wp2_with fail
        go_ret
        rw [HF.out]
        exact ⟨rfl, _, rfl⟩
      go_wp2_with fail
      have HC1 : Hid (∀ j u, (strs ls)[j]? = some u → (w.drewN q).cell? ⟨b, o + j, none⟩ = some u) := Lib.hid HC.out
      replace e0 : (w.drewN q).cell? ⟨b, o + k, none⟩ = some (.string S) := e0
      generalize hW : w.drewN q = w1 at e0 HC1 ⊢
      have HW := Lib.hid hW
      clear hW
      go_loopw [4] (fun v4 wr => ∃ (j : Nat), j ≤ S.size ∧ v4 = .int .i64 (j : Int) ∧ w1 = wr ∧ Hid (∀ i (h : i < S.size), i < j → S[i] ≠ 0)) (fun v4 _ => S.size - (RowKit.intOf v4).toNat)
      case atStart => exact ⟨0, by omega, rfl, rfl, Lib.hid fun i _ hi => by omega⟩
      case round =>
        obtain ⟨j, hj, rfl, rfl, HJ⟩ := hrel
        by_cases hlj : j < S.size
        · have tz := byte_eqz S[j]
          have j1 : (0 : Int) ≤ (j : Int) := by omega
          have j2 : (j : Int) < (S.size : Int) := by omega
          by_cases hz : S[j] = 0
          · have HF : Hid (g = false) := Lib.hid (HBK.out fun h => h.1.2.2 (HZ.out j hlj hz))
            rw [decide_eq_true hz] at tz
            clear hz
            go_wp2_with fail
            go_ret
            rw [HF.out, ← HW.out]
            exact ⟨rfl, _, rfl⟩
          · rw [decide_eq_false hz] at tz
            have HZN := Lib.hid hz
            clear hz
            go_wp2_with fail
            go_roundw
            case rel => exact ⟨j + 1, by omega, by go_num, trivial, Lib.hid fun i h hi => by
              by_cases hij : i = j
              · subst hij; exact HZN.out
              · exact HJ.out i h (by omega)⟩
            case measure => simp [RowKit.intOf]; omega
        · obtain rfl : S.size = j := by omega
          have HNZ : Hid ((0 : UInt8) ∉ ls.getD k []) := Lib.hid fun hmem => by
            obtain ⟨j, hj, he⟩ := HZ2.out hmem
            exact HJ.out j hj hj he
          clear HJ HZ HZ2
          go_wp2_with fail
          go_loopw [5] (fun v5 wr => ∃ (j q5 : Nat), j ≤ k ∧ v5 = .int .i64 (j : Int) ∧ wr = w1.drewN q5 ∧ Hid (∀ i, i < j → ls.getD i [] ≠ ls.getD k [])) (fun v5 _ => k - (RowKit.intOf v5).toNat)
          case atStart => exact ⟨0, 0, by omega, rfl, rfl, Lib.hid fun i hi => by omega⟩
          case round =>
            obtain ⟨j, q5, hj, rfl, rfl, HJ⟩ := hrel
            by_cases hlj : j < k
            · have e1 := HC1.out j _ (strs_at ls j (by rw [← HN.out]; omega))
              have tq := HQ.out j
              have j1 : (0 : Int) ≤ (j : Int) := by omega
              have j2 : (j : Int) < (n : Int) := by omega
              generalize str (ls.getD j []) = X at e1 tq
              by_cases hx : ls.getD j [] = ls.getD k []
              · have HF : Hid (g = false) := Lib.hid (HBK.out fun h => h.2 j hlj hx)
                rw [decide_eq_true hx] at tq
                clear hx
                go_wp2_with fail
                go_region
                all_goals
                  go_wp2_with fail
                  go_ret
                  rw [HF.out, ← HW.out]
                  exact ⟨rfl, _, by rw [World.drewN_drewN]⟩
              · rw [decide_eq_false hx] at tq
                have HXN := Lib.hid hx
                clear hx
                go_wp2_with fail
                go_region
                all_goals
                  go_wp2_with fail
                  go_roundw
                  case rel => exact ⟨j + 1, _, by omega, by go_num, rfl, Lib.hid fun i hi => by
                    by_cases hij : i = j
                    · rw [hij]; exact HXN.out
                    · exact HJ.out i (by omega)⟩
                  case measure => simp [RowKit.intOf]; omega
            · obtain rfl : k = j := by omega
              have HOK : Hid (okText (ls.getD k []) ∧ (∀ j, j < k → ls.getD j [] ≠ ls.getD k [])) := Lib.hid ⟨⟨by have := HSZ.out; omega, by have := HSZ.out; omega, HNZ.out⟩, HJ.out⟩
              go_wp2_with fail
              go_roundw
              case rel => exact ⟨k + 1, _, by omega, by go_num, by rw [← HW.out, World.drewN_drewN], Lib.hid (HK2.out HOK.out)⟩
              case measure => simp [RowKit.intOf]; omega
    · obtain rfl : n = k := by omega
      have HT : Hid (g = true) := Lib.hid (HG.out.2 ⟨by rw [← HN.out]; omega, by rw [← HN.out]; omega, fun i hi => HK.out i (by rw [HN.out]; exact hi)⟩)
      go_wp2_with fail
      go_ret
      rw [HT.out]
      exact ⟨rfl, _, rfl⟩
def levelB (n : Int) : ByteArray := if n = 0 then ⟨#[101, 97, 114, 108, 121]⟩ else if n = 1 then ⟨#[98, 117, 115]⟩ else if n = 2 then ⟨#[99, 111, 114, 101]⟩ else if n = 3 then ⟨#[100, 101, 118, 105, 99, 101]⟩ else if n = 4 then ⟨#[108, 97, 116, 101]⟩ else ⟨#[]⟩
def levelE (n : Int) : Int := if 4 < n then 1 else 0
end Go.Proofs.Ytnnaoneegeenkaa.Kc
