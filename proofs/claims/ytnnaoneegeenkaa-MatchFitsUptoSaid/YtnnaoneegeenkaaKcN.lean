/- The program's isName, areTexts, mayBe. -/
import Derived.Test.YtnnaoneegeenkaaKcM
import Derived.Test.YtnnaoneegeenkaaNm3
import Derived.Lib.IndexLaws
import Derived.Lib.SlicesS
namespace Go.Proofs.Ytnnaoneegeenkaa.Kc
open Go.ChangeShapes Go.WideShapes Go.ChangeAt Go.RowKit Own Ro wordsNames

theorem ix_any (c : Int) (b : Bool) (w : World) (h0 : 0 ≤ c) (h1 : c ≤ 255) (h : ((decide (97 ≤ c) && decide (c ≤ 122)) || (decide (48 ≤ c) && decide (c ≤ 57))) = false) (hb : nb c = b) :
    Calls Try.prog 37 #[.string ⟨#[44, 46, 95, 43, 45, 64, 35, 63]⟩, .int .u8 c] w fun e w' => ∃ z : Int, e = .returned (.int .i64 z) ∧ decide (0 ≤ z) = b ∧ w' = w := by
  refine (Try.strings_IndexByte _ _ _).mono ?_
  rintro e w' ⟨rfl, rfl⟩
  exact ⟨_, rfl, by rw [← hb]; exact nb_ix c h0 h1 h, rfl⟩
set_option maxHeartbeats 1000000 in
theorem isName_any (s : ByteArray) (w : World) (hs : s.size ≤ maxLen) :
    Calls Try.prog 32 #[.string s] w fun e w' => e = .returned (.bool (isName s.data.toList)) ∧ w = w' := by
  unfold maxLen at hs
  by_cases h1 : s.size < 1
  · have hn := Lib.hid (not_name_len s (Or.inl h1))
    go_enter Try.func32, Try.ntmps32
    go_wp2
    go_ret
    exact ⟨ret_bool hn.out.symm, rfl⟩
  by_cases h2 : 31 < s.size
  · have hn := Lib.hid (not_name_len s (Or.inr h2))
    go_enter Try.func32, Try.ntmps32
    go_wp2
    go_ret
    exact ⟨ret_bool hn.out.symm, rfl⟩
  go_enter Try.func32, Try.ntmps32
  go_wp2
  go_loop [15] (fun i => ∃ k : Nat, k ≤ s.size ∧ i = .int .i64 k ∧ (s.data.toList.take k).all (fun c => nb (c.toNat : Int)) = true) (fun i => s.size - (intOf i).toNat)
  case atStart => exact ⟨0, Nat.zero_le _, rfl, rfl⟩
  case round =>
    obtain ⟨k, hk, rfl, ha⟩ := hrel
    have HA := Lib.hid ha
    clear ha
    by_cases hlt : k < s.size
    · have hb := s[k].toNat_lt
      have HS := Lib.hid (all_snoc s k hlt)
      have HNN := Lib.hid (not_name s k hlt)
      by_cases hld : ((decide (97 ≤ (s[k].toNat : Int)) && decide ((s[k].toNat : Int) ≤ 122)) || (decide (48 ≤ (s[k].toNat : Int)) && decide ((s[k].toNat : Int) ≤ 57))) = true
      · have HB : Hid (nb (s[k].toNat : Int) = true) := Lib.hid (by unfold nb; rw [hld]; rfl)
        by_cases ha : 97 ≤ (s[k].toNat : Int)
        · have hb2 : (s[k].toNat : Int) ≤ 122 := by simp at hld; omega
          clear hld
          go_wp2
          go_round
          case rel => exact ⟨k + 1, by omega, by go_num, by rw [HS.out, HA.out, HB.out]; rfl⟩
          case measure => simp [intOf]; omega
        · have hc : 48 ≤ (s[k].toNat : Int) ∧ (s[k].toNat : Int) ≤ 57 := by simp at hld; omega
          obtain ⟨hc, hd⟩ := hc
          clear hld
          go_wp2
          go_round
          case rel => exact ⟨k + 1, by omega, by go_num, by rw [HS.out, HA.out, HB.out]; rfl⟩
          case measure => simp [intOf]; omega
      · have HI := Lib.hid fun W b => ix_any (s[k].toNat : Int) b W (by omega) (by omega) (by simpa using hld)
        cases hnb : nb (s[k].toNat : Int)
        all_goals
          have HB := Lib.hid hnb
          have HIX := Lib.hid fun W => HI.out W _ hnb
          clear hnb HI
          by_cases ha : 97 ≤ (s[k].toNat : Int)
          case' pos =>
            have ha2 : 48 ≤ (s[k].toNat : Int) := by omega
            have hb2 : ¬ (s[k].toNat : Int) ≤ 122 := by simp at hld; omega
            have hd2 : ¬ (s[k].toNat : Int) ≤ 57 := by omega
          case' neg =>
            by_cases hc : 48 ≤ (s[k].toNat : Int)
            case' pos => have hd2 : ¬ (s[k].toNat : Int) ≤ 57 := by simp at hld; omega
        all_goals
          clear hld
          go_wp2_with (go_at_call 37; refine (HIX.out _).mono ?_; rintro e w' ⟨z, rfl, tz, rfl⟩)
          first
            | (go_ret
               exact ⟨ret_bool (HNN.out HB.out).symm, rfl⟩)
            | (go_round
               case rel => exact ⟨k + 1, by omega, by go_num, by rw [HS.out, HA.out, HB.out]; rfl⟩
               case measure => simp [intOf]; omega)
    · have HN := Lib.hid (name_of s (by omega) (by omega) k hlt HA.out)
      go_wp2
      go_ret
      exact ⟨ret_bool HN.out.symm, rfl⟩
theorem ixb (l : List UInt8) (c : UInt8) : 0 ≤ Lib.indexByte l c ↔ c ∈ l := by
  constructor
  · intro h
    obtain ⟨o, ho⟩ : ∃ o : Nat, Lib.indexByte l c = o := ⟨(Lib.indexByte l c).toNat, by omega⟩
    exact List.mem_of_getElem? (Lib.indexByte_some ho).1
  · intro h
    have h1 := Lib.indexByte_ge l c
    by_cases h2 : Lib.indexByte l c = -1
    · obtain ⟨k, hk⟩ := List.mem_iff_getElem?.1 h
      exact absurd hk (Lib.indexByte_none h2 k)
    · omega
theorem zero_any (s : List UInt8) (b : Bool) (w : World) (hb : b = true ↔ (0 : UInt8) ∈ s) :
    Calls Try.prog 37 #[.string (str s), .int .u8 0] w fun e w' => ∃ z : Int, e = .returned (.int .i64 z) ∧ decide (0 ≤ z) = b ∧ w' = w := by
  refine (Try.strings_IndexByte _ _ _).mono ?_
  rintro e w' ⟨rfl, rfl⟩
  refine ⟨_, rfl, ?_, rfl⟩
  rw [Bool.eq_iff_iff, decide_eq_true_eq, hb]
  exact ixb s 0
theorem str_inj {a b : List UInt8} (h : str a = str b) : a = b := by
  have := congrArg (fun x : ByteArray => x.data.toList) h
  exact this
/-- slices.Contains of the first k texts. -/
theorem has_any (b o n c k : Nat) (ls : List (List UInt8)) (x : List UInt8) (g : Bool) (w : World) (hn : n = ls.length) (hnb : n ≤ 1099511627776) (hk : k ≤ n) (hc : ∀ j u, (strs ls)[j]? = some u → w.cell? ⟨b, o + j, none⟩ = some u) (hg : g = true ↔ ∃ j, j < k ∧ ls.getD j [] = x) :
    Calls Try.prog 38 #[.slice (some ⟨b, o, none⟩) k c, .string (str x)] w fun e w' => e = .returned (.bool g) ∧ w' = w := by
  refine (Try.slices_Contains_string b o k c (ls.map str) (str x) w (by simp; omega) (by omega) fun j hj => ?_).mono ?_
  · have hj' : j < ls.length := by simpa using hj
    rw [hc j _ (strs_at ls j hj')]
    congr 2
    rw [List.getD_eq_getElem?_getD, List.getD_eq_getElem?_getD, List.getElem?_map, List.getElem?_eq_getElem hj']
    rfl
  · rintro e w' ⟨rfl, rfl⟩
    refine ⟨?_, rfl⟩
    have : Lib.containsS ((ls.map str).take k) (str x) = g := by
      rw [Bool.eq_iff_iff, Lib.containsS_iff, hg]
      constructor
      · intro hm
        obtain ⟨j, hj⟩ := List.mem_iff_getElem?.1 hm
        rw [List.getElem?_take] at hj
        split at hj
        · next hjk =>
          rw [List.getElem?_map, some_at ls [] j (by omega)] at hj
          injection hj with hj
          exact ⟨j, hjk, str_inj hj⟩
        · cases hj
      · rintro ⟨j, hj, rfl⟩
        refine List.mem_iff_getElem?.2 ⟨j, ?_⟩
        rw [List.getElem?_take, if_pos hj, List.getElem?_map, some_at ls [] j (by omega)]
        rfl
    rw [this]
set_option maxRecDepth 100000 in
set_option maxHeartbeats 4000000 in
theorem areTexts_any (A : Option Addr) (c n : Nat) (ls : List (List UInt8)) (g : Bool) (w : World) (hg : g = true ↔ TextsOk ls) (hn : n = ls.length) (hm : MildT 1099511627776 ls) (hcap : n ≤ c) (hs : CellsIn w 1 A n (strs ls)) :
    Calls Try.prog 33 #[.slice A n c] w fun e w' => e = .returned (.bool g) ∧ ∃ q, w' = w.drewN q := by
  have hnb : n ≤ 1099511627776 := by have := hm.1; omega
  have HN := Lib.hid hn
  have HG := Lib.hid hg
  have HM := Lib.hid hm
  have GA := Lib.hid hs
  clear hn hg hm hs
  by_cases h1 : n < 1
  · have HF : Hid (g = false) := Lib.hid (Bool.eq_false_iff.2 fun e => by have := (HG.out.1 e).1; have := HN.out; omega)
    go_enter Try.func33, Try.ntmps33
    go_wp2_with fail
    go_ret
    rw [HF.out]
    exact ⟨rfl, 0, rfl⟩
  by_cases h2 : 8 < n
  · have HF : Hid (g = false) := Lib.hid (Bool.eq_false_iff.2 fun e => by have := (HG.out.1 e).2.1; have := HN.out; omega)
    go_enter Try.func33, Try.ntmps33
    go_wp2_with fail
    go_ret
    rw [HF.out]
    exact ⟨rfl, 0, rfl⟩
  obtain ⟨b, o, rfl, hbs, hc⟩ := GA.out.at (by omega)
  have HC := Lib.hid hc
  have HB : Hid (∀ i, i < n → ¬ (okText (ls.getD i []) ∧ ∀ k, k < i → ls.getD k [] ≠ ls.getD i []) → g = false) := Lib.hid fun i hi hno => Bool.eq_false_iff.2 fun e => hno ((HG.out.1 e).2.2 i (by rw [← HN.out]; exact hi))
  clear hc
  go_enter Try.func33, Try.ntmps33
  go_wp2_with fail
  go_loopw [15] (fun v15 wr => ∃ (k : Nat), k ≤ n ∧ v15 = .int .i64 (k : Int) ∧ wr = w ∧ Hid (∀ i, i < k → okText (ls.getD i []) ∧ ∀ j, j < i → ls.getD j [] ≠ ls.getD i [])) (fun v15 _ => n - (RowKit.intOf v15).toNat)
  case atStart => exact ⟨0, by omega, rfl, rfl, Lib.hid fun i hi => by omega⟩
  case round =>
    obtain ⟨k, hk, rfl, rfl, HK⟩ := hrel
    by_cases hlt : k < n
    · have e0 := HC.out k _ (strs_at ls k (by rw [← HN.out]; exact hlt))
      have HBK := Lib.hid (HB.out k hlt)
      obtain ⟨gz, hgz⟩ := bool_ex ((0 : UInt8) ∈ ls.getD k [])
      obtain ⟨gh, hgh⟩ := bool_ex (∃ j, j < k ∧ ls.getD j [] = ls.getD k [])
      have HZ := Lib.hid fun W => zero_any (ls.getD k []) gz W hgz
      have HH := Lib.hid (has_any b o n c k ls (ls.getD k []) gh wr HN.out hnb hk HC.out hgh)
      have HGZ := Lib.hid hgz
      have HGH := Lib.hid hgh
      have hml := HM.out.2 k
      have hsz : (str (ls.getD k [])).size = (ls.getD k []).length := rfl
      have HSZ := Lib.hid hsz
      have hS : (str (ls.getD k [])).size ≤ 1099511627776 := by omega
      have HK2 : Hid (okText (ls.getD k []) ∧ (∀ j, j < k → ls.getD j [] ≠ ls.getD k []) → ∀ i, i < k + 1 → okText (ls.getD i []) ∧ ∀ j, j < i → ls.getD j [] ≠ ls.getD i []) := Lib.hid fun h i hi => by
        by_cases hik : i = k
        · rw [hik]; exact h
        · exact HK.out i (by omega)
      clear hgz hgh hml hsz
      generalize str (ls.getD k []) = S at e0 HZ HH HSZ hS
      have k1 : (0 : Int) ≤ (k : Int) := by omega
      have k2 : (k : Int) < (n : Int) := by omega
      have k3 : (k : Int) ≤ (c : Int) := by omega
      by_cases s1 : S.size < 1
      · have HF : Hid (g = false) := Lib.hid (HBK.out fun h => by have := h.1.1; have := HSZ.out; omega)
        go_wp2_with fail
        go_ret
        rw [HF.out]
        exact ⟨rfl, 0, rfl⟩
      by_cases s2 : 63 < S.size
      · have HF : Hid (g = false) := Lib.hid (HBK.out fun h => by have := h.1.2.1; have := HSZ.out; omega)
        go_wp2_with fail
        go_ret
        rw [HF.out]
        exact ⟨rfl, 0, rfl⟩
      cases gz with
      | true =>
        have HF : Hid (g = false) := Lib.hid (HBK.out fun h => h.1.2.2 (HGZ.out.1 rfl))
        go_wp2_with (go_at_call 37; refine (HZ.out _).mono ?_; rintro e w' ⟨z, rfl, tz, rfl⟩)
        go_ret
        rw [HF.out]
        exact ⟨rfl, 0, rfl⟩
      | false =>
        cases gh with
        | true =>
          have HF : Hid (g = false) := Lib.hid (HBK.out fun h => by
            obtain ⟨j, hj, he⟩ := HGH.out.1 rfl
            exact h.2 j hj he)
          go_wp2_with (first
            | (go_at_call 37; refine (HZ.out _).mono ?_; rintro e w' ⟨z, rfl, tz, rfl⟩)
            | (go_at_call 38; refine HH.out.mono ?_; rintro e w' ⟨rfl, rfl⟩))
          go_ret
          rw [HF.out]
          exact ⟨rfl, 0, rfl⟩
        | false =>
          have HOK : Hid (okText (ls.getD k []) ∧ (∀ j, j < k → ls.getD j [] ≠ ls.getD k [])) := Lib.hid ⟨⟨by have := HSZ.out; omega, by have := HSZ.out; omega, fun h => by cases HGZ.out.2 h⟩, fun j hj he => by cases HGH.out.2 ⟨j, hj, he⟩⟩
          go_wp2_with (first
            | (go_at_call 37; refine (HZ.out _).mono ?_; rintro e w' ⟨z, rfl, tz, rfl⟩)
            | (go_at_call 38; refine HH.out.mono ?_; rintro e w' ⟨rfl, rfl⟩))
          go_roundw
          case rel => exact ⟨k + 1, by omega, by go_num, trivial, Lib.hid (HK2.out HOK.out)⟩
          case measure => simp [RowKit.intOf]; omega
    · obtain rfl : n = k := by omega
      have HT : Hid (g = true) := Lib.hid (HG.out.2 ⟨by rw [← HN.out]; omega, by rw [← HN.out]; omega, fun i hi => HK.out i (by rw [HN.out]; exact hi)⟩)
      go_wp2_with fail
      go_ret
      rw [HT.out]
      exact ⟨rfl, 0, rfl⟩
end Go.Proofs.Ytnnaoneegeenkaa.Kc
