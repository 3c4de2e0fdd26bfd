/- The contracts of firstByte, unescaped, wordEnd. -/
import Derived.Test.YtaoekpedjgnnjaaDoorWdD
import Derived.Deep.LoopGhost
namespace Go.Proofs.YtaoekpedjgnnjaaDoor.Wd
open Go.ChangeShapes Go.WideShapes Go.ChangeAt Go.RowKit Own Bld Go.Lib Nums

def firstB (l : List UInt8) : UInt8 × Nat :=
  if l.getD 0 0 ≠ 92 ∨ l.length < 2 then (l.getD 0 0, 1)
  else if l.getD 1 0 = 120 ∧ 4 ≤ l.length then
    match readM 255 ((l.drop 2).take 2) with
    | some (some n) => (UInt8.ofNat n, 4)
    | _ => (l.getD 1 0, 2)
  else (l.getD 1 0, 2)
theorem getD_at (s : ByteArray) (k : Nat) (h : k < s.size) : s.data.toList.getD k 0 = s[k] := by
  rw [List.getD_eq_getElem?_getD, List.getElem?_eq_getElem (by have : s.data.toList.length = s.size := rfl; omega)]; rfl
theorem first_bd (l : List UInt8) (h : l ≠ []) : 1 ≤ (firstB l).2 ∧ (firstB l).2 ≤ l.length := by
  have hp := List.length_pos_iff.2 h
  unfold firstB
  split
  · exact ⟨Nat.le_refl _, hp⟩
  · rename_i h1
    have h2 : 2 ≤ l.length := by
      apply Nat.le_of_not_lt
      intro h3
      exact h1 (.inr h3)
    split
    · rename_i h4
      split
      · exact ⟨by simp, h4.2⟩
      · exact ⟨by simp, h2⟩
    · exact ⟨by simp, h2⟩
theorem ret_fb {a b : Int} {m n : Int} (h : a = b) (h2 : m = n) : Ending.returned (.tuple #[.int .u8 a, .int .i64 m]) = .returned (.tuple #[.int .u8 b, .int .i64 n]) := by rw [h, h2]

set_option maxRecDepth 100000 in
set_option maxHeartbeats 2000000 in
theorem firstByte_any (s : ByteArray) (w : World) (hs : s.size ≤ 268435456) (h0 : 0 < s.size) (he : En w) :
    Calls Tryd.prog 63 #[.string s] w fun e w' => e = .returned (.tuple #[.int .u8 ((firstB s.data.toList).1.toNat : Int), .int .i64 ((firstB s.data.toList).2 : Int)]) ∧ Below w.heap.size w w' := by
  have HE := Lib.hid he
  have hz : s.data.toList.length = s.size := rfl
  have g0 := getD_at s 0 h0
  clear he
  by_cases h92 : s[0] = 92
  · have t0 : ((s[0].toNat : Int) != 92) = false := by rw [h92]; rfl
    by_cases h2 : s.size < 2
    · have HV : Hid (firstB s.data.toList = (s[0], 1)) := Lib.hid (by unfold firstB; rw [if_pos (.inr (by rw [hz]; exact h2)), g0])
      have t2 : decide ((s.size : Int) < 2) = true := decide_eq_true (by omega)
      clear g0 hz h92 h2
      go_enter Tryd.func63, Tryd.ntmps63
      go_wp2_with fail
      go_ret2
      rw [HV.out]
      exact ⟨rfl, Below.refl _ _⟩
    · have t2 : decide ((s.size : Int) < 2) = false := decide_eq_false (by omega)
      have h1 : 1 < s.size := by omega
      have g1 := getD_at s 1 h1
      have hn : ¬ (s.data.toList.getD 0 0 ≠ 92 ∨ s.data.toList.length < 2) := by
        rw [g0, hz]
        intro h
        rcases h with h | h
        · exact h h92
        · omega
      by_cases hx : s[1] = 120 ∧ 4 ≤ s.size
      · have t3 : ((s[1].toNat : Int) == 120) = true := by rw [hx.1]; rfl
        have t4 : decide ((4 : Int) ≤ (s.size : Int)) = true := decide_eq_true (by omega)
        have h4 := hx.2
        have HX : Hid (s.extract 2 4 = str ((s.data.toList.drop 2).take 2)) := Lib.hid (ext_part s 2 2)
        have hxs : (str ((s.data.toList.drop 2).take 2)).size ≤ 281474976710656 := by rw [str_size]; simp; omega
        by_cases hok : ∃ n, readM 255 ((s.data.toList.drop 2).take 2) = some (some n)
        · obtain ⟨n, hn2⟩ := hok
          have HV : Hid (firstB s.data.toList = (UInt8.ofNat n, 4)) := Lib.hid (by unfold firstB; rw [if_neg hn, if_pos ⟨by rw [g1]; exact hx.1, by rw [hz]; exact hx.2⟩, hn2])
          have HU : Hid (readM 255 (str ((s.data.toList.drop 2).take 2)).data.toList = some (some n)) := Lib.hid (by rw [str_list]; exact hn2)
          have HNU : Hid ((n : Int) % 256 = ((UInt8.ofNat n).toNat : Int)) := Lib.hid (by simp)
          clear g0 g1 hz h92 h2 hn hx hn2
          go_enter Tryd.func63, Tryd.ntmps63
          go_wp2_with fail
          rw [HX.out]
          refine (uint8_ok _ hxs n HU.out _).mono ?_
          rintro e w2 ⟨rfl, b2⟩
          have B2 := Lib.hid b2
          clear b2
          go_wp2_with fail
          go_ret2
          rw [HV.out]
          exact ⟨ret_fb HNU.out rfl, B2.out⟩
        · have hno : (readM 255 ((s.data.toList.drop 2).take 2)).bind id = none := by
            cases hr : readM 255 ((s.data.toList.drop 2).take 2) with
            | none => rfl
            | some o =>
              cases o with
              | none => rfl
              | some x => exact absurd ⟨x, hr⟩ hok
          have HV : Hid (firstB s.data.toList = (s[1], 2)) := Lib.hid (by
            unfold firstB
            rw [if_neg hn, if_pos ⟨by rw [g1]; exact hx.1, by rw [hz]; exact hx.2⟩]
            split
            · rename_i n hn2
              exact absurd ⟨n, hn2⟩ hok
            · rw [g1])
          have HU : Hid ((readM 255 (str ((s.data.toList.drop 2).take 2)).data.toList).bind id = none) := Lib.hid (by rw [str_list]; exact hno)
          clear g0 g1 hz h92 h2 hn hx hno hok
          go_enter Tryd.func63, Tryd.ntmps63
          go_wp2_with fail
          rw [HX.out]
          refine (uint8_no _ hxs HU.out _ HE.out.er).mono ?_
          rintro e w2 ⟨x, ve, hve, rfl, b2⟩
          obtain ⟨Q, rfl⟩ := hve
          have B2 := Lib.hid b2
          clear b2
          go_wp2_with fail
          go_ret2
          rw [HV.out]
          exact ⟨rfl, B2.out⟩
      · have HV : Hid (firstB s.data.toList = (s[1], 2)) := Lib.hid (by
          unfold firstB
          rw [if_neg hn, if_neg (fun h => hx ⟨by rw [← g1]; exact h.1, by rw [← hz]; exact h.2⟩), g1])
        have hxx : s[1] ≠ 120 ∨ s.size < 4 := by
          by_cases h : s[1] = 120
          · exact .inr (Nat.lt_of_not_le fun h4 => hx ⟨h, h4⟩)
          · exact .inl h
        clear g0 g1 hz h92 h2 hn hx
        by_cases h120 : s[1] = 120
        · have t3 : ((s[1].toNat : Int) == 120) = true := by rw [h120]; rfl
          have h4 : s.size < 4 := by
            rcases hxx with h | h
            · exact absurd h120 h
            · exact h
          have t4 : decide ((4 : Int) ≤ (s.size : Int)) = false := decide_eq_false (by omega)
          clear h120 hxx
          go_enter Tryd.func63, Tryd.ntmps63
          go_wp2_with fail
          go_ret2
          rw [HV.out]
          exact ⟨rfl, Below.refl _ _⟩
        · have t3 : ((s[1].toNat : Int) == 120) = false := by
            rw [beq_eq_false_iff_ne]
            intro h
            exact h120 (UInt8.toNat_inj.1 (by show s[1].toNat = 120; omega))
          clear h120 hxx
          go_enter Tryd.func63, Tryd.ntmps63
          go_wp2_with fail
          go_ret2
          rw [HV.out]
          exact ⟨rfl, Below.refl _ _⟩
  · have HV : Hid (firstB s.data.toList = (s[0], 1)) := Lib.hid (by unfold firstB; rw [if_pos (.inl (by rw [g0]; exact h92)), g0])
    have t0 : ((s[0].toNat : Int) != 92) = true := by
      rw [bne_iff_ne]
      intro h
      exact h92 (UInt8.toNat_inj.1 (by show s[0].toNat = 92; omega))
    clear g0 hz h92
    go_enter Tryd.func63, Tryd.ntmps63
    go_wp2_with fail
    go_ret2
    rw [HV.out]
    exact ⟨rfl, Below.refl _ _⟩

def unF : Nat → List UInt8 → List UInt8
  | 0, _ => []
  | f + 1, l => if l = [] then [] else (firstB l).1 :: unF f (l.drop (firstB l).2)
def unW (l : List UInt8) : List UInt8 := unF l.length l
theorem un_less (l : List UInt8) (h : l ≠ []) : (l.drop (firstB l).2).length < l.length := by
  have h1 := (first_bd l h).1
  have h2 := List.length_pos_iff.2 h
  rw [List.length_drop]
  omega
theorem unF_fuel : ∀ (f : Nat) (l : List UInt8), l.length ≤ f → unF f l = unW l
  | 0, l, h => by
    rw [List.eq_nil_of_length_eq_zero (by omega : l.length = 0)]
    rfl
  | f + 1, l, h => by
    by_cases hl : l = []
    · subst hl
      rfl
    · have hd := un_less l hl
      obtain ⟨n, hn⟩ : ∃ n, l.length = n + 1 := ⟨l.length - 1, by have := List.length_pos_iff.2 hl; omega⟩
      unfold unW
      rw [hn, unF, unF, if_neg hl, if_neg hl, unF_fuel f _ (by omega), unF_fuel n _ (by omega)]
theorem unW_step (l : List UInt8) (hl : l ≠ []) : unW l = (firstB l).1 :: unW (l.drop (firstB l).2) := by
  have hd := un_less l hl
  obtain ⟨n, hn⟩ : ∃ n, l.length = n + 1 := ⟨l.length - 1, by have := List.length_pos_iff.2 hl; omega⟩
  rw [← unF_fuel (n + 1) l (by omega), unF, if_neg hl, unF_fuel n _ (by omega)]
theorem unW_len : ∀ (n : Nat) (l : List UInt8), l.length ≤ n → (unW l).length ≤ l.length
  | 0, l, h => by
    rw [List.eq_nil_of_length_eq_zero (by omega : l.length = 0)]
    simp [unW, unF]
  | n + 1, l, h => by
    by_cases hl : l = []
    · subst hl; simp [unW, unF]
    · have hd := un_less l hl
      have := unW_len n (l.drop (firstB l).2) (by omega)
      rw [unW_step l hl, List.length_cons]
      omega
end Go.Proofs.YtaoekpedjgnnjaaDoor.Wd
