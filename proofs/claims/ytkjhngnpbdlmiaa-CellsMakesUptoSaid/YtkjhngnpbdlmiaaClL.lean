/- The walk of the law on reading. -/
import Derived.Test.YtkjhngnpbdlmiaaClK
namespace Go.Proofs.Ytkjhngnpbdlmiaa.Cl
open Go.ChangeShapes Go.WideShapes Go.ChangeAt Go.RowKit Own

theorem trio_drewN {S : Nat → Prop} {W wr : World} {vb vd vl : Value} {nb nd nl : Nat} (h : Trio S W vb vd vl nb nd nl wr) (n : Nat) : Trio S W vb vd vl nb nd nl (wr.drewN n) := by
  obtain ⟨h1, h2, h3, h4, h5⟩ := h
  exact ⟨h1.drewN n, h2, h3, h4, h5⟩
theorem thirties_n (A B : Option Addr) (c d n : Nat) (xs : List Nat) (w : World) (hn : n = xs.length) (hx : n ≤ 140737488355328) (hA : Src w A n c (nats .u32 xs)) (hB : Src w B n d (nats .u32 xs)) :
    Calls Try.prog 12 #[.slice A n c, .slice B n d] w fun e w' => e = .returned (.bool true) ∧ Drawn w w' := by
  subst hn
  exact thirties_any A B c d xs w hx hA hB
theorem sixties_n (A B : Option Addr) (c d n : Nat) (xs : List Nat) (w : World) (hn : n = xs.length) (hx : n ≤ 140737488355328) (hA : Src w A n c (nats .u64 xs)) (hB : Src w B n d (nats .u64 xs)) :
    Calls Try.prog 13 #[.slice A n c, .slice B n d] w fun e w' => e = .returned (.bool true) ∧ Drawn w w' := by
  subst hn
  exact sixties_any A B c d xs w hx hA hB
theorem textsSame_n (A B : Option Addr) (c d n : Nat) (xs : List ByteArray) (w : World) (hn : n = xs.length) (hx : n ≤ 140737488355328) (hA : Src w A n c (strs xs)) (hB : Src w B n d (strs xs)) :
    Calls Try.prog 14 #[.slice A n c, .slice B n d] w fun e w' => e = .returned (.bool true) ∧ Drawn w w' := by
  subst hn
  exact textsSame_any A B c d xs w hx hA hB
theorem c32_len (l : List UInt8) : (c32 l).length ≤ l.length := by
  unfold c32; split
  · rw [chunk_len]; omega
  · simp
theorem c64_len (l : List UInt8) : (c64 l).length ≤ l.length := by
  unfold c64; split
  · rw [chunk_len]; omega
  · simp
theorem tx_len (l : List UInt8) : (tx l).length ≤ l.length := by
  unfold tx; split
  · rw [List.length_map]; exact split_len l []
  · simp
/-- The blocks beside the three that are spoilt. -/
def Rest (z1 z2 z4 z5 z7 z8 z9 g : Nat) : Prop := g < z9 ∧ (g < z1 ∨ z2 ≤ g) ∧ (g < z4 ∨ z5 ≤ g) ∧ (g < z7 ∨ z8 ≤ g)
theorem rest_lt {z1 z2 z4 z5 z7 z8 z9 : Nat} : ∀ g, Rest z1 z2 z4 z5 z7 z8 z9 g → g < z9 := fun _ h => h.1
theorem off_of {S : Nat → Prop} {w : World} {base : Nat} {E : TypeId} {v : Value} {n : Nat} {xs : List Value} (h : w.ownsRow base E 1 v n xs) (hS : ∀ g, base ≤ g → g < w.heap.size → ¬ S g) : Off S v := fun g hg => hS g (own_int h g hg).1 (own_int h g hg).2

set_option maxRecDepth 100000 in
set_option maxHeartbeats 8000000 in
theorem walkReads (v : ByteArray) (w : World) (hv : v.size ≤ 1048576) :
    Calls Try.prog 3 #[.string v] w fun e w' => e = .returned (.bool true) ∧ Below w.heap.size w w' := by
  have hz : v.data.toList.length = v.size := rfl
  have l32 : (c32 v.data.toList).length ≤ 1048576 := Nat.le_trans (c32_len _) (by rw [hz]; exact hv)
  have l64 : (c64 v.data.toList).length ≤ 1048576 := Nat.le_trans (c64_len _) (by rw [hz]; exact hv)
  have ltx : (tx v.data.toList).length ≤ 1048576 := Nat.le_trans (tx_len _) (by rw [hz]; exact hv)
  clear hz
  go_enter Try.func3, Try.ntmps3
  go_wp2_with fail
  refine (ref32_any v _ hv).mono ?_
  rintro e w1 ⟨A1, n1, c1, hn1, rfl, ho1, hb1⟩
  rw [nats_len] at hn1
  subst hn1
  have HO1 := Lib.hid ho1
  have HB1 := Lib.hid hb1
  have z1 := hb1.size
  clear ho1 hb1
  go_wp2_with fail
  refine (prog32_any v _ hv).mono ?_
  rintro e w2 ⟨A2, n2, c2, hn2, rfl, ho2, hb2⟩
  rw [nats_len] at hn2
  subst hn2
  have HO2 := Lib.hid ho2
  have HB2 := Lib.hid hb2
  have z2 := hb2.size
  clear ho2 hb2
  go_wp2_with fail
  refine (prog32_any v _ hv).mono ?_
  rintro e w3 ⟨A3, n3, c3, hn3, rfl, ho3, hb3⟩
  rw [nats_len] at hn3
  subst hn3
  have HO3 := Lib.hid ho3
  have HB3 := Lib.hid hb3
  have z3 := hb3.size
  clear ho3 hb3
  go_wp2_with fail
  refine (ref64_any v _ hv).mono ?_
  rintro e w4 ⟨A4, n4, c4, hn4, rfl, ho4, hb4⟩
  rw [nats_len] at hn4
  subst hn4
  have HO4 := Lib.hid ho4
  have HB4 := Lib.hid hb4
  have z4 := hb4.size
  clear ho4 hb4
  go_wp2_with fail
  refine (prog64_any v _ hv).mono ?_
  rintro e w5 ⟨A5, n5, c5, hn5, rfl, ho5, hb5⟩
  rw [nats_len] at hn5
  subst hn5
  have HO5 := Lib.hid ho5
  have HB5 := Lib.hid hb5
  have z5 := hb5.size
  clear ho5 hb5
  go_wp2_with fail
  refine (prog64_any v _ hv).mono ?_
  rintro e w6 ⟨A6, n6, c6, hn6, rfl, ho6, hb6⟩
  rw [nats_len] at hn6
  subst hn6
  have HO6 := Lib.hid ho6
  have HB6 := Lib.hid hb6
  have z6 := hb6.size
  clear ho6 hb6
  go_wp2_with fail
  refine (refTexts_any v _ hv).mono ?_
  rintro e w7 ⟨A7, n7, c7, hn7, rfl, ho7, hb7⟩
  rw [strs_len] at hn7
  subst hn7
  have HO7 := Lib.hid ho7
  have HB7 := Lib.hid hb7
  have z7 := hb7.size
  clear ho7 hb7
  go_wp2_with fail
  refine (progTexts_any v _ hv).mono ?_
  rintro e w8 ⟨A8, n8, c8, hn8, rfl, ho8, hb8⟩
  rw [strs_len] at hn8
  subst hn8
  have HO8 := Lib.hid ho8
  have HB8 := Lib.hid hb8
  have z8 := hb8.size
  clear ho8 hb8
  go_wp2_with fail
  refine (progTexts_any v _ hv).mono ?_
  rintro e w9 ⟨A9, n9, c9, hn9, rfl, ho9, hb9⟩
  rw [strs_len] at hn9
  subst hn9
  have HO9 := Lib.hid ho9
  have HB9 := Lib.hid hb9
  have z9 := hb9.size
  clear ho9 hb9
  have B9 := Below.refl w9.heap.size w9
  have B8 := HB9.out.trans (B9.mono z9)
  have B7 := HB8.out.trans (B8.mono z8)
  have B6 := HB7.out.trans (B7.mono z7)
  have B5 := HB6.out.trans (B6.mono z6)
  have B4 := HB5.out.trans (B5.mono z5)
  have B3 := HB4.out.trans (B4.mono z4)
  have B2 := HB3.out.trans (B3.mono z3)
  have B1 := HB2.out.trans (B2.mono z2)
  have M1 := made_src HO1.out B1
  have M2 := made_src HO2.out B2
  have M3 := made_src HO3.out B3
  have M4 := made_src HO4.out B4
  have M5 := made_src HO5.out B5
  have M6 := made_src HO6.out B6
  have M7 := made_src HO7.out B7
  have M8 := made_src HO8.out B8
  have M9 := made_src HO9.out B9
  have hB0 := Lib.hid (HB1.out.trans (B1.mono z1))
  obtain ⟨S, hSdef⟩ : ∃ S : Nat → Prop, S = Rest w1.heap.size w2.heap.size w4.heap.size w5.heap.size w7.heap.size w8.heap.size w9.heap.size := ⟨_, rfl⟩
  have hS : Hid (∀ g, S g → g < w9.heap.size) := Lib.hid (by rw [hSdef]; exact rest_lt)
  have hS0 : Hid (∀ g, g < w.heap.size → S g) := Lib.hid (by
    intro g hg
    rw [hSdef]
    unfold Rest
    omega)
  have F1 : Hid (Src w9 A1 (c32 v.data.toList).length c1 (nats .u32 (c32 v.data.toList)) ∧ ∀ ad, A1 = some ad → S ad.block) := Lib.hid ⟨M1.1, fun ad hA => by
    have := M1.2 ad hA
    rw [hSdef]
    unfold Rest
    omega⟩
  have F3 : Hid (Src w9 A3 (c32 v.data.toList).length c3 (nats .u32 (c32 v.data.toList)) ∧ ∀ ad, A3 = some ad → S ad.block) := Lib.hid ⟨M3.1, fun ad hA => by
    have := M3.2 ad hA
    rw [hSdef]
    unfold Rest
    omega⟩
  have F4 : Hid (Src w9 A4 (c64 v.data.toList).length c4 (nats .u64 (c64 v.data.toList)) ∧ ∀ ad, A4 = some ad → S ad.block) := Lib.hid ⟨M4.1, fun ad hA => by
    have := M4.2 ad hA
    rw [hSdef]
    unfold Rest
    omega⟩
  have F6 : Hid (Src w9 A6 (c64 v.data.toList).length c6 (nats .u64 (c64 v.data.toList)) ∧ ∀ ad, A6 = some ad → S ad.block) := Lib.hid ⟨M6.1, fun ad hA => by
    have := M6.2 ad hA
    rw [hSdef]
    unfold Rest
    omega⟩
  have F7 : Hid (Src w9 A7 (tx v.data.toList).length c7 (strs (tx v.data.toList)) ∧ ∀ ad, A7 = some ad → S ad.block) := Lib.hid ⟨M7.1, fun ad hA => by
    have := M7.2 ad hA
    rw [hSdef]
    unfold Rest
    omega⟩
  have F9 : Hid (Src w9 A9 (tx v.data.toList).length c9 (strs (tx v.data.toList)) ∧ ∀ ad, A9 = some ad → S ad.block) := Lib.hid ⟨M9.1, fun ad hA => by
    have := M9.2 ad hA
    rw [hSdef]
    unfold Rest
    omega⟩
  have F2 : Hid (Src w9 A2 (c32 v.data.toList).length c2 (nats .u32 (c32 v.data.toList))) := Lib.hid M2.1
  have F5 : Hid (Src w9 A5 (c64 v.data.toList).length c5 (nats .u64 (c64 v.data.toList))) := Lib.hid M5.1
  have F8 : Hid (Src w9 A8 (tx v.data.toList).length c8 (strs (tx v.data.toList))) := Lib.hid M8.1
  have HT : Hid (Trio S w9 (.slice A2 (c32 v.data.toList).length c2) (.slice A5 (c64 v.data.toList).length c5) (.slice A8 (tx v.data.toList).length c8) (c32 v.data.toList).length (c64 v.data.toList).length (tx v.data.toList).length w9) := Lib.hid (by
    refine ⟨Keeps.refl _ _, ⟨_, by rw [← ints_nats]; exact own_base (own_below HO2.out B2 (Nat.le_refl _)) (Nat.zero_le _)⟩, ⟨_, by rw [← ints_nats]; exact own_base (own_below HO5.out B5 (Nat.le_refl _)) (Nat.zero_le _)⟩, ⟨_, own_base (own_below HO8.out B8 (Nat.le_refl _)) (Nat.zero_le _)⟩, off_of HO2.out ?_, off_of HO5.out ?_, off_of HO8.out ?_⟩
    all_goals
      intro g h1 h2
      rw [hSdef]
      unfold Rest
      omega)
  clear hSdef HO1 HO2 HO3 HO4 HO5 HO6 HO7 HO8 HO9 HB1 HB2 HB3 HB4 HB5 HB6 HB7 HB8 HB9 B1 B2 B3 B4 B5 B6 B7 B8 B9 M1 M2 M3 M4 M5 M6 M7 M8 M9 z1 z2 z3 z4 z5 z6 z7 z8 z9
  go_wp2_with fail
  refine (thirties_any A1 A2 c1 c2 (c32 v.data.toList) w9 (by omega) F1.out.1 F2.out).mono ?_
  rintro e wx ⟨rfl, q1, rfl⟩
  go_wp2_with fail
  refine (sixties_any A4 A5 c4 c5 (c64 v.data.toList) _ (by omega) (F4.out.1.drewN _) (F5.out.drewN _)).mono ?_
  rintro e wx ⟨rfl, q2, rfl⟩
  go_wp2_with fail
  refine (textsSame_any A7 A8 c7 c8 (tx v.data.toList) _ (by omega) (F7.out.1.drewN _) (F8.out.drewN _)).mono ?_
  rintro e wx ⟨rfl, q3, rfl⟩
  clear F2 F5 F8
  go_wp2_with fail
  generalize hX : (c32 v.data.toList).length = nb at l32 HT ⊢
  generalize hY : (c64 v.data.toList).length = nd at l64 HT ⊢
  generalize hZ : (tx v.data.toList).length = nl at ltx HT ⊢
  have HX := Lib.hid hX
  have HY := Lib.hid hY
  have HZ := Lib.hid hZ
  clear hX hY hZ
  go_loopw [21] (fun i wr => ∃ k : Nat, k ≤ nb ∧ i = .int .i64 k ∧ Trio S w9 (.slice A2 nb c2) (.slice A5 nd c5) (.slice A8 nl c8) nb nd nl wr) (fun i _ => nb - (intOf i).toNat)
  case atStart => exact ⟨0, by omega, rfl, trio_drewN HT.out _⟩
  case round =>
    obtain ⟨k, hk, rfl, htr⟩ := hrel
    have HR := Lib.hid htr
    clear htr
    by_cases hlt : k < nb
    · obtain ⟨_, ⟨zb, hb⟩, _⟩ := HR.out
      obtain ⟨g, cap, hv2, _, _⟩ := hb.form (by omega)
      injection hv2 with hA _ hc
      subst hA hc
      have hzl : zb.length = nb := by have := hb.1; rw [ints_len] at this; omega
      have e1 : wr.cell? ⟨g, k, none⟩ = some (.int .u32 (zb.getD k 0)) := by rw [hb.cellAt k (by omega), ints_at .u32 zb k (by omega)]
      have e2 := hb.frozenAt k
      generalize zb.getD k 0 = z at e1
      clear hb hzl
      go_wp2_with fail
      go_roundw
      case rel => exact ⟨k + 1, by omega, by go_num, trio_set_b hS.out HR.out k _⟩
      case measure => simp [intOf]; omega
    · obtain rfl : nb = k := by omega
      clear hk hlt
      go_wp2_with fail
      go_loopw [22] (fun i wr => ∃ k : Nat, k ≤ nd ∧ i = .int .i64 k ∧ Trio S w9 (.slice A2 nb c2) (.slice A5 nd c5) (.slice A8 nl c8) nb nd nl wr) (fun i _ => nd - (intOf i).toNat)
      case atStart => exact ⟨0, by omega, rfl, HR.out⟩
      case round =>
        clear HR
        obtain ⟨k, hk, rfl, htr⟩ := hrel
        have HR := Lib.hid htr
        clear htr
        by_cases hlt : k < nd
        · obtain ⟨_, _, ⟨zd, hb⟩, _⟩ := HR.out
          obtain ⟨g, cap, hv2, _, _⟩ := hb.form (by omega)
          injection hv2 with hA _ hc
          subst hA hc
          have hzl : zd.length = nd := by have := hb.1; rw [ints_len] at this; omega
          have e1 : wr.cell? ⟨g, k, none⟩ = some (.int .u64 (zd.getD k 0)) := by rw [hb.cellAt k (by omega), ints_at .u64 zd k (by omega)]
          have e2 := hb.frozenAt k
          generalize zd.getD k 0 = z at e1
          clear hb hzl
          go_wp2_with fail
          go_roundw
          case rel => exact ⟨k + 1, by omega, by go_num, trio_set_d hS.out HR.out k _⟩
          case measure => simp [intOf]; omega
        · obtain rfl : nd = k := by omega
          clear hk hlt
          go_wp2_with fail
          go_loopw [23] (fun i wr => ∃ k : Nat, k ≤ nl ∧ i = .int .i64 k ∧ Trio S w9 (.slice A2 nb c2) (.slice A5 nd c5) (.slice A8 nl c8) nb nd nl wr) (fun i _ => nl - (intOf i).toNat)
          case atStart => exact ⟨0, by omega, rfl, HR.out⟩
          case round =>
            clear HR
            obtain ⟨k, hk, rfl, htr⟩ := hrel
            have HR := Lib.hid htr
            clear htr
            by_cases hlt : k < nl
            · obtain ⟨_, _, _, ⟨ts, hb⟩, _⟩ := HR.out
              obtain ⟨g, cap, hv2, _, _⟩ := hb.form (by omega)
              injection hv2 with hA _ hc
              subst hA hc
              have hzl : ts.length = nl := by have := hb.1; rw [strs_len] at this; omega
              have e1 : wr.cell? ⟨g, k, none⟩ = some (.string (ts.getD k ByteArray.empty)) := by rw [hb.cellAt k (by omega), strs_at ts k (by omega)]
              have e2 := hb.frozenAt k
              generalize ts.getD k ByteArray.empty = z at e1
              clear hb hzl
              go_wp2_with fail
              go_roundw
              case rel => exact ⟨k + 1, by omega, by go_num, trio_set_l hS.out HR.out k _⟩
              case measure => simp [intOf]; omega
            · obtain rfl : nl = k := by omega
              clear hk hlt
              go_wp2_with fail
              go_loopw [5, 11, 17, 24] (fun sb sd sl i wr => ∃ k mb md ml : Nat, k ≤ 20 ∧ i = .int .i64 k ∧ mb ≤ 1048576 + k ∧ md ≤ 1048576 + k ∧ ml ≤ 1048576 + k ∧ Trio S w9 sb sd sl mb md ml wr) (fun _ _ _ i _ => 20 - (intOf i).toNat)
              case atStart => exact ⟨0, nb, nd, nl, by omega, rfl, by omega, by omega, by omega, HR.out⟩
              case round =>
                clear HR
                obtain ⟨k, mb, md, ml, hk, rfl, hmb, hmd, hml, htr⟩ := hrel
                have HR := Lib.hid htr
                clear htr
                by_cases hlt : k < 20
                · obtain ⟨_, ⟨zb, hob⟩, _⟩ := HR.out
                  have HOB := Lib.hid hob
                  clear hob
                  have tok1 : True := trivial
                  go_wp2_with (first
                    | (at_builtin; have tk := tok1; go_must (refine wpList_append_src_at rfl (.tmp 150) (.tmp 151) 22 rfl 0 35 (.int .u32 0) 4 Try.underlying22 info_u32 rfl _ mb _ rfl (HOB.out.alloc _) _ 1 1 [.int .u32 7] rfl (src_new _ _ _) (by intro u hu; simp at hu; subst hu; rfl) (by omega) (by omega) (by simp) ?_); intro vb2 wn hown1 hg1 hv1; clear tok1 tk; rw [ints_snoc] at hown1; have HR1 := Lib.hid (trio_app_b hS.out HR.out _ hown1 hg1 hv1); clear hown1 hg1 hv1 HR HOB; obtain ⟨_, _, ⟨zd, hod⟩, _⟩ := HR1.out; have HOD := Lib.hid hod; clear hod; have tok2 : True := trivial)
                    | (at_builtin; have tk := tok2; go_must (refine wpList_append_src_at rfl (.tmp 153) (.tmp 154) 26 rfl 0 36 (.int .u64 0) 8 Try.underlying26 info_u64 rfl _ md _ rfl (HOD.out.alloc _) _ 1 1 [.int .u64 7] rfl (src_new _ _ _) (by intro u hu; simp at hu; subst hu; rfl) (by omega) (by omega) (by simp) ?_); intro vd2 wn hown1 hg1 hv1; clear tok2 tk; rw [ints_snoc] at hown1; have HR2 := Lib.hid (trio_app_d hS.out HR1.out _ hown1 hg1 hv1); clear hown1 hg1 hv1 HR1 HOD; obtain ⟨_, _, _, ⟨ts, hol⟩, _⟩ := HR2.out; have HOL := Lib.hid hol; clear hol; have tok3 : True := trivial)
                    | (at_builtin; have tk := tok3; go_must (refine wpList_append_src_at rfl (.tmp 156) (.tmp 157) 29 rfl 0 9 (.string ByteArray.empty) 16 Try.underlying29 info_str rfl _ ml _ rfl (HOL.out.alloc _) _ 1 1 [.string ⟨#[98, 101, 104, 105, 110, 100]⟩] rfl (src_new _ _ _) (by intro u hu; simp at hu; subst hu; rfl) (by omega) (by omega) (by simp) ?_); intro vl2 wn hown1 hg1 hv1; clear tok3 tk; rw [strs_snoc'] at hown1; have HR3 := Lib.hid (trio_app_l hS.out HR2.out _ hown1 hg1 hv1); clear hown1 hg1 hv1 HR2 HOL))
                  go_roundw
                  case rel => exact ⟨k + 1, mb + 1, md + 1, ml + 1, by omega, by go_num, by omega, by omega, by omega, HR3.out⟩
                  case measure => simp [intOf]; omega
                · obtain rfl : 20 = k := by omega
                  obtain ⟨hkp, _⟩ := HR.out
                  have KP := Lib.hid hkp
                  clear hkp hk hlt HR
                  have G1 := Lib.hid (src_keeps F1.out.1 KP.out F1.out.2)
                  have G3 := Lib.hid (src_keeps F3.out.1 KP.out F3.out.2)
                  have G4 := Lib.hid (src_keeps F4.out.1 KP.out F4.out.2)
                  have G6 := Lib.hid (src_keeps F6.out.1 KP.out F6.out.2)
                  have G7 := Lib.hid (src_keeps F7.out.1 KP.out F7.out.2)
                  have G9 := Lib.hid (src_keeps F9.out.1 KP.out F9.out.2)
                  have BE := Lib.hid (hB0.out.trans (KP.out.below hS0.out))
                  clear F1 F3 F4 F6 F7 F9 KP
                  rw [HX.out] at G1 G3
                  rw [HY.out] at G4 G6
                  rw [HZ.out] at G7 G9
                  have BS := BE.out.size
                  go_wp2_with fail
                  refine (thirties_n A1 A3 c1 c3 nb (c32 v.data.toList) _ HX.out.symm (by omega) G1.out G3.out).mono ?_
                  rintro e wx ⟨rfl, p1, rfl⟩
                  go_wp2_with fail
                  refine (sixties_n A4 A6 c4 c6 nd (c64 v.data.toList) _ HY.out.symm (by omega) (G4.out.drewN _) (G6.out.drewN _)).mono ?_
                  rintro e wx ⟨rfl, p2, rfl⟩
                  go_wp2_with fail
                  refine (textsSame_n A7 A9 c7 c9 nl (tx v.data.toList) _ HZ.out.symm (by omega) (G7.out.drewN _) (G9.out.drewN _)).mono ?_
                  rintro e wx ⟨rfl, p3, rfl⟩
                  go_wp2_with fail
                  refine (refOne_any v _ hv).mono ?_
                  rintro e x1 ⟨rfl, y1⟩
                  have Y1 := Lib.hid y1
                  have t1 := y1.size
                  clear y1
                  go_wp2_with fail
                  refine (progOne_any v _).mono ?_
                  rintro e x2 ⟨rfl, y2⟩
                  have Y2 := Lib.hid y2
                  have t2 := y2.size
                  clear y2
                  go_wp2_with fail
                  refine (refText_any v _ hv).mono ?_
                  rintro e x3 ⟨rfl, y3⟩
                  have Y3 := Lib.hid y3
                  have t3 := y3.size
                  clear y3
                  go_wp2_with fail
                  refine (progText_any v _ hv).mono ?_
                  rintro e x4 ⟨rfl, y4⟩
                  have Y4 := Lib.hid y4
                  have t4 := y4.size
                  clear y4
                  go_wp2_with fail
                  refine (progLook_any v _ hv).mono ?_
                  rintro e x5 ⟨rfl, y5⟩
                  have Y5 := Lib.hid y5
                  have t5 := y5.size
                  clear y5
                  go_wp2_with fail
                  refine (refLook_any v _ hv).mono ?_
                  rintro e x6 ⟨rfl, y6⟩
                  have Y6 := Lib.hid y6
                  have t6 := y6.size
                  clear y6
                  go_wp2_with fail
                  go_ret
                  have u1 := (below_drewN BE.out _).trans (Y1.out.mono BS)
                  have u2 := u1.trans (Y2.out.mono u1.size)
                  have u3 := u2.trans (Y3.out.mono u2.size)
                  have u4 := u3.trans (Y4.out.mono u3.size)
                  have u5 := u4.trans (Y5.out.mono u4.size)
                  exact ⟨rfl, u5.trans (Y6.out.mono u5.size)⟩
end Go.Proofs.Ytkjhngnpbdlmiaa.Cl
