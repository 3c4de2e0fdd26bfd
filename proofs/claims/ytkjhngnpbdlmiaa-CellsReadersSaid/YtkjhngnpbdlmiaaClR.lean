/- The walk of the law on readers. -/
import Derived.Test.YtkjhngnpbdlmiaaClD
import Derived.Deep.QuietTactic
import Derived.BigQuiet
import Derived.Deep.DeepCutAuto
import Derived.Deep.LoopGhost
import Derived.Deep.CutBlock
namespace Go.Proofs.Ytkjhngnpbdlmiaa.Cl
open Go.ChangeShapes Go.WideShapes Go.ChangeAt Go.RowKit

/-- The asks that a slice of them holds. -/
def Asks (w : World) (B : Nat) (A : Option Addr) (len : Nat) (ks ns : Nat → Int) : Prop :=
  0 < len → ∃ b off, A = some ⟨b, off, none⟩ ∧ b < B ∧ ∀ i, i < len → w.cell? ⟨b, off + i * 2, none⟩ = some (.int .i64 (ks i)) ∧ w.cell? ⟨b, off + i * 2 + 1, none⟩ = some (.int .i64 (ns i))
theorem new_ex (s : ByteArray) (w : World) :
    Calls Try.prog 27 #[.string s] w fun e w' => ∃ r g, e = .returned (.pointer (some ⟨r, 0, none⟩)) ∧ w.heap.size ≤ r ∧ w.heap.size ≤ g ∧ Rd w' r g s.data.toList ∧ Below w.heap.size w w' :=
  (new_any s w).mono fun _ _ ⟨he, h1, h2, _⟩ => ⟨_, _, he, by omega, by omega, h1, h2⟩
/-- Two readers of the program's and two of the document's stand alike. -/
def Alike (w : World) (ra ga rb gb rm rn : Nat) (wr : World) : Prop :=
  ∃ sm sn : ByteArray, Rd wr ra ga sm.data.toList ∧ Rd wr rb gb sn.data.toList ∧ Rf wr rm sm ∧ Rf wr rn sn ∧ sm.size ≤ maxLen ∧ sn.size ≤ maxLen ∧ Below w.heap.size w wr
/-- The six blocks are apart, and the call's own. -/
def Six (B ra ga rb gb rm rn : Nat) : Prop := B ≤ ra ∧ B ≤ ga ∧ B ≤ rb ∧ B ≤ gb ∧ B ≤ rm ∧ B ≤ rn ∧ ra ≠ ga ∧ ra ≠ rb ∧ ra ≠ gb ∧ ra ≠ rm ∧ ra ≠ rn ∧ ga ≠ rb ∧ ga ≠ gb ∧ ga ≠ rm ∧ ga ≠ rn ∧ rb ≠ gb ∧ rb ≠ rm ∧ rb ≠ rn ∧ gb ≠ rm ∧ gb ≠ rn ∧ rm ≠ rn
theorem some_ne {a b : Nat} (h : a ≠ b) : some a ≠ some b := fun e => h (by injection e)
theorem size_le {s s' : ByteArray} {l : List UInt8} (h : s'.data.toList = l) (hl : l.length ≤ s.size) (hs : s.size ≤ maxLen) : s'.size ≤ maxLen := by
  have : s'.size = l.length := by rw [← h]; rfl
  omega
theorem wide_len (l : List UInt8) (n : Int) : (wideV l n).2.2.length ≤ l.length := by
  unfold wideV; split
  · exact Nat.le_refl _
  · split
    · exact Nat.le_refl _
    · simp
theorem text_len (l : List UInt8) : (textV l).2.2.length ≤ l.length := by
  unfold textV; split
  · simp
  · exact Nat.le_refl _
theorem alike_a {w wr w1 w2 : World} {ra ga rb gb rm rn : Nat} {sm sn s' : ByteArray} {l : List UInt8} (h6 : Six w.heap.size ra ga rb gb rm rn) (hb : Rd wr rb gb sn.data.toList) (hn : Rf wr rn sn) (hsm : sm.size ≤ maxLen) (hsn : sn.size ≤ maxLen) (hbw : Below w.heap.size w wr)
    (hl : l.length ≤ sm.data.toList.length) (hs' : s'.data.toList = l) (hm1 : Rf w1 rm s') (hg1 : wr.grownBy w1 (some rm)) (ha2 : Rd w2 ra ga l) (hg2 : w1.grownBy w2 (some ra)) : Alike w ra ga rb gb rm rn w2 := by
  unfold Six at h6
  have hle := hbw.size
  refine ⟨s', sn, by rw [hs']; exact ha2, (hb.kept hg1 (some_ne (by omega)) (some_ne (by omega))).kept hg2 (some_ne (by omega)) (some_ne (by omega)), hm1.kept hg2 (some_ne (by omega)), (hn.kept hg1 (some_ne (by omega))).kept hg2 (some_ne (by omega)), size_le hs' hl hsm, hsn, ?_⟩
  exact (hbw.trans (below_of_grown hg1 hle (fun k hk => by injection hk with hk; omega))).trans (below_of_grown hg2 (Nat.le_trans hle hg1.size) (fun k hk => by injection hk with hk; omega))
theorem alike_b {w wr w1 w2 : World} {ra ga rb gb rm rn : Nat} {sm sn s' : ByteArray} {l : List UInt8} (h6 : Six w.heap.size ra ga rb gb rm rn) (ha : Rd wr ra ga sm.data.toList) (hm : Rf wr rm sm) (hsm : sm.size ≤ maxLen) (hsn : sn.size ≤ maxLen) (hbw : Below w.heap.size w wr)
    (hl : l.length ≤ sn.data.toList.length) (hs' : s'.data.toList = l) (hn1 : Rf w1 rn s') (hg1 : wr.grownBy w1 (some rn)) (hb2 : Rd w2 rb gb l) (hg2 : w1.grownBy w2 (some rb)) : Alike w ra ga rb gb rm rn w2 := by
  unfold Six at h6
  have hle := hbw.size
  refine ⟨sm, s', (ha.kept hg1 (some_ne (by omega)) (some_ne (by omega))).kept hg2 (some_ne (by omega)) (some_ne (by omega)), by rw [hs']; exact hb2, (hm.kept hg1 (some_ne (by omega))).kept hg2 (some_ne (by omega)), hn1.kept hg2 (some_ne (by omega)), hsm, size_le hs' hl hsn, ?_⟩
  exact (hbw.trans (below_of_grown hg1 hle (fun k hk => by injection hk with hk; omega))).trans (below_of_grown hg2 (Nat.le_trans hle hg1.size) (fun k hk => by injection hk with hk; omega))
theorem rd_drewN {w : World} {r g : Nat} {l : List UInt8} (h : Rd w r g l) (n : Nat) : Rd (w.drewN n) r g l := h
theorem alike_drewN {w wr : World} {ra ga rb gb rm rn : Nat} (h : Alike w ra ga rb gb rm rn wr) (n : Nat) : Alike w ra ga rb gb rm rn (wr.drewN n) := by
  obtain ⟨sm, sn, h1, h2, h3, h4, h5, h6, h7⟩ := h
  exact ⟨sm, sn, h1, h2, h3, h4, h5, h6, ⟨h7.os, h7.tape, h7.output, h7.size, h7.block⟩⟩
theorem left_same (r g : Nat) (s : ByteArray) (w : World) (h : Rd w r g s.data.toList) :
    Calls Try.prog 33 #[.pointer (some ⟨r, 0, none⟩)] w fun e w' => e = .returned (.int .i64 s.size) ∧ w' = w := (left_any r g s.data.toList w h).mono fun _ _ ⟨a, b⟩ => ⟨a, b.symm⟩

set_option maxRecDepth 100000 in
set_option maxHeartbeats 4000000 in
theorem walk (v u : ByteArray) (A : Option Addr) (len cap : Nat) (ks ns : Nat → Int) (w : World) (hv : v.size ≤ maxLen) (hu : u.size ≤ maxLen) (hlen : len ≤ maxLen) (hA : Asks w w.heap.size A len ks ns) :
    Calls Try.prog 5 #[.string v, .string u, .slice A len cap] w fun e w' => e = .returned (.bool true) ∧ Below w.heap.size w w' := by
  unfold maxLen at hlen
  have HA := Lib.hid hA
  have HV := Lib.hid hv
  have HU := Lib.hid hu
  clear hA hv hu
  go_enter Try.func5, Try.ntmps5
  go_wp2_with fail
  refine (new_ex v _).mono ?_
  rintro e w1 ⟨ra, ga, rfl, hra, hga, hr1, hb1⟩
  have HR1 := Lib.hid hr1
  have HB1 := Lib.hid hb1
  clear hr1 hb1
  go_wp2_with fail
  refine (new_ex u _).mono ?_
  rintro e w2 ⟨rb, gb, rfl, hrb, hgb, hr2, hb2⟩
  have HR2 := Lib.hid hr2
  have HB2 := Lib.hid hb2
  clear hr2 hb2
  go_wp2_with fail
  have h6 : Six w.heap.size ra ga rb gb w2.heap.size (w2.heap.size + 1) := by
    have x1 := HR1.out.lt
    have x2 := HR1.out.glt
    have x3 := HR2.out.lt
    have x4 := HR2.out.glt
    obtain ⟨_, _, _, _, x5, _⟩ := HR1.out
    obtain ⟨_, _, _, _, x6, _⟩ := HR2.out
    have x7 := HB1.out.size
    have x8 := HB2.out.size
    unfold Six
    omega
  have H6 := Lib.hid h6
  clear h6
  have HAL0 : Hid (Alike w ra ga rb gb w2.heap.size (w2.heap.size + 1) ((w2.alloc (.cells #[.string v] 52)).alloc (.cells #[.string u] 52))) := Lib.hid (by
    refine ⟨v, u, ?_, ?_, ?_, ?_, HV.out, HU.out, ?_⟩
    · exact ((HR1.out.kept (grown_of_below HB2.out none) (by simp) (by simp)).kept (World.grownBy_alloc _ _ none) (by simp) (by simp)).kept (World.grownBy_alloc _ _ none) (by simp) (by simp)
    · exact (HR2.out.kept (World.grownBy_alloc _ _ none) (by simp) (by simp)).kept (World.grownBy_alloc _ _ none) (by simp) (by simp)
    · exact (Below.heap_alloc _ _ _ (by simp)).trans (heap_alloc_new _ _)
    · have h := heap_alloc_new (w2.alloc (.cells #[.string v] 52)) (.cells #[.string u] 52)
      rw [World.size_alloc] at h
      exact h
    · have x7 := HB1.out.size
      have x8 := HB2.out.size
      exact ((HB1.out.trans (HB2.out.mono x7)).alloc (by omega) _).alloc (by simp; omega) _)
  generalize w2.heap.size = rm at H6 HAL0 ⊢
  generalize rm + 1 = rn at H6 HAL0 ⊢
  clear HR1 HR2 HB1 HB2
  go_loopg [11] len (fun m i wr => ∃ k : Nat, k ≤ len ∧ i = .int .i64 k ∧ m = len - k ∧ Alike w ra ga rb gb rm rn wr)
  case atStart => exact ⟨0, Nat.zero_le _, rfl, rfl, HAL0.out⟩
  case round =>
    obtain ⟨k, hk, rfl, rfl, sm, sn, hRa, hRb, hRm, hRn, hsm, hsn, hbw⟩ := hrel
    have GA := Lib.hid hRa
    have GB := Lib.hid hRb
    have GM := Lib.hid hRm
    have GN := Lib.hid hRn
    have SM := Lib.hid hsm
    have SN := Lib.hid hsn
    have BW := Lib.hid hbw
    clear hRa hRb hRm hRn hsm hsn hbw HAL0
    by_cases hlt : k < len
    · obtain ⟨b, off, rfl, hbB, hcell⟩ := HA.out (by omega)
      have e0 : wr.cell? ⟨b, off + k * 2, none⟩ = some (.int .i64 (ks k)) := by
        rw [BW.out.cell (p := ⟨b, off + k * 2, none⟩) hbB]; exact (hcell k hlt).1
      have e1 : wr.cell? ⟨b, off + k * 2 + 1, none⟩ = some (.int .i64 (ns k)) := by
        rw [BW.out.cell (p := ⟨b, off + k * 2 + 1, none⟩) hbB]; exact (hcell k hlt).2
      clear hcell
      have hbr : b < wr.heap.size := Nat.lt_of_lt_of_le hbB BW.out.size
      generalize ks k = kd at e0
      generalize ns k = nn at e1
      go_upto_if 52 with fail
      go_cut [12, 13] (fun p q wx => wx = wr ∧ ((p = .pointer (some ⟨ra, 0, none⟩) ∧ q = .pointer (some ⟨rm, 0, none⟩)) ∨ (p = .pointer (some ⟨rb, 0, none⟩) ∧ q = .pointer (some ⟨rn, 0, none⟩))))
      case first =>
        by_cases hr : k % 3 = 2
        · have hr1 : (((k : Int) % 3 == 2)) = true := by rw [beq_iff_eq]; omega
          go_wp2_with fail
          go_meet
          exact ⟨rfl, .inr ⟨rfl, rfl⟩⟩
        · have hr1 : (((k : Int) % 3 == 2)) = false := by rw [beq_eq_false_iff_ne]; omega
          go_wp2_with fail
          go_meet
          exact ⟨rfl, .inl ⟨rfl, rfl⟩⟩
      case rest =>
      obtain ⟨rfl, hwho⟩ := hcut
      have HW := Lib.hid hwho
      clear hwho
      go_upto_block 2 with fail
      go_cut [] (fun wx => Alike w ra ga rb gb rm rn wx)
      case first =>
        rcases HW.out with ⟨rfl, rfl⟩ | ⟨rfl, rfl⟩
        · by_cases k0 : kd = 0
          · subst k0
            have hx := wideV1_lt sm.data.toList
            go_wp2_with fail
            refine (rwide_any rm sm 1 _ GM.out).mono ?_
            rintro e w3 ⟨rfl, ⟨s', hs', m1⟩, g1⟩
            have M1 := Lib.hid m1
            have G1 := Lib.hid g1
            have S1 := Lib.hid hs'
            clear m1 g1 hs'
            go_wp2_with fail
            refine (cell_any ra ga _ _ (GA.out.kept G1.out (some_ne (by have := H6.out; unfold Six at this; omega)) (some_ne (by have := H6.out; unfold Six at this; omega)))).mono ?_
            rintro e w4 ⟨rfl, m2, g2⟩
            have hal : Alike w ra ga rb gb rm rn w4 := alike_a H6.out GB.out GN.out SM.out SN.out BW.out (wide_len _ _) S1.out M1.out G1.out m2 g2
            clear m2 g2 M1 G1 S1
            have HAL := Lib.hid hal
            clear hal
            go_wp2_with fail
            go_meet
            exact HAL.out
          by_cases k1 : kd = 1
          · subst k1
            go_wp2_with fail
            refine (rwide_any rm sm nn _ GM.out).mono ?_
            rintro e w3 ⟨rfl, ⟨s', hs', m1⟩, g1⟩
            have M1 := Lib.hid m1
            have G1 := Lib.hid g1
            have S1 := Lib.hid hs'
            clear m1 g1 hs'
            have e3 : w3.cell? ⟨b, off + k * 2 + 1, none⟩ = some (.int .i64 nn) := by rw [G1.out.cell e1 (some_ne (by have := H6.out; unfold Six at this; simp only; omega))]
            go_wp2_with fail
            refine (wide_any ra ga _ nn _ (GA.out.kept G1.out (some_ne (by have := H6.out; unfold Six at this; omega)) (some_ne (by have := H6.out; unfold Six at this; omega)))).mono ?_
            rintro e w4 ⟨rfl, m2, g2⟩
            have hal : Alike w ra ga rb gb rm rn w4 := alike_a H6.out GB.out GN.out SM.out SN.out BW.out (wide_len _ _) S1.out M1.out G1.out m2 g2
            clear m2 g2 M1 G1 S1
            have HAL := Lib.hid hal
            clear hal
            go_wp2_with fail
            go_meet
            exact HAL.out
          by_cases k2 : kd = 2
          · subst k2
            go_wp2_with fail
            refine (rtext_any rm sm _ GM.out SM.out).mono ?_
            rintro e w3 ⟨rfl, ⟨s', hs', m1⟩, g1⟩
            have M1 := Lib.hid m1
            have G1 := Lib.hid g1
            have S1 := Lib.hid hs'
            clear m1 g1 hs'
            go_wp2_with fail
            refine (text_any ra ga _ _ (GA.out.kept G1.out (some_ne (by have := H6.out; unfold Six at this; omega)) (some_ne (by have := H6.out; unfold Six at this; omega))) SM.out).mono ?_
            rintro e w4 ⟨rfl, m2, g2⟩
            have hal : Alike w ra ga rb gb rm rn w4 := alike_a H6.out GB.out GN.out SM.out SN.out BW.out (text_len _) S1.out M1.out G1.out m2 g2
            clear m2 g2 M1 G1 S1
            have HAL := Lib.hid hal
            clear hal
            go_wp2_with fail
            go_meet
            exact HAL.out
          have f0 : (kd == 0) = false := beq_eq_false_iff_ne.2 k0
          have f1 : (kd == 1) = false := beq_eq_false_iff_ne.2 k1
          have f2 : (kd == 2) = false := beq_eq_false_iff_ne.2 k2
          clear k0 k1 k2
          go_wp2_with fail
          go_meet
          exact ⟨sm, sn, GA.out, GB.out, GM.out, GN.out, SM.out, SN.out, BW.out⟩
        · by_cases k0 : kd = 0
          · subst k0
            have hx := wideV1_lt sn.data.toList
            go_wp2_with fail
            refine (rwide_any rn sn 1 _ GN.out).mono ?_
            rintro e w3 ⟨rfl, ⟨s', hs', m1⟩, g1⟩
            have M1 := Lib.hid m1
            have G1 := Lib.hid g1
            have S1 := Lib.hid hs'
            clear m1 g1 hs'
            go_wp2_with fail
            refine (cell_any rb gb _ _ (GB.out.kept G1.out (some_ne (by have := H6.out; unfold Six at this; omega)) (some_ne (by have := H6.out; unfold Six at this; omega)))).mono ?_
            rintro e w4 ⟨rfl, m2, g2⟩
            have hal : Alike w ra ga rb gb rm rn w4 := alike_b H6.out GA.out GM.out SM.out SN.out BW.out (wide_len _ _) S1.out M1.out G1.out m2 g2
            clear m2 g2 M1 G1 S1
            have HAL := Lib.hid hal
            clear hal
            go_wp2_with fail
            go_meet
            exact HAL.out
          by_cases k1 : kd = 1
          · subst k1
            go_wp2_with fail
            refine (rwide_any rn sn nn _ GN.out).mono ?_
            rintro e w3 ⟨rfl, ⟨s', hs', m1⟩, g1⟩
            have M1 := Lib.hid m1
            have G1 := Lib.hid g1
            have S1 := Lib.hid hs'
            clear m1 g1 hs'
            have e3 : w3.cell? ⟨b, off + k * 2 + 1, none⟩ = some (.int .i64 nn) := by rw [G1.out.cell e1 (some_ne (by have := H6.out; unfold Six at this; simp only; omega))]
            go_wp2_with fail
            refine (wide_any rb gb _ nn _ (GB.out.kept G1.out (some_ne (by have := H6.out; unfold Six at this; omega)) (some_ne (by have := H6.out; unfold Six at this; omega)))).mono ?_
            rintro e w4 ⟨rfl, m2, g2⟩
            have hal : Alike w ra ga rb gb rm rn w4 := alike_b H6.out GA.out GM.out SM.out SN.out BW.out (wide_len _ _) S1.out M1.out G1.out m2 g2
            clear m2 g2 M1 G1 S1
            have HAL := Lib.hid hal
            clear hal
            go_wp2_with fail
            go_meet
            exact HAL.out
          by_cases k2 : kd = 2
          · subst k2
            go_wp2_with fail
            refine (rtext_any rn sn _ GN.out SN.out).mono ?_
            rintro e w3 ⟨rfl, ⟨s', hs', m1⟩, g1⟩
            have M1 := Lib.hid m1
            have G1 := Lib.hid g1
            have S1 := Lib.hid hs'
            clear m1 g1 hs'
            go_wp2_with fail
            refine (text_any rb gb _ _ (GB.out.kept G1.out (some_ne (by have := H6.out; unfold Six at this; omega)) (some_ne (by have := H6.out; unfold Six at this; omega))) SN.out).mono ?_
            rintro e w4 ⟨rfl, m2, g2⟩
            have hal : Alike w ra ga rb gb rm rn w4 := alike_b H6.out GA.out GM.out SM.out SN.out BW.out (text_len _) S1.out M1.out G1.out m2 g2
            clear m2 g2 M1 G1 S1
            have HAL := Lib.hid hal
            clear hal
            go_wp2_with fail
            go_meet
            exact HAL.out
          have f0 : (kd == 0) = false := beq_eq_false_iff_ne.2 k0
          have f1 : (kd == 1) = false := beq_eq_false_iff_ne.2 k1
          have f2 : (kd == 2) = false := beq_eq_false_iff_ne.2 k2
          clear k0 k1 k2
          go_wp2_with fail
          go_meet
          exact ⟨sm, sn, GA.out, GB.out, GM.out, GN.out, SM.out, SN.out, BW.out⟩
      case rest =>
      obtain ⟨sm2, sn2, hRa, hRb, hRm, hRn, hsm, hsn, hbw⟩ := hcut
      have q1 : wc.cell? ⟨rm, 0, none⟩ = some (.string sm2) := by rw [cell_heap hRm]; rfl
      have q2 : wc.cell? ⟨rn, 0, none⟩ = some (.string sn2) := by rw [cell_heap hRn]; rfl
      have HAL : Hid (Alike w ra ga rb gb rm rn wc) := Lib.hid ⟨sm2, sn2, hRa, hRb, hRm, hRn, hsm, hsn, hbw⟩
      have la := fun n => Calls.quiet_of_same (left_same ra ga sm2 (wc.drewN n) hRa)
      have lb := fun n => Calls.quiet_of_same (left_same rb gb sn2 (wc.drewN n) hRb)
      have LA := Lib.hid la
      have LB := Lib.hid lb
      clear la lb hRa hRb hRm hRn hsm hsn hbw GA GB GM GN SM SN BW e0 e1
      go_wp2_with fail
      go_quiet ((first | (go_at_call_of 33 (Value.pointer (some ⟨ra, 0, none⟩)); exact LA.out _) | (go_at_call_of 33 (Value.pointer (some ⟨rb, 0, none⟩)); exact LB.out _)))
      go_wp2_with fail
      go_roundg (len - (k + 1))
      case measure => omega
      case rel => exact ⟨k + 1, by omega, by go_num, rfl, alike_drewN HAL.out _⟩

    · obtain rfl : k = len := by omega
      go_wp2_with fail
      go_ret
      exact ⟨rfl, BW.out⟩
end Go.Proofs.Ytkjhngnpbdlmiaa.Cl
