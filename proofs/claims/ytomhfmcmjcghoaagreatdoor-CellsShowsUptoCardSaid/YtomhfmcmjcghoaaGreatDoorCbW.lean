/- The walk of the law on there and back: cells, pairs and texts. -/
import Derived.Test.YtomhfmcmjcghoaaGreatDoorClU
import Derived.Test.YtomhfmcmjcghoaaGreatDoorCbM
namespace Go.Proofs.YtomhfmcmjcghoaaGreatDoor.Cl
open Go.ChangeShapes Go.WideShapes Go.ChangeAt Go.RowKit Own Bld Nums

theorem bt2 {y W w9 : World} {B : Nat} (h : Below B y W) (hB : B ≤ W.heap.size) (h9 : Below W.heap.size W w9) : Below B y w9 := h.trans (h9.mono hB)

set_option maxRecDepth 100000 in
set_option maxHeartbeats 8000000 in
theorem walkBack (v : ByteArray) (A B C : Option Addr) (ca cb cc : Nat) (xs ys : List Nat) (ls : List ByteArray) (na nb nl : Nat) (w : World) (hv : v.size ≤ 1048576) (ha : na = xs.length) (hb : nb = ys.length) (hl : nl = ls.length) (la : na ≤ 1048576) (lb : nb ≤ 1048576) (ll : nl ≤ 1048576)
    (hT : (vT ls).length ≤ 2097152) (limx : Lim 4294967296 xs) (limy : Lim 18446744073709551616 ys) (sA : Src w A na ca (nats .u32 xs)) (sB : Src w B nb cb (nats .u64 ys)) (sC : Src w C nl cc (strs ls)) (he : Env w) :
    Calls Tryz.prog 4 #[.string v, .slice A na ca, .slice B nb cb, .slice C nl cc] w fun e w' => e = .returned (.bool true) ∧ Below w.heap.size w w' := by
  have HE := Lib.hid he
  have HA := Lib.hid ha
  have HBn := Lib.hid hb
  have HLn := Lib.hid hl
  have HT := Lib.hid hT
  have LX := Lib.hid limx
  have LY := Lib.hid limy
  have SA := Lib.hid sA
  have SB := Lib.hid sB
  have SC := Lib.hid sC
  have hz : v.data.toList.length = v.size := rfl
  have HZ := Lib.hid hz
  clear ha hb hl hT limx limy sA sB sC he hz
  have HC4 : Hid (c32 (str (vOf 4 xs)).data.toList = xs ∧ e32 (str (vOf 4 xs)).data.toList = 0) := Lib.hid (c32_of xs LX.out)
  have HC8 : Hid (c64 (str (vOf 8 ys)).data.toList = ys ∧ e64 (str (vOf 8 ys)).data.toList = 0) := Lib.hid (c64_of ys LY.out)
  have HS4 : Hid ((str (vOf 4 xs)).size ≤ 67108864) := Lib.hid (by
    have h1 := vOf_len 4 xs
    have h2 := HA.out
    show (vOf 4 xs).length ≤ _
    omega)
  have HS8 : Hid ((str (vOf 8 ys)).size ≤ 67108864) := Lib.hid (by
    have h1 := vOf_len 8 ys
    have h2 := HBn.out
    show (vOf 8 ys).length ≤ _
    omega)
  go_enter Tryz.func4, Tryz.ntmps4
  go_wp2_with fail
  refine (awake_any _ HE.out).mono ?_
  rintro e w0 ⟨rfl, b0⟩
  have B0 := Lib.hid b0
  clear b0 HE
  go_wp2_with fail
  refine (of32_any A ca na xs _ HA.out (by omega) LX.out (SA.out.below B0.out)).mono ?_
  rintro e y1 ⟨rfl, b1⟩
  have B1 := Lib.hid (bt2 B0.out B0.out.size b1)
  clear b1 B0
  go_wp2_with fail
  refine (prog32_any (str (vOf 4 xs)) _ HS4.out).mono ?_
  rw [HC4.out.1, HC4.out.2]
  rintro e y2 ⟨A1, n1, c1, hn1, rfl, ho1, b2⟩
  rw [nats_len] at hn1
  have N1 := Lib.hid hn1
  have O1 := Lib.hid ho1
  have B2 := Lib.hid (bt2 B1.out B1.out.size b2)
  clear hn1 ho1 b2 B1 HC4 HS4
  go_wp2_with fail
  refine (of64_any B cb nb ys _ HBn.out (by omega) LY.out (SB.out.below B2.out)).mono ?_
  rintro e y3 ⟨rfl, b3⟩
  have C3 := Lib.hid b3
  clear b3
  go_wp2_with fail
  refine (prog64_any (str (vOf 8 ys)) _ HS8.out).mono ?_
  rw [HC8.out.1, HC8.out.2]
  rintro e y4 ⟨A2, n2, c2, hn2, rfl, ho2, b4⟩
  rw [nats_len] at hn2
  have S1 := Lib.hid (made_src O1.out (bt2 C3.out C3.out.size b4)).1
  have S2 := Lib.hid (made_src ho2 (Below.refl _ _)).1
  have N2 := Lib.hid hn2
  have B4 := Lib.hid (bt2 B2.out B2.out.size (bt2 C3.out C3.out.size b4))
  clear hn2 ho2 b4 B2 C3 O1 HC8 HS8
  obtain rfl : n1 = na := by rw [N1.out, HA.out]
  obtain rfl : n2 = nb := by rw [N2.out, HBn.out]
  clear N1 N2
  go_wp2_with fail
  refine (thirties_n A1 A c1 ca n1 xs _ HA.out (by omega) S1.out (SA.out.below B4.out)).mono ?_
  rintro e wx ⟨rfl, q1, rfl⟩
  go_wp2_with fail
  refine (sixties_n A2 B c2 cb n2 ys _ HBn.out (by omega) (S2.out.drewN _) ((SB.out.below B4.out).drewN _)).mono ?_
  rintro e wx ⟨rfl, q2, rfl⟩
  have B5 := Lib.hid (below_drewN (below_drewN B4.out q1) q2)
  generalize (y4.drewN q1).drewN q2 = y5 at B5 ⊢
  clear B4 S1 S2 SA SB
  go_wp2_with fail
  refine (ofTexts_any C cc nl ls _ HLn.out (by have := HT.out; omega) (by omega) (SC.out.below B5.out)).mono ?_
  rintro e y6 ⟨rfl, b6⟩
  have B6 := Lib.hid (bt2 B5.out B5.out.size b6)
  clear b6 B5
  by_cases hzf : ls.all zf = true
  · have HOT : Hid (ofT ls = (vT ls, 0)) := Lib.hid (if_pos hzf)
    have HTX : Hid (tx (str (vT ls)).data.toList = ls ∧ etx (str (vT ls)).data.toList = 0) := Lib.hid (tx_vT ls hzf)
    have HS : Hid ((str (vT ls)).size ≤ 67108864) := Lib.hid (by
      have h2 := HT.out
      show (vT ls).length ≤ _
      omega)
    clear hzf
    rw [HOT.out]
    go_wp2_with fail
    refine (progTexts_any (str (vT ls)) _ HS.out).mono ?_
    rw [HTX.out.1, HTX.out.2]
    rintro e y7 ⟨A3, n3, c3, hn3, rfl, ho3, b7⟩
    rw [strs_len] at hn3
    have N3 := Lib.hid hn3
    have S3 := Lib.hid (made_src ho3 (Below.refl _ _)).1
    have B7 := Lib.hid (bt2 B6.out B6.out.size b7)
    clear hn3 ho3 b7 HOT HTX HS
    obtain rfl : n3 = nl := by rw [N3.out, HLn.out]
    clear N3 B6
    go_wp2_with fail
    refine (textsSame_n A3 C c3 cc n3 ls _ HLn.out (by omega) S3.out (SC.out.below B7.out)).mono ?_
    rintro e wx ⟨rfl, q3, rfl⟩
    have B8 := Lib.hid (below_drewN B7.out q3)
    generalize y7.drewN q3 = y8 at B8 ⊢
    clear B7 S3 SC HT LX LY HA HBn HLn
    go_wp2_with fail
    have hq : v.size % 8 = 0 ∨ (v.size % 8 ≠ 0 ∧ v.size % 4 = 0) ∨ v.size % 4 ≠ 0 := by omega
    rcases hq with h8 | ⟨h8, h4⟩ | h4
    · have h4' : v.data.toList.length % 4 = 0 := by rw [HZ.out]; omega
      have h8' : v.data.toList.length % 8 = 0 := by rw [HZ.out]; omega
      have HE4 : Hid (e32 v.data.toList = 0) := Lib.hid (if_pos h4')
      have HE8 : Hid (e64 v.data.toList = 0) := Lib.hid (if_pos h8')
      have HV4 : Hid (str (vOf 4 (c32 v.data.toList)) = v) := Lib.hid (by rw [of_c32 _ h4']; rfl)
      have HV8 : Hid (str (vOf 8 (c64 v.data.toList)) = v) := Lib.hid (by rw [of_c64 _ h8']; rfl)
      have t4 : ((v.size : Int) % 4 == 0) = true := beq_iff_eq.2 (by omega)
      have t8 : ((v.size : Int) % 8 == 0) = true := beq_iff_eq.2 (by omega)
      clear h4' h8'
      refine (prog32_any v _ (by omega)).mono ?_
      rw [HE4.out]
      rintro e z1 ⟨A4, n4, c4, hn4, rfl, ho4, d1⟩
      rw [nats_len] at hn4
      have N4 := Lib.hid hn4
      have O4 := Lib.hid ho4
      have D1 := Lib.hid (bt2 B8.out B8.out.size d1)
      clear hn4 ho4 d1 B8 HE4
      go_wp2_with fail
      refine (prog64_any v _ (by omega)).mono ?_
      rw [HE8.out]
      rintro e z2 ⟨A5, n5, c5, hn5, rfl, ho5, d2⟩
      rw [nats_len] at hn5
      have N5 := Lib.hid hn5
      have O5 := Lib.hid ho5
      have D2 := Lib.hid d2
      clear hn5 ho5 d2 HE8
      go_wp2_with fail
      obtain ⟨eT, hET⟩ : ∃ x, etx v.data.toList = x := ⟨_, rfl⟩
      have HK : Hid ((eT = 0 ∧ ofT (tx v.data.toList) = (v.data.toList, 0)) ∨ eT = 4) := Lib.hid (by
        by_cases h : etx v.data.toList = 0
        · exact .inl ⟨by rw [← hET]; exact h, of_tx _ h⟩
        · refine .inr ?_
          rw [← hET]
          unfold etx at h ⊢
          split at h
          · simp at h
          · rename_i h3; rw [if_neg h3])
      have HET := Lib.hid hET
      clear hET
      refine (progTexts_any v _ (by omega)).mono ?_
      rw [HET.out]
      clear HET
      rintro e z3 ⟨A6, n6, c6, hn6, rfl, ho6, d3⟩
      rw [strs_len] at hn6
      have N6 := Lib.hid hn6
      have S4 := Lib.hid (made_src O4.out (bt2 D2.out D2.out.size d3)).1
      have S5 := Lib.hid (made_src O5.out d3).1
      have S6 := Lib.hid (made_src ho6 (Below.refl _ _)).1
      have D3 := Lib.hid (bt2 D1.out D1.out.size (bt2 D2.out D2.out.size d3))
      clear hn6 ho6 d3 D1 D2 O4 O5
      have l4 : n4 ≤ 1048576 := by have h1 := c32_lim v.data.toList; have h2 := N4.out; have h3 := HZ.out; omega
      have l5 : n5 ≤ 1048576 := by have h1 := c64_lim v.data.toList; have h2 := N5.out; have h3 := HZ.out; omega
      have l6 : n6 ≤ 1048576 := by have h1 := tx_lim v.data.toList; have h2 := N6.out; have h3 := HZ.out; omega
      have l7 : Hid ((vT (tx v.data.toList)).length ≤ 4194304) := Lib.hid (by have h1 := vT_tx v.data.toList; have h3 := HZ.out; omega)
      go_wp2_with fail
      refine (of32_any A4 c4 n4 (c32 v.data.toList) _ N4.out (by omega) (lim_c32 _) S4.out).mono ?_
      rw [HV4.out]
      rintro e z4 ⟨rfl, d4⟩
      have D4 := Lib.hid (bt2 D3.out D3.out.size d4)
      have S5' := Lib.hid (S5.out.below d4)
      have S6' := Lib.hid (S6.out.below d4)
      clear d4 D3 S5 S6 S4
      go_wp2_with fail
      refine (of64_any A5 c5 n5 (c64 v.data.toList) _ N5.out (by omega) (lim_c64 _) S5'.out).mono ?_
      rw [HV8.out]
      rintro e z5 ⟨rfl, d5⟩
      have D5 := Lib.hid (bt2 D4.out D4.out.size d5)
      have S6'' := Lib.hid (S6'.out.below d5)
      clear d5 D4 S6'
      rcases HK.out with ⟨rfl, ho⟩ | rfl
      · have HO6 := Lib.hid ho
        clear ho HK
        go_wp2_with fail
        refine (ofTexts_any A6 c6 n6 (tx v.data.toList) _ N6.out l7.out (by omega) S6''.out).mono ?_
        rw [HO6.out, show (str (v.data.toList, (0 : Int)).1) = v from rfl]
        rintro e z6 ⟨rfl, d6⟩
        have D6 := Lib.hid (bt2 D5.out D5.out.size d6)
        clear d6 D5
        go_wp2_with fail
        go_ret
        exact ⟨rfl, D6.out⟩
      · clear HK
        go_wp2_with fail
        go_ret
        exact ⟨rfl, D5.out⟩
    · have h4' : v.data.toList.length % 4 = 0 := by rw [HZ.out]; omega
      have h8' : v.data.toList.length % 8 ≠ 0 := by rw [HZ.out]; omega
      have HE4 : Hid (e32 v.data.toList = 0) := Lib.hid (if_pos h4')
      have HE8 : Hid (e64 v.data.toList = 4) := Lib.hid (if_neg h8')
      have HV4 : Hid (str (vOf 4 (c32 v.data.toList)) = v) := Lib.hid (by rw [of_c32 _ h4']; rfl)
      have t4 : ((v.size : Int) % 4 == 0) = true := beq_iff_eq.2 (by omega)
      have t8 : ((v.size : Int) % 8 == 0) = false := beq_eq_false_iff_ne.2 (by omega)
      clear h4' h8'
      refine (prog32_any v _ (by omega)).mono ?_
      rw [HE4.out]
      rintro e z1 ⟨A4, n4, c4, hn4, rfl, ho4, d1⟩
      rw [nats_len] at hn4
      have N4 := Lib.hid hn4
      have O4 := Lib.hid ho4
      have D1 := Lib.hid (bt2 B8.out B8.out.size d1)
      clear hn4 ho4 d1 B8 HE4
      go_wp2_with fail
      refine (prog64_any v _ (by omega)).mono ?_
      rw [HE8.out]
      rintro e z2 ⟨A5, n5, c5, hn5, rfl, ho5, d2⟩
      rw [nats_len] at hn5
      have N5 := Lib.hid hn5
      have O5 := Lib.hid ho5
      have D2 := Lib.hid d2
      clear hn5 ho5 d2 HE8
      go_wp2_with fail
      obtain ⟨eT, hET⟩ : ∃ x, etx v.data.toList = x := ⟨_, rfl⟩
      have HK : Hid ((eT = 0 ∧ ofT (tx v.data.toList) = (v.data.toList, 0)) ∨ eT = 4) := Lib.hid (by
        by_cases h : etx v.data.toList = 0
        · exact .inl ⟨by rw [← hET]; exact h, of_tx _ h⟩
        · refine .inr ?_
          rw [← hET]
          unfold etx at h ⊢
          split at h
          · simp at h
          · rename_i h3; rw [if_neg h3])
      have HET := Lib.hid hET
      clear hET
      refine (progTexts_any v _ (by omega)).mono ?_
      rw [HET.out]
      clear HET
      rintro e z3 ⟨A6, n6, c6, hn6, rfl, ho6, d3⟩
      rw [strs_len] at hn6
      have N6 := Lib.hid hn6
      have S4 := Lib.hid (made_src O4.out (bt2 D2.out D2.out.size d3)).1
      have S5 := Lib.hid (made_src O5.out d3).1
      have S6 := Lib.hid (made_src ho6 (Below.refl _ _)).1
      have D3 := Lib.hid (bt2 D1.out D1.out.size (bt2 D2.out D2.out.size d3))
      clear hn6 ho6 d3 D1 D2 O4 O5
      have l4 : n4 ≤ 1048576 := by have h1 := c32_lim v.data.toList; have h2 := N4.out; have h3 := HZ.out; omega
      have l5 : n5 ≤ 1048576 := by have h1 := c64_lim v.data.toList; have h2 := N5.out; have h3 := HZ.out; omega
      have l6 : n6 ≤ 1048576 := by have h1 := tx_lim v.data.toList; have h2 := N6.out; have h3 := HZ.out; omega
      have l7 : Hid ((vT (tx v.data.toList)).length ≤ 4194304) := Lib.hid (by have h1 := vT_tx v.data.toList; have h3 := HZ.out; omega)
      go_wp2_with fail
      refine (of32_any A4 c4 n4 (c32 v.data.toList) _ N4.out (by omega) (lim_c32 _) S4.out).mono ?_
      rw [HV4.out]
      rintro e z4 ⟨rfl, d4⟩
      have D4 := Lib.hid (bt2 D3.out D3.out.size d4)
      have S5' := Lib.hid (S5.out.below d4)
      have S6' := Lib.hid (S6.out.below d4)
      clear d4 D3 S5 S6 S4
      have D5 := D4
      have S6'' := S6'
      clear D4 S6'
      rcases HK.out with ⟨rfl, ho⟩ | rfl
      · have HO6 := Lib.hid ho
        clear ho HK
        go_wp2_with fail
        refine (ofTexts_any A6 c6 n6 (tx v.data.toList) _ N6.out l7.out (by omega) S6''.out).mono ?_
        rw [HO6.out, show (str (v.data.toList, (0 : Int)).1) = v from rfl]
        rintro e z6 ⟨rfl, d6⟩
        have D6 := Lib.hid (bt2 D5.out D5.out.size d6)
        clear d6 D5
        go_wp2_with fail
        go_ret
        exact ⟨rfl, D6.out⟩
      · clear HK
        go_wp2_with fail
        go_ret
        exact ⟨rfl, D5.out⟩
    · have h4' : v.data.toList.length % 4 ≠ 0 := by rw [HZ.out]; omega
      have h8' : v.data.toList.length % 8 ≠ 0 := by rw [HZ.out]; omega
      have HE4 : Hid (e32 v.data.toList = 4) := Lib.hid (if_neg h4')
      have HE8 : Hid (e64 v.data.toList = 4) := Lib.hid (if_neg h8')
      have t4 : ((v.size : Int) % 4 == 0) = false := beq_eq_false_iff_ne.2 (by omega)
      have t8 : ((v.size : Int) % 8 == 0) = false := beq_eq_false_iff_ne.2 (by omega)
      clear h4' h8'
      refine (prog32_any v _ (by omega)).mono ?_
      rw [HE4.out]
      rintro e z1 ⟨A4, n4, c4, hn4, rfl, ho4, d1⟩
      rw [nats_len] at hn4
      have N4 := Lib.hid hn4
      have O4 := Lib.hid ho4
      have D1 := Lib.hid (bt2 B8.out B8.out.size d1)
      clear hn4 ho4 d1 B8 HE4
      go_wp2_with fail
      refine (prog64_any v _ (by omega)).mono ?_
      rw [HE8.out]
      rintro e z2 ⟨A5, n5, c5, hn5, rfl, ho5, d2⟩
      rw [nats_len] at hn5
      have N5 := Lib.hid hn5
      have O5 := Lib.hid ho5
      have D2 := Lib.hid d2
      clear hn5 ho5 d2 HE8
      go_wp2_with fail
      obtain ⟨eT, hET⟩ : ∃ x, etx v.data.toList = x := ⟨_, rfl⟩
      have HK : Hid ((eT = 0 ∧ ofT (tx v.data.toList) = (v.data.toList, 0)) ∨ eT = 4) := Lib.hid (by
        by_cases h : etx v.data.toList = 0
        · exact .inl ⟨by rw [← hET]; exact h, of_tx _ h⟩
        · refine .inr ?_
          rw [← hET]
          unfold etx at h ⊢
          split at h
          · simp at h
          · rename_i h3; rw [if_neg h3])
      have HET := Lib.hid hET
      clear hET
      refine (progTexts_any v _ (by omega)).mono ?_
      rw [HET.out]
      clear HET
      rintro e z3 ⟨A6, n6, c6, hn6, rfl, ho6, d3⟩
      rw [strs_len] at hn6
      have N6 := Lib.hid hn6
      have S4 := Lib.hid (made_src O4.out (bt2 D2.out D2.out.size d3)).1
      have S5 := Lib.hid (made_src O5.out d3).1
      have S6 := Lib.hid (made_src ho6 (Below.refl _ _)).1
      have D3 := Lib.hid (bt2 D1.out D1.out.size (bt2 D2.out D2.out.size d3))
      clear hn6 ho6 d3 D1 D2 O4 O5
      have l4 : n4 ≤ 1048576 := by have h1 := c32_lim v.data.toList; have h2 := N4.out; have h3 := HZ.out; omega
      have l5 : n5 ≤ 1048576 := by have h1 := c64_lim v.data.toList; have h2 := N5.out; have h3 := HZ.out; omega
      have l6 : n6 ≤ 1048576 := by have h1 := tx_lim v.data.toList; have h2 := N6.out; have h3 := HZ.out; omega
      have l7 : Hid ((vT (tx v.data.toList)).length ≤ 4194304) := Lib.hid (by have h1 := vT_tx v.data.toList; have h3 := HZ.out; omega)
      have D4 := D3
      have S5' := S5
      have S6' := S6
      clear D3 S5 S6 S4
      have D5 := D4
      have S6'' := S6'
      clear D4 S6'
      rcases HK.out with ⟨rfl, ho⟩ | rfl
      · have HO6 := Lib.hid ho
        clear ho HK
        go_wp2_with fail
        refine (ofTexts_any A6 c6 n6 (tx v.data.toList) _ N6.out l7.out (by omega) S6''.out).mono ?_
        rw [HO6.out, show (str (v.data.toList, (0 : Int)).1) = v from rfl]
        rintro e z6 ⟨rfl, d6⟩
        have D6 := Lib.hid (bt2 D5.out D5.out.size d6)
        clear d6 D5
        go_wp2_with fail
        go_ret
        exact ⟨rfl, D6.out⟩
      · clear HK
        go_wp2_with fail
        go_ret
        exact ⟨rfl, D5.out⟩
  · have HOT : Hid (ofT ls = ([], 4)) := Lib.hid (if_neg hzf)
    clear hzf
    rw [HOT.out]
    have B8 := B6
    clear B6 HOT SC HT LX LY HA HBn HLn
    go_wp2_with fail
    have hq : v.size % 8 = 0 ∨ (v.size % 8 ≠ 0 ∧ v.size % 4 = 0) ∨ v.size % 4 ≠ 0 := by omega
    rcases hq with h8 | ⟨h8, h4⟩ | h4
    · have h4' : v.data.toList.length % 4 = 0 := by rw [HZ.out]; omega
      have h8' : v.data.toList.length % 8 = 0 := by rw [HZ.out]; omega
      have HE4 : Hid (e32 v.data.toList = 0) := Lib.hid (if_pos h4')
      have HE8 : Hid (e64 v.data.toList = 0) := Lib.hid (if_pos h8')
      have HV4 : Hid (str (vOf 4 (c32 v.data.toList)) = v) := Lib.hid (by rw [of_c32 _ h4']; rfl)
      have HV8 : Hid (str (vOf 8 (c64 v.data.toList)) = v) := Lib.hid (by rw [of_c64 _ h8']; rfl)
      have t4 : ((v.size : Int) % 4 == 0) = true := beq_iff_eq.2 (by omega)
      have t8 : ((v.size : Int) % 8 == 0) = true := beq_iff_eq.2 (by omega)
      clear h4' h8'
      refine (prog32_any v _ (by omega)).mono ?_
      rw [HE4.out]
      rintro e z1 ⟨A4, n4, c4, hn4, rfl, ho4, d1⟩
      rw [nats_len] at hn4
      have N4 := Lib.hid hn4
      have O4 := Lib.hid ho4
      have D1 := Lib.hid (bt2 B8.out B8.out.size d1)
      clear hn4 ho4 d1 B8 HE4
      go_wp2_with fail
      refine (prog64_any v _ (by omega)).mono ?_
      rw [HE8.out]
      rintro e z2 ⟨A5, n5, c5, hn5, rfl, ho5, d2⟩
      rw [nats_len] at hn5
      have N5 := Lib.hid hn5
      have O5 := Lib.hid ho5
      have D2 := Lib.hid d2
      clear hn5 ho5 d2 HE8
      go_wp2_with fail
      obtain ⟨eT, hET⟩ : ∃ x, etx v.data.toList = x := ⟨_, rfl⟩
      have HK : Hid ((eT = 0 ∧ ofT (tx v.data.toList) = (v.data.toList, 0)) ∨ eT = 4) := Lib.hid (by
        by_cases h : etx v.data.toList = 0
        · exact .inl ⟨by rw [← hET]; exact h, of_tx _ h⟩
        · refine .inr ?_
          rw [← hET]
          unfold etx at h ⊢
          split at h
          · simp at h
          · rename_i h3; rw [if_neg h3])
      have HET := Lib.hid hET
      clear hET
      refine (progTexts_any v _ (by omega)).mono ?_
      rw [HET.out]
      clear HET
      rintro e z3 ⟨A6, n6, c6, hn6, rfl, ho6, d3⟩
      rw [strs_len] at hn6
      have N6 := Lib.hid hn6
      have S4 := Lib.hid (made_src O4.out (bt2 D2.out D2.out.size d3)).1
      have S5 := Lib.hid (made_src O5.out d3).1
      have S6 := Lib.hid (made_src ho6 (Below.refl _ _)).1
      have D3 := Lib.hid (bt2 D1.out D1.out.size (bt2 D2.out D2.out.size d3))
      clear hn6 ho6 d3 D1 D2 O4 O5
      have l4 : n4 ≤ 1048576 := by have h1 := c32_lim v.data.toList; have h2 := N4.out; have h3 := HZ.out; omega
      have l5 : n5 ≤ 1048576 := by have h1 := c64_lim v.data.toList; have h2 := N5.out; have h3 := HZ.out; omega
      have l6 : n6 ≤ 1048576 := by have h1 := tx_lim v.data.toList; have h2 := N6.out; have h3 := HZ.out; omega
      have l7 : Hid ((vT (tx v.data.toList)).length ≤ 4194304) := Lib.hid (by have h1 := vT_tx v.data.toList; have h3 := HZ.out; omega)
      go_wp2_with fail
      refine (of32_any A4 c4 n4 (c32 v.data.toList) _ N4.out (by omega) (lim_c32 _) S4.out).mono ?_
      rw [HV4.out]
      rintro e z4 ⟨rfl, d4⟩
      have D4 := Lib.hid (bt2 D3.out D3.out.size d4)
      have S5' := Lib.hid (S5.out.below d4)
      have S6' := Lib.hid (S6.out.below d4)
      clear d4 D3 S5 S6 S4
      go_wp2_with fail
      refine (of64_any A5 c5 n5 (c64 v.data.toList) _ N5.out (by omega) (lim_c64 _) S5'.out).mono ?_
      rw [HV8.out]
      rintro e z5 ⟨rfl, d5⟩
      have D5 := Lib.hid (bt2 D4.out D4.out.size d5)
      have S6'' := Lib.hid (S6'.out.below d5)
      clear d5 D4 S6'
      rcases HK.out with ⟨rfl, ho⟩ | rfl
      · have HO6 := Lib.hid ho
        clear ho HK
        go_wp2_with fail
        refine (ofTexts_any A6 c6 n6 (tx v.data.toList) _ N6.out l7.out (by omega) S6''.out).mono ?_
        rw [HO6.out, show (str (v.data.toList, (0 : Int)).1) = v from rfl]
        rintro e z6 ⟨rfl, d6⟩
        have D6 := Lib.hid (bt2 D5.out D5.out.size d6)
        clear d6 D5
        go_wp2_with fail
        go_ret
        exact ⟨rfl, D6.out⟩
      · clear HK
        go_wp2_with fail
        go_ret
        exact ⟨rfl, D5.out⟩
    · have h4' : v.data.toList.length % 4 = 0 := by rw [HZ.out]; omega
      have h8' : v.data.toList.length % 8 ≠ 0 := by rw [HZ.out]; omega
      have HE4 : Hid (e32 v.data.toList = 0) := Lib.hid (if_pos h4')
      have HE8 : Hid (e64 v.data.toList = 4) := Lib.hid (if_neg h8')
      have HV4 : Hid (str (vOf 4 (c32 v.data.toList)) = v) := Lib.hid (by rw [of_c32 _ h4']; rfl)
      have t4 : ((v.size : Int) % 4 == 0) = true := beq_iff_eq.2 (by omega)
      have t8 : ((v.size : Int) % 8 == 0) = false := beq_eq_false_iff_ne.2 (by omega)
      clear h4' h8'
      refine (prog32_any v _ (by omega)).mono ?_
      rw [HE4.out]
      rintro e z1 ⟨A4, n4, c4, hn4, rfl, ho4, d1⟩
      rw [nats_len] at hn4
      have N4 := Lib.hid hn4
      have O4 := Lib.hid ho4
      have D1 := Lib.hid (bt2 B8.out B8.out.size d1)
      clear hn4 ho4 d1 B8 HE4
      go_wp2_with fail
      refine (prog64_any v _ (by omega)).mono ?_
      rw [HE8.out]
      rintro e z2 ⟨A5, n5, c5, hn5, rfl, ho5, d2⟩
      rw [nats_len] at hn5
      have N5 := Lib.hid hn5
      have O5 := Lib.hid ho5
      have D2 := Lib.hid d2
      clear hn5 ho5 d2 HE8
      go_wp2_with fail
      obtain ⟨eT, hET⟩ : ∃ x, etx v.data.toList = x := ⟨_, rfl⟩
      have HK : Hid ((eT = 0 ∧ ofT (tx v.data.toList) = (v.data.toList, 0)) ∨ eT = 4) := Lib.hid (by
        by_cases h : etx v.data.toList = 0
        · exact .inl ⟨by rw [← hET]; exact h, of_tx _ h⟩
        · refine .inr ?_
          rw [← hET]
          unfold etx at h ⊢
          split at h
          · simp at h
          · rename_i h3; rw [if_neg h3])
      have HET := Lib.hid hET
      clear hET
      refine (progTexts_any v _ (by omega)).mono ?_
      rw [HET.out]
      clear HET
      rintro e z3 ⟨A6, n6, c6, hn6, rfl, ho6, d3⟩
      rw [strs_len] at hn6
      have N6 := Lib.hid hn6
      have S4 := Lib.hid (made_src O4.out (bt2 D2.out D2.out.size d3)).1
      have S5 := Lib.hid (made_src O5.out d3).1
      have S6 := Lib.hid (made_src ho6 (Below.refl _ _)).1
      have D3 := Lib.hid (bt2 D1.out D1.out.size (bt2 D2.out D2.out.size d3))
      clear hn6 ho6 d3 D1 D2 O4 O5
      have l4 : n4 ≤ 1048576 := by have h1 := c32_lim v.data.toList; have h2 := N4.out; have h3 := HZ.out; omega
      have l5 : n5 ≤ 1048576 := by have h1 := c64_lim v.data.toList; have h2 := N5.out; have h3 := HZ.out; omega
      have l6 : n6 ≤ 1048576 := by have h1 := tx_lim v.data.toList; have h2 := N6.out; have h3 := HZ.out; omega
      have l7 : Hid ((vT (tx v.data.toList)).length ≤ 4194304) := Lib.hid (by have h1 := vT_tx v.data.toList; have h3 := HZ.out; omega)
      go_wp2_with fail
      refine (of32_any A4 c4 n4 (c32 v.data.toList) _ N4.out (by omega) (lim_c32 _) S4.out).mono ?_
      rw [HV4.out]
      rintro e z4 ⟨rfl, d4⟩
      have D4 := Lib.hid (bt2 D3.out D3.out.size d4)
      have S5' := Lib.hid (S5.out.below d4)
      have S6' := Lib.hid (S6.out.below d4)
      clear d4 D3 S5 S6 S4
      have D5 := D4
      have S6'' := S6'
      clear D4 S6'
      rcases HK.out with ⟨rfl, ho⟩ | rfl
      · have HO6 := Lib.hid ho
        clear ho HK
        go_wp2_with fail
        refine (ofTexts_any A6 c6 n6 (tx v.data.toList) _ N6.out l7.out (by omega) S6''.out).mono ?_
        rw [HO6.out, show (str (v.data.toList, (0 : Int)).1) = v from rfl]
        rintro e z6 ⟨rfl, d6⟩
        have D6 := Lib.hid (bt2 D5.out D5.out.size d6)
        clear d6 D5
        go_wp2_with fail
        go_ret
        exact ⟨rfl, D6.out⟩
      · clear HK
        go_wp2_with fail
        go_ret
        exact ⟨rfl, D5.out⟩
    · have h4' : v.data.toList.length % 4 ≠ 0 := by rw [HZ.out]; omega
      have h8' : v.data.toList.length % 8 ≠ 0 := by rw [HZ.out]; omega
      have HE4 : Hid (e32 v.data.toList = 4) := Lib.hid (if_neg h4')
      have HE8 : Hid (e64 v.data.toList = 4) := Lib.hid (if_neg h8')
      have t4 : ((v.size : Int) % 4 == 0) = false := beq_eq_false_iff_ne.2 (by omega)
      have t8 : ((v.size : Int) % 8 == 0) = false := beq_eq_false_iff_ne.2 (by omega)
      clear h4' h8'
      refine (prog32_any v _ (by omega)).mono ?_
      rw [HE4.out]
      rintro e z1 ⟨A4, n4, c4, hn4, rfl, ho4, d1⟩
      rw [nats_len] at hn4
      have N4 := Lib.hid hn4
      have O4 := Lib.hid ho4
      have D1 := Lib.hid (bt2 B8.out B8.out.size d1)
      clear hn4 ho4 d1 B8 HE4
      go_wp2_with fail
      refine (prog64_any v _ (by omega)).mono ?_
      rw [HE8.out]
      rintro e z2 ⟨A5, n5, c5, hn5, rfl, ho5, d2⟩
      rw [nats_len] at hn5
      have N5 := Lib.hid hn5
      have O5 := Lib.hid ho5
      have D2 := Lib.hid d2
      clear hn5 ho5 d2 HE8
      go_wp2_with fail
      obtain ⟨eT, hET⟩ : ∃ x, etx v.data.toList = x := ⟨_, rfl⟩
      have HK : Hid ((eT = 0 ∧ ofT (tx v.data.toList) = (v.data.toList, 0)) ∨ eT = 4) := Lib.hid (by
        by_cases h : etx v.data.toList = 0
        · exact .inl ⟨by rw [← hET]; exact h, of_tx _ h⟩
        · refine .inr ?_
          rw [← hET]
          unfold etx at h ⊢
          split at h
          · simp at h
          · rename_i h3; rw [if_neg h3])
      have HET := Lib.hid hET
      clear hET
      refine (progTexts_any v _ (by omega)).mono ?_
      rw [HET.out]
      clear HET
      rintro e z3 ⟨A6, n6, c6, hn6, rfl, ho6, d3⟩
      rw [strs_len] at hn6
      have N6 := Lib.hid hn6
      have S4 := Lib.hid (made_src O4.out (bt2 D2.out D2.out.size d3)).1
      have S5 := Lib.hid (made_src O5.out d3).1
      have S6 := Lib.hid (made_src ho6 (Below.refl _ _)).1
      have D3 := Lib.hid (bt2 D1.out D1.out.size (bt2 D2.out D2.out.size d3))
      clear hn6 ho6 d3 D1 D2 O4 O5
      have l4 : n4 ≤ 1048576 := by have h1 := c32_lim v.data.toList; have h2 := N4.out; have h3 := HZ.out; omega
      have l5 : n5 ≤ 1048576 := by have h1 := c64_lim v.data.toList; have h2 := N5.out; have h3 := HZ.out; omega
      have l6 : n6 ≤ 1048576 := by have h1 := tx_lim v.data.toList; have h2 := N6.out; have h3 := HZ.out; omega
      have l7 : Hid ((vT (tx v.data.toList)).length ≤ 4194304) := Lib.hid (by have h1 := vT_tx v.data.toList; have h3 := HZ.out; omega)
      have D4 := D3
      have S5' := S5
      have S6' := S6
      clear D3 S5 S6 S4
      have D5 := D4
      have S6'' := S6'
      clear D4 S6'
      rcases HK.out with ⟨rfl, ho⟩ | rfl
      · have HO6 := Lib.hid ho
        clear ho HK
        go_wp2_with fail
        refine (ofTexts_any A6 c6 n6 (tx v.data.toList) _ N6.out l7.out (by omega) S6''.out).mono ?_
        rw [HO6.out, show (str (v.data.toList, (0 : Int)).1) = v from rfl]
        rintro e z6 ⟨rfl, d6⟩
        have D6 := Lib.hid (bt2 D5.out D5.out.size d6)
        clear d6 D5
        go_wp2_with fail
        go_ret
        exact ⟨rfl, D6.out⟩
      · clear HK
        go_wp2_with fail
        go_ret
        exact ⟨rfl, D5.out⟩
end Go.Proofs.YtomhfmcmjcghoaaGreatDoor.Cl
