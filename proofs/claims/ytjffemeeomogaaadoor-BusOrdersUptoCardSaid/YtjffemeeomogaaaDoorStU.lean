/- slices.SortStableFunc's merge, behind its search. -/
import Derived.Test.YtjffemeeomogaaaDoorStS
import Derived.Deep.DeepCutAuto
import Derived.Deep.CutBlock
namespace Go.Proofs.YtjffemeeomogaaaDoor.St
open Go.ChangeShapes Go.WideShapes Go.ChangeAt Go.RowKit Go.Sort Go.Shelf
/-- What stands behind a statement. -/
def sndC : Code → Code
  | .seq _ b => b
  | c => c
variable {α : Type} [Inhabited α]

set_option maxRecDepth 100000 in
set_option maxHeartbeats 32000000 in
theorem sym_tail (num : α → Int) (key : α → Int) (g : Nat) (cb : Array Value) (blk off cap a m b q j lo r0 : Nat) (d0 d : Array α) (w0 wr : World) (s5 s6 s7 s8 s9 s10 s11 s12 s13 s14 s15 s16 s17 s21 s22 s23 s24 s25 s26 s27 s28 s29 s30 s31 s32 s33 s34 s35 s36 s37 s38 s39 s40 s41 s42 s43 s44 s45 s46 s47 s48 s49 s50 s51 s52 s53 s54 s55 s56 s57 s58 s59 s60 s61 s62 s63 s64 s65 s66 s67 s68 s69 s70 s71 s72 s73 s74 s75 s76 s77 s78 s79 s80 s81 s82 s83 s84 s85 s86 s87 s88 s89 s90 s91 s92 s93 s94 s95 s96 s97 s98 s99 s100 s101 s102 s103 s104 s105 s106 s107 s108 s109 s110 s111 s112 s113 s114 s115 s116 s117 s118 s119 s120 s121 s122 s123 s124 s125 s126 s127 s128 s129 s130 s131 s132 s133 s134 s135 s136 s137 s138 s139 s140 s141 s142 s143 s144 s145 s146 s147 s148 s149 s150 s151 s152 s153 s154 s155 s156 s157 s158 s159 s160 s161 s162 s163 s164 s165 s166 s167 s168 s169 s170 s171 s172 s173 s174 s175 s176 s177 s178 s179 s180 s181 s182 s183 s184 s185 s186 s187 s188 s189 s190 s191 s192 s193 s194 s195 s196 s197 s198 s199 s200 s201 s202 s203 s204 s205 s206 s207 s208 s209 s210 s211 s212 s213 s214 s215 s216 s217 s218 s219 : Value)
    (IH : ∀ (a' m' b' : Nat) (d' : Array α) (w' : World), b' - a' < b - a → d'.size = d0.size → SW (enc num) w0 blk off d' w' → a' < m' → m' < b' → b' ≤ d'.size → Srt key (seg d' a' m') → Srt key (seg d' m' b') →
      Calls Tryd.prog 140 #[.slice (some ⟨blk, off, none⟩) d'.size cap, .int .i64 (a' : Int), .int .i64 (m' : Int), .int .i64 (b' : Int), .func (.func g) #[] cb] w' fun e W => e = .returned (.tuple #[]) ∧ ∃ d2, (Ch key a' b' d' d2 ∧ Srt key (seg d2 a' b')) ∧ SW (enc num) w0 blk off d2 W)
    (R : Row1 (enc num) w0 blk off d0) (HZ : Hid (d.size = d0.size)) (S1 : Hid (SW (enc num) w0 blk off d wr)) (HX : Hid (Srt key (seg d a m))) (HY : Hid (Srt key (seg d m b))) (hsz : d.size < 4611686018427387904) (h1 : a + 1 < m) (h2 : m + 1 < b) (hb : b ≤ d.size)
    (e1 : a ≤ lo) (e3 : r0 ≤ m) (e4 : r0 ≤ q) (e5 : q + m ≤ lo + b) (HE6 : Hid (lo = a ∨ q + m = lo + b)) (HE7 : Hid (r0 = m ∨ r0 = q)) (hqb : q < b) (hqa : a < q) (hai : lo ≤ j) (hjb : j ≤ r0)
    (H1 : Hid (lo < j → key d[j - 1]! ≤ key d[q + m - j]!)) (H2 : Hid (j < r0 → key d[q + m - 1 - j]! < key d[j]!)) :
    Code.wp Tryd.prog (sndC (sndC (sndC (sndC (sndC (sndC (sndC (sndC (Tryd.f140.body.getD .skip)))))))))
      (bodyPost Tryd.prog Tryd.f140 (fun e w' => e = .returned (.tuple #[]) ∧ ∃ d', (Ch key a b d d' ∧ Srt key (seg d' a b)) ∧ SW (enc num) w0 blk off d' w')) ⟨(.slice (some ⟨blk, off, none⟩) d.size cap :: .int .i64 (a : Int) :: .int .i64 (m : Int) :: .int .i64 (b : Int) :: .func (.func g) #[] cb :: s5 :: s6 :: s7 :: s8 :: s9 :: s10 :: s11 :: s12 :: s13 :: s14 :: s15 :: s16 :: s17 :: .int .i64 (q : Int) :: .int .i64 ((q : Int) + (m : Int)) :: .int .i64 (j : Int) :: s21 :: s22 :: s23 :: s24 :: s25 :: s26 :: s27 :: s28 :: s29 :: s30 :: s31 :: s32 :: s33 :: s34 :: s35 :: s36 :: s37 :: s38 :: s39 :: s40 :: s41 :: s42 :: s43 :: s44 :: s45 :: s46 :: s47 :: s48 :: s49 :: s50 :: s51 :: s52 :: s53 :: s54 :: s55 :: s56 :: s57 :: s58 :: s59 :: s60 :: s61 :: s62 :: s63 :: s64 :: s65 :: s66 :: s67 :: s68 :: s69 :: s70 :: s71 :: s72 :: s73 :: s74 :: s75 :: s76 :: s77 :: s78 :: s79 :: s80 :: s81 :: s82 :: s83 :: s84 :: s85 :: s86 :: s87 :: s88 :: s89 :: s90 :: s91 :: s92 :: s93 :: s94 :: s95 :: s96 :: s97 :: s98 :: s99 :: s100 :: s101 :: s102 :: s103 :: s104 :: s105 :: s106 :: s107 :: s108 :: s109 :: s110 :: s111 :: s112 :: s113 :: s114 :: s115 :: s116 :: s117 :: s118 :: s119 :: s120 :: s121 :: s122 :: s123 :: s124 :: s125 :: s126 :: s127 :: s128 :: s129 :: s130 :: s131 :: s132 :: s133 :: s134 :: s135 :: s136 :: s137 :: s138 :: s139 :: s140 :: s141 :: s142 :: s143 :: s144 :: s145 :: s146 :: s147 :: s148 :: s149 :: s150 :: s151 :: s152 :: s153 :: s154 :: s155 :: s156 :: s157 :: s158 :: s159 :: s160 :: s161 :: s162 :: s163 :: s164 :: s165 :: s166 :: s167 :: s168 :: s169 :: s170 :: s171 :: s172 :: s173 :: s174 :: s175 :: s176 :: s177 :: s178 :: s179 :: s180 :: s181 :: s182 :: s183 :: s184 :: s185 :: s186 :: s187 :: s188 :: s189 :: s190 :: s191 :: s192 :: s193 :: s194 :: s195 :: s196 :: s197 :: s198 :: s199 :: s200 :: s201 :: s202 :: s203 :: s204 :: s205 :: s206 :: s207 :: s208 :: s209 :: s210 :: s211 :: s212 :: s213 :: s214 :: s215 :: s216 :: s217 :: s218 :: s219 :: []).toArray, []⟩ wr := by
  have HI := Lib.hid IH
  have m1 : (a : Int) < (m : Int) := by omega
  have m2 : (m : Int) < (b : Int) := by omega
  have m3 : b ≤ d.size := hb
  have m4 : (q : Int) < (b : Int) := by omega
  clear IH
  conv => arg 2; whnf
  obtain ⟨e, he⟩ : ∃ e, e = q + m - j := ⟨_, rfl⟩
  have hez : (q : Int) + (m : Int) - (j : Int) = (e : Int) := by omega
  have f1 : m ≤ e := by omega
  have f2 : e ≤ b := by omega
  have f3 : j ≤ m := by omega
  have f4 : a ≤ j := by omega
  have f5 : q = j + (e - m) := by omega
  have HQ := Lib.hid f5
  have C1 := Lib.hid (show a < j → e < b → key d[j - 1]! ≤ key d[e]! from fun c1 c2 => by
    have := HE6.out
    have := H1.out (by omega)
    rwa [← he] at this)
  have C2 := Lib.hid (show j < m → m < e → key d[e - 1]! < key d[j]! from fun c1 c2 => by
    have := HE7.out
    have := H2.out (by omega)
    rwa [show q + m - 1 - j = e - 1 by omega] at this)
  have HF := Lib.hid (show a ≤ j ∧ j ≤ m ∧ m ≤ e ∧ e ≤ b from ⟨f4, f3, f1, f2⟩)
  have m5 : (j : Int) ≤ (m : Int) := by omega
  clear he f5 H1 H2 e1 e3 e4 e5 hai hjb h1 h2 hb
  go_upto_region 39 with fail
  go_cut [185] (fun sB wx => (∃ B : Bool, sB = .bool B ∧ Hid (B = true ↔ j < m ∧ m < e)) ∧ wx = wr)
  case first =>
    by_cases k1 : j < m
    · have z1 : (j : Int) < (m : Int) := by omega
      by_cases k2 : m < e
      · have z2 : (m : Int) < (e : Int) := by omega
        clear f1 f2 f3 f4
        go_wp2_with fail
        go_meet
        exact ⟨⟨true, rfl, Lib.hid ⟨fun _ => ⟨k1, k2⟩, fun _ => rfl⟩⟩, rfl⟩
      · have z2 : ¬ (m : Int) < (e : Int) := by omega
        clear f1 f2 f3 f4
        go_wp2_with fail
        go_meet
        exact ⟨⟨false, rfl, Lib.hid ⟨(fun h => nomatch h), fun h => absurd h.2 k2⟩⟩, rfl⟩
    · have z1 : ¬ (j : Int) < (m : Int) := by omega
      clear f1 f2 f3 f4
      go_wp2_with fail
      go_meet
      exact ⟨⟨false, rfl, Lib.hid ⟨(fun h => nomatch h), fun h => absurd h.1 k1⟩⟩, rfl⟩
  case rest =>
  obtain ⟨⟨B, rfl, HB⟩, hw⟩ := hcut
  rw [hw]
  clear hw wc
  go_upto_if 185 with fail
  go_cut [24] (fun s24 wx => s24 = .int .i64 (e : Int) ∧ Hid (∃ d1, Rot j m e d d1 ∧ SW (enc num) w0 blk off d1 wx))
  case first =>
    cases B with
    | true =>
      obtain ⟨k1, k2⟩ := HB.out.1 rfl
      have HRO := Lib.hid (rotate_any num (.func (.func g) #[] cb) blk off cap j m e d0 d w0 wr R HZ.out S1.out k1 k2 (by omega) hsz)
      go_wp2_with fail
      refine HRO.out.mono ?_
      rintro e0 w1 ⟨rfl, d1, hd1, hS⟩
      have H3 := Lib.hid (show ∃ d1, Rot j m e d d1 ∧ SW (enc num) w0 blk off d1 w1 from ⟨d1, hd1, hS⟩)
      clear hd1 hS
      go_wp2_with fail
      go_meet
      exact ⟨rfl, H3⟩
    | false =>
      have H3 := Lib.hid (show ∃ d1, Rot j m e d d1 ∧ SW (enc num) w0 blk off d1 wr from ⟨d, Rot.triv j m e d (by
        by_cases k1 : j < m
        · exact .inr (Nat.not_lt.1 fun k2 => nomatch HB.out.2 ⟨k1, k2⟩)
        · exact .inl (by omega)) f3 f1, S1.out⟩)
      go_wp2_with fail
      go_meet
      exact ⟨rfl, H3⟩
  case rest =>
  clear S1 hez HB B
  obtain ⟨rfl, hD1⟩ := hcut
  obtain ⟨d1, hd1, hS1⟩ := hD1.out
  clear hD1
  have R1 := Lib.hid hd1
  have S1 := Lib.hid hS1
  have Z1 := Lib.hid hd1.1
  clear hd1 hS1
  have A1 := Lib.hid (show Srt key (seg d1 a j) from by rw [R1.out.out (.inl (Nat.le_refl _))]; exact HX.out.part (Nat.le_refl _) f3)
  have A2 := Lib.hid (show Srt key (seg d1 j q) from by rw [HQ.out, R1.out.lo f3 f1]; exact HY.out.part (Nat.le_refl _) f2)
  have A3 := Lib.hid (show Srt key (seg d1 q e) from by rw [HQ.out, R1.out.hi f3 f1]; exact HX.out.part f4 (Nat.le_refl _))
  have A4 := Lib.hid (show Srt key (seg d1 e b) from by rw [R1.out.out (.inr (Nat.le_refl _))]; exact HY.out.part f1 (Nat.le_refl _))
  have g1 : j ≤ q := by have := HQ.out; omega
  have g2 : q ≤ e := by have := HQ.out; omega
  obtain ⟨wc0, hwc0⟩ : ∃ x, x = wc := ⟨_, rfl⟩
  rw [← hwc0] at S1 ⊢
  clear hwc0 wc
  go_upto_region 41 with fail
  go_cut [199] (fun sB wx => (∃ B : Bool, sB = .bool B ∧ Hid (B = true ↔ a < j ∧ j < q)) ∧ wx = wc0)
  case first =>
    by_cases k1 : a < j
    · have z1 : (a : Int) < (j : Int) := by omega
      by_cases k2 : j < q
      · have z2 : (j : Int) < (q : Int) := by omega
        go_wp2_with fail
        go_meet
        exact ⟨⟨true, rfl, Lib.hid ⟨fun _ => ⟨k1, k2⟩, fun _ => rfl⟩⟩, rfl⟩
      · have z2 : ¬ (j : Int) < (q : Int) := by omega
        go_wp2_with fail
        go_meet
        exact ⟨⟨false, rfl, Lib.hid ⟨(fun h => nomatch h), fun h => absurd h.2 k2⟩⟩, rfl⟩
    · have z1 : ¬ (a : Int) < (j : Int) := by omega
      go_wp2_with fail
      go_meet
      exact ⟨⟨false, rfl, Lib.hid ⟨(fun h => nomatch h), fun h => absurd h.1 k1⟩⟩, rfl⟩
  case rest =>
  obtain ⟨⟨B, rfl, HB⟩, hw⟩ := hcut
  rw [hw]
  clear hw wc
  go_upto_if 199 with fail
  go_cut [24] (fun s24 wx => s24 = .int .i64 (e : Int) ∧ Hid (∃ d2, Ch key a q d1 d2 ∧ Srt key (seg d2 a q) ∧ SW (enc num) w0 blk off d2 wx))
  case first =>
    cases B with
    | true =>
      obtain ⟨k1, k2⟩ := HB.out.1 rfl
      have HRO := HI.out a j q d1 wc0 (by omega) (Z1.out.trans HZ.out) S1.out k1 k2 (by rw [Z1.out]; omega) A1.out A2.out
      rw [Z1.out] at HRO
      have HRO' := Lib.hid HRO
      clear HRO
      go_wp2_with fail
      refine HRO'.out.mono ?_
      rintro e0 w1 ⟨rfl, d2, ⟨hd1, hd2⟩, hS⟩
      have H3 := Lib.hid (show ∃ d2, Ch key a q d1 d2 ∧ Srt key (seg d2 a q) ∧ SW (enc num) w0 blk off d2 w1 from ⟨d2, hd1, hd2, hS⟩)
      clear hd1 hd2 hS
      go_wp2_with fail
      go_meet
      exact ⟨rfl, H3⟩
    | false =>
      have H3 := Lib.hid (show ∃ d2, Ch key a q d1 d2 ∧ Srt key (seg d2 a q) ∧ SW (enc num) w0 blk off d2 wc0 from ⟨d1, Ch.refl _ _ _, by
        by_cases k1 : a < j
        · have k2 : ¬ j < q := fun k2 => nomatch HB.out.2 ⟨k1, k2⟩
          rw [show q = j by omega]
          exact A1.out
        · rw [show a = j by omega]
          exact A2.out, S1.out⟩)
      go_wp2_with fail
      go_meet
      exact ⟨rfl, H3⟩
  case rest =>
  clear S1 HB B
  obtain ⟨rfl, hD2⟩ := hcut
  obtain ⟨d2, hd1, hd2, hS2⟩ := hD2.out
  clear hD2
  have R2 := Lib.hid hd1
  have Q2 := Lib.hid hd2
  have S2 := Lib.hid hS2
  have Z2 := Lib.hid (hd1.1.trans Z1.out)
  have A5 := Lib.hid (show Srt key (seg d2 q e) from by rw [hd1.out (.inr (Nat.le_refl _))]; exact A3.out)
  have A6 := Lib.hid (show Srt key (seg d2 e b) from by rw [hd1.out (.inr g2)]; exact A4.out)
  clear hd1 hd2 hS2
  have FIN := Lib.hid (fun (d3 : Array α) (x : Ch key q b d2 d3) (y : Srt key (seg d3 q b)) => sym_final HX.out HY.out f4 f3 f1 f2 HQ.out C1.out C2.out R1.out R2.out x Q2.out y)
  by_cases k1 : q < e
  · by_cases k2 : e < b
    · have z1 : (q : Int) < (e : Int) := by omega
      have z2 : (e : Int) < (b : Int) := by omega
      have HRO := HI.out q e b d2 wc (by omega) (Z2.out.trans HZ.out) S2.out k1 k2 (by rw [Z2.out]; omega) A5.out A6.out
      rw [Z2.out] at HRO
      have HRO' := Lib.hid HRO
      clear HRO
      go_wp2_with fail
      refine HRO'.out.mono ?_
      rintro e0 w1 ⟨rfl, d3, ⟨hd1, hd2⟩, hS⟩
      have H3 := Lib.hid (FIN.out d3 hd1 hd2)
      have S3 := Lib.hid hS
      clear hd1 hd2 hS
      go_wp2_with fail
      go_end0
      exact ⟨rfl, d3, H3.out, S3.out⟩
    · have z1 : (q : Int) < (e : Int) := by omega
      have z2 : ¬ (e : Int) < (b : Int) := by omega
      go_wp2_with fail
      go_end0
      exact ⟨rfl, d2, FIN.out d2 (Ch.refl _ _ _) (by rw [show b = e by omega]; exact A5.out), S2.out⟩
  · have z1 : ¬ (q : Int) < (e : Int) := by omega
    go_wp2_with fail
    go_end0
    exact ⟨rfl, d2, FIN.out d2 (Ch.refl _ _ _) (by rw [show q = e by omega]; exact A6.out), S2.out⟩

end Go.Proofs.YtjffemeeomogaaaDoor.St
