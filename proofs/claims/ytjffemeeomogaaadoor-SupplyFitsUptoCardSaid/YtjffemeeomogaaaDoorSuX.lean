/- The law SupplyFits, from the parting of the windows on, where they have nothing in common. -/
import Derived.Test.YtjffemeeomogaaaDoorSuR
import Derived.Test.YtjffemeeomogaaaDoorSuS
namespace Go.Proofs.YtjffemeeomogaaaDoor.Su
open Go.ChangeShapes Go.WideShapes Go.ChangeAt Go.RowKit Own Ro

/-- What stands behind a statement. -/
def sndD : Code → Code
  | .seq _ b => b
  | c => c
theorem mt_either {F : List Pr} (h : Fine F) : (mt F).2.2 = 0 ∨ (mt F).2.2 = 6 := by
  by_cases c : hiF F < loF F
  · rw [mt_none (fine_all h) c]; exact .inr rfl
  · rw [mt_some (fine_all h) c]; exact .inl rfl
theorem mt_okay {F : List Pr} (h : Fine F) (h0 : (mt F).2.2 = 0) : loF F ≤ hiF F ∧ (mt F).1 = loF F ∧ (mt F).2.1 = hiF F := by
  by_cases c : hiF F < loF F
  · rw [mt_none (fine_all h) c] at h0; cases h0
  · rw [mt_some (fine_all h) c]; exact ⟨by omega, rfl, rfl⟩
set_option maxRecDepth 100000 in
set_option maxHeartbeats 8000000 in
theorem tail_none (A A' : Option Addr) (c c' n z g8 : Nat) (cut v : Int) (F : List Pr) (w w0 : World) (s3 s4 s5 s6 s10 s11 s13 s14 s15 s16 s17 s18 s19 s20 s21 s22 s23 s24 s25 s26 s27 s28 s29 s30 s31 s32 s33 s34 s35 s36 s37 s38 s39 s40 s41 s42 s43 s44 s45 s46 s47 s48 s49 s50 s51 s52 s53 s54 s55 s56 s57 s58 s59 s60 s61 s62 s63 s64 s65 s66 s67 s68 s69 s70 s71 s72 s73 s74 s75 s76 s77 s78 s79 s80 s81 s82 s83 s84 s85 s86 s87 s88 s89 s90 s91 s92 s93 s94 s95 s96 s97 s98 s99 s100 s101 s102 s103 s104 s105 s106 s107 s108 s109 s110 s111 s112 s113 s114 s115 s116 s117 s118 s119 s120 s121 s122 s123 s124 s125 s126 s127 s128 s129 s130 s131 s132 s133 s134 s135 s136 s137 s138 s139 s140 s141 s142 s143 s144 s145 s146 s147 s148 s149 s150 s151 s152 s153 s154 s155 s156 s157 s158 s159 s160 s161 s162 s163 s164 s165 s166 s167 s168 s169 s170 s171 s172 s173 s174 s175 s176 s177 s178 s179 s180 s181 s182 s183 s184 s185 s186 s187 s188 s189 s190 s191 s192 s193 s194 s195 s196 s197 s198 s199 s200 s201 s202 s203 s204 s205 s206 s207 s208 s209 s210 s211 s212 s213 s214 s215 s216 s217 s218 s219 s220 s221 s222 s223 s224 : Value)
    (hT : Tb w) (hBW : Below w.heap.size w w0) (hO : ∃ W3, Below W3.heap.size W3 w0 ∧ W3.ownsRow w.heap.size 55 2 (.slice A' n c') n (prsV F)) (hN : n = F.length) (hb : n ≤ 2000000) (hcap : n ≤ c')
    (hc8 : cells2 w0 g8 (.int .i64 0) (.int .i64 0)) (hF : Fine F) (hmt : mt F = (0, 0, 6)) (hz : z ≤ n) (hzl : n ≠ 0 → z < n) :
    Code.wp Tryd.prog (sndD (sndD (sndD (sndD (sndD (sndD (sndD (sndD (Tryd.f5.body.getD .skip)))))))))
      (bodyPost Tryd.prog Tryd.f5 (fun e w' => e = .returned (.bool true) ∧ Below w.heap.size w w')) ⟨(.slice A n c :: .int .i64 cut :: .int .i64 v :: s3 :: s4 :: s5 :: s6 :: .slice A' n c' :: .pointer (some ⟨g8, 0, none⟩) :: .int .i64 6 :: s10 :: s11 :: .int .i64 (z : Int) :: s13 :: s14 :: s15 :: s16 :: s17 :: s18 :: s19 :: s20 :: s21 :: s22 :: s23 :: s24 :: s25 :: s26 :: s27 :: s28 :: s29 :: s30 :: s31 :: s32 :: s33 :: s34 :: s35 :: s36 :: s37 :: s38 :: s39 :: s40 :: s41 :: s42 :: s43 :: s44 :: s45 :: s46 :: s47 :: s48 :: s49 :: s50 :: s51 :: s52 :: s53 :: s54 :: s55 :: s56 :: s57 :: s58 :: s59 :: s60 :: s61 :: s62 :: s63 :: s64 :: s65 :: s66 :: s67 :: s68 :: s69 :: s70 :: s71 :: s72 :: s73 :: s74 :: s75 :: s76 :: s77 :: s78 :: s79 :: s80 :: s81 :: s82 :: s83 :: s84 :: s85 :: s86 :: s87 :: s88 :: s89 :: s90 :: s91 :: s92 :: s93 :: s94 :: s95 :: s96 :: s97 :: s98 :: s99 :: s100 :: s101 :: s102 :: s103 :: s104 :: s105 :: s106 :: s107 :: s108 :: s109 :: s110 :: s111 :: s112 :: s113 :: s114 :: s115 :: s116 :: s117 :: s118 :: s119 :: s120 :: s121 :: s122 :: s123 :: s124 :: s125 :: s126 :: s127 :: s128 :: s129 :: s130 :: s131 :: s132 :: s133 :: s134 :: s135 :: s136 :: s137 :: s138 :: s139 :: s140 :: s141 :: s142 :: s143 :: s144 :: s145 :: s146 :: s147 :: s148 :: s149 :: s150 :: s151 :: s152 :: s153 :: s154 :: s155 :: s156 :: s157 :: s158 :: s159 :: s160 :: s161 :: s162 :: s163 :: s164 :: s165 :: s166 :: s167 :: s168 :: s169 :: s170 :: s171 :: s172 :: s173 :: s174 :: s175 :: s176 :: s177 :: s178 :: s179 :: s180 :: s181 :: s182 :: s183 :: s184 :: s185 :: s186 :: s187 :: s188 :: s189 :: s190 :: s191 :: s192 :: s193 :: s194 :: s195 :: s196 :: s197 :: s198 :: s199 :: s200 :: s201 :: s202 :: s203 :: s204 :: s205 :: s206 :: s207 :: s208 :: s209 :: s210 :: s211 :: s212 :: s213 :: s214 :: s215 :: s216 :: s217 :: s218 :: s219 :: s220 :: s221 :: s222 :: s223 :: s224 :: []).toArray, []⟩ w0 := by
  obtain ⟨W3, hb3, ho3⟩ := hO
  have HO3 := Lib.hid ho3
  have CF := Lib.hid ((own_cells ho3).below hb3)
  have HN := Lib.hid hN
  have C8 := Lib.hid hc8
  have HFF := Lib.hid hF
  have HMT := Lib.hid hmt
  have HTW := Lib.hid (fun z h1 h2 => two_parts (F := F) z (Int.not_lt.2 h1) (Int.not_lt.2 h2) hF)
  have HBW := Lib.hid hBW
  have HTB := Lib.hid hT
  have hzn := hz
  have hzlt := hzl
  clear hb3 ho3 hN hc8 hF hmt hBW hT hz hzl
  conv => arg 2; whnf
  go_upto_region 15 with fail
  go_cut [13, 14] (fun s13 s14 wx => ∃ g13 x1 x2 x3, s13 = .pointer (some ⟨g13, 0, none⟩) ∧ cells2 wx g13 (.int .i64 x1) (.int .i64 x2) ∧ s14 = .int .i64 x3 ∧ mt (F.drop z) = (x1, x2, x3) ∧ Below w0.heap.size w0 wx)
  case first =>
    by_cases h0 : n = 0
    · have hz0 : z = 0 := by omega
      have hF0 : F.drop z = [] := List.drop_eq_nil_of_le (by rw [← HN.out]; omega)
      have HM15 := Lib.hid (fun X cc => meet_any X cc 0 [] w0 rfl (by decide) ⟨rfl, .inl rfl⟩)
      unfold winV at HM15
      subst h0 hz0
      go_wp2_with fail
      all_goals
        refine (HM15.out _ _).mono ?_
        rintro e w5 ⟨rfl, b5⟩
        have B5 := Lib.hid b5
        clear b5
        go_wp2_with fail
        go_meet
        exact ⟨_, _, _, _, rfl, cells2_new w5 _ _ _, rfl, by rw [hF0], bt B5.out (grows' _ _)⟩
    · have hz := hzlt h0
      obtain ⟨g7, rfl, _, _⟩ := own_shapeK HO3.out (by omega)
      have HM15 := Lib.hid (meet_any (some ⟨g7, z * 2, none⟩) (c' - z) (n - z) (F.drop z) w0 (by rw [List.length_drop, ← HN.out]) (by omega) (cells_drop CF.out hz))
      unfold winV at HM15
      have z1 : (0 : Int) ≤ (z : Int) := by omega
      have z2 : (z : Int) ≤ (n : Int) := by omega
      have z3 : (n : Int) ≤ (c' : Int) := by omega
      have z4 : ¬ c' = z := by omega
      go_wp2_with fail
      refine HM15.out.mono ?_
      rintro e w5 ⟨rfl, b5⟩
      have B5 := Lib.hid b5
      clear b5
      go_wp2_with fail
      go_meet
      exact ⟨_, _, _, _, rfl, cells2_new w5 _ _ _, rfl, rfl, bt B5.out (grows' _ _)⟩
  case rest =>
  obtain ⟨g13, x1, x2, x3, rfl, hc13, rfl, hm13, hb13⟩ := hcut
  have HB13 := Lib.hid hb13
  have CF1 := Lib.hid (CF.out.below hb13)
  have C81 := Lib.hid (cells2_below C8.out hb13)
  have H1C := Lib.hid (mt_either (fine_drop HFF.out z))
  have H2C := Lib.hid (mt_either (fine_take HFF.out z))
  rw [hm13] at H1C
  obtain ⟨y1, y2, y3, hy⟩ : ∃ y1 y2 y3, mt (F.take z) = (y1, y2, y3) := ⟨_, _, _, rfl⟩
  rw [hy] at H2C
  obtain ⟨m1, m2, m3, hmm⟩ : ∃ m1 m2 m3, mt [(x1, x2), (y1, y2)] = (m1, m2, m3) := ⟨_, _, _, rfl⟩
  have HALL := Lib.hid (show x3 = 0 → y3 = 0 → m1 = 0 ∧ m2 = 0 ∧ m3 = 6 from fun e1 e2 => by
    obtain ⟨p1, p2, p3⟩ := mt_okay (fine_drop HFF.out z) (by rw [hm13, e1])
    obtain ⟨r1, r2, r3⟩ := mt_okay (fine_take HFF.out z) (by rw [hy, e2])
    rw [hm13] at p2 p3
    rw [hy] at r2 r3
    have := HTW.out z p1 r1
    rw [← p2, ← p3, ← r2, ← r3, HMT.out] at this
    simp only at this
    rw [hmm] at this
    injection this with q1 q2
    injection q2 with q2 q3
    exact ⟨q1, q2, q3⟩)
  have C13 := Lib.hid hc13
  have HM16 := Lib.hid (meet_any A' c' z (F.take z) wc (by rw [List.length_take, ← HN.out]; omega) (by omega) (cells_take CF1.out hzn))
  rw [hy] at HM16
  have HMM := Lib.hid hmm
  unfold winV at HM16
  clear hc13 hb13 hm13 hy hmm
  have z1 : (0 : Int) ≤ (z : Int) := by omega
  have z2 : (z : Int) ≤ (n : Int) := by omega
  have z3 : (n : Int) ≤ (c' : Int) := by omega
  have z4 : (z : Int) ≤ (c' : Int) := by omega
  go_wp2_with fail
  refine HM16.out.mono ?_
  rintro e w6 ⟨rfl, b6⟩
  have B6 := Lib.hid (bt b6 (grows' w6 (.cells #[.int .i64 y1, .int .i64 y2] 55)))
  have C15 := Lib.hid (cells2_new w6 (.int .i64 y1) (.int .i64 y2) 55)
  clear b6 HM16
  go_upto_region 17 with fail
  generalize w6.alloc (.cells #[.int .i64 y1, .int .i64 y2] 55) = V2 at B6 C15 ⊢
  generalize w6.heap.size = g15 at C15 ⊢
  have C132 := Lib.hid (cells2_below C13.out B6.out)
  have C82 := Lib.hid (cells2_below C81.out B6.out)
  have HM17 := Lib.hid (meet_any (some ⟨V2.heap.size, 0, none⟩) 2 2 [(x1, x2), (y1, y2)] _ rfl (by decide) (cells4_new V2 (x1, x2) (y1, y2) 55))
  rw [HMM.out] at HM17
  unfold winV at HM17
  obtain ⟨p0, p1⟩ := C132.out
  obtain ⟨q0, q1⟩ := C15.out
  clear C13 C81
  go_wp2_with fail
  refine HM17.out.mono ?_
  rintro e w7 ⟨rfl, b7⟩
  have B7 := Lib.hid (bt (bt (grows' V2 (.cells #[.int .i64 x1, .int .i64 x2, .int .i64 y1, .int .i64 y2] 55)) b7) (grows' w7 (.cells #[.int .i64 m1, .int .i64 m2] 55)))
  have C17 := Lib.hid (cells2_new w7 (.int .i64 m1) (.int .i64 m2) 55)
  clear b7 HM17 p0 p1 q0 q1
  go_upto_region 18 with fail
  generalize w7.alloc (.cells #[.int .i64 m1, .int .i64 m2] 55) = V4 at B7 C17 ⊢
  generalize w7.heap.size = g17 at C17 ⊢
  have C84 := Lib.hid (cells2_below C82.out B7.out)
  have HBV := Lib.hid (bt HBW.out (bt HB13.out (bt B6.out B7.out)))
  have HAW := Lib.hid (awake_any V4 (Tb.below HTB.out HBV.out))
  clear C82 C132 C15
  rcases H1C.out with h1 | h1
  · rcases H2C.out with h2 | h2
    · obtain ⟨rfl, rfl, rfl⟩ := HALL.out h1 h2
      subst h1 h2
      obtain ⟨r0, r1⟩ := C17.out
      obtain ⟨t0, t1⟩ := C84.out
      have HEQ := ne_win 0 0 V4
      go_wp2_with fail
      refine HAW.out.mono ?_
      rintro e w10 ⟨rfl, rfl⟩
      go_wp2_with fail
      go_ret
      exact ⟨rfl, HBV.out⟩
    · skip
      subst h1 h2
      go_wp2_with fail
      refine HAW.out.mono ?_
      rintro e w10 ⟨rfl, rfl⟩
      go_wp2_with fail
      go_ret
      exact ⟨rfl, HBV.out⟩
  · skip
    subst h1
    go_wp2_with fail
    refine HAW.out.mono ?_
    rintro e w10 ⟨rfl, rfl⟩
    go_wp2_with fail
    go_ret
    exact ⟨rfl, HBV.out⟩
end Go.Proofs.YtjffemeeomogaaaDoor.Su
