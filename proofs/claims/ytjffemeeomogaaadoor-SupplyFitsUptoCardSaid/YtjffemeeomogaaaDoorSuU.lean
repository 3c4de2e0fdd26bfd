/- The law SupplyFits, from the parting of the windows on. -/
import Derived.Test.YtjffemeeomogaaaDoorSuR
import Derived.Test.YtjffemeeomogaaaDoorSuS
namespace Go.Proofs.YtjffemeeomogaaaDoor.Su
open Go.ChangeShapes Go.WideShapes Go.ChangeAt Go.RowKit Own Ro

/-- What stands behind a statement. -/
def sndC : Code → Code
  | .seq _ b => b
  | c => c
set_option maxRecDepth 100000 in
set_option maxHeartbeats 8000000 in
theorem tail_some (A A' : Option Addr) (c c' n z g8 : Nat) (cut v lo hi : Int) (F : List Pr) (w w0 : World) (s3 s4 s5 s6 s10 s11 s13 s14 s15 s16 s17 s18 s19 s20 s21 s22 s23 s24 s25 s26 s27 s28 s29 s30 s31 s32 s33 s34 s35 s36 s37 s38 s39 s40 s41 s42 s43 s44 s45 s46 s47 s48 s49 s50 s51 s52 s53 s54 s55 s56 s57 s58 s59 s60 s61 s62 s63 s64 s65 s66 s67 s68 s69 s70 s71 s72 s73 s74 s75 s76 s77 s78 s79 s80 s81 s82 s83 s84 s85 s86 s87 s88 s89 s90 s91 s92 s93 s94 s95 s96 s97 s98 s99 s100 s101 s102 s103 s104 s105 s106 s107 s108 s109 s110 s111 s112 s113 s114 s115 s116 s117 s118 s119 s120 s121 s122 s123 s124 s125 s126 s127 s128 s129 s130 s131 s132 s133 s134 s135 s136 s137 s138 s139 s140 s141 s142 s143 s144 s145 s146 s147 s148 s149 s150 s151 s152 s153 s154 s155 s156 s157 s158 s159 s160 s161 s162 s163 s164 s165 s166 s167 s168 s169 s170 s171 s172 s173 s174 s175 s176 s177 s178 s179 s180 s181 s182 s183 s184 s185 s186 s187 s188 s189 s190 s191 s192 s193 s194 s195 s196 s197 s198 s199 s200 s201 s202 s203 s204 s205 s206 s207 s208 s209 s210 s211 s212 s213 s214 s215 s216 s217 s218 s219 s220 s221 s222 s223 s224 : Value)
    (hT : Tb w) (hBW : Below w.heap.size w w0) (hO : ∃ W3, Below W3.heap.size W3 w0 ∧ W3.ownsRow w.heap.size 55 2 (.slice A' n c') n (prsV F)) (hN : n = F.length) (hb : n ≤ 2000000) (hcap : n ≤ c')
    (hc8 : cells2 w0 g8 (.int .i64 lo) (.int .i64 hi)) (hF : Fine F) (hmt : mt F = (lo, hi, 0)) (hz : z ≤ n) (hzl : n ≠ 0 → z < n) (hlo : lo = loF F) (hhi : hi = hiF F) :
    Code.wp Tryd.prog (sndC (sndC (sndC (sndC (sndC (sndC (sndC (sndC (Tryd.f5.body.getD .skip)))))))))
      (bodyPost Tryd.prog Tryd.f5 (fun e w' => e = .returned (.bool true) ∧ Below w.heap.size w w')) ⟨(.slice A n c :: .int .i64 cut :: .int .i64 v :: s3 :: s4 :: s5 :: s6 :: .slice A' n c' :: .pointer (some ⟨g8, 0, none⟩) :: .int .i64 0 :: s10 :: s11 :: .int .i64 (z : Int) :: s13 :: s14 :: s15 :: s16 :: s17 :: s18 :: s19 :: s20 :: s21 :: s22 :: s23 :: s24 :: s25 :: s26 :: s27 :: s28 :: s29 :: s30 :: s31 :: s32 :: s33 :: s34 :: s35 :: s36 :: s37 :: s38 :: s39 :: s40 :: s41 :: s42 :: s43 :: s44 :: s45 :: s46 :: s47 :: s48 :: s49 :: s50 :: s51 :: s52 :: s53 :: s54 :: s55 :: s56 :: s57 :: s58 :: s59 :: s60 :: s61 :: s62 :: s63 :: s64 :: s65 :: s66 :: s67 :: s68 :: s69 :: s70 :: s71 :: s72 :: s73 :: s74 :: s75 :: s76 :: s77 :: s78 :: s79 :: s80 :: s81 :: s82 :: s83 :: s84 :: s85 :: s86 :: s87 :: s88 :: s89 :: s90 :: s91 :: s92 :: s93 :: s94 :: s95 :: s96 :: s97 :: s98 :: s99 :: s100 :: s101 :: s102 :: s103 :: s104 :: s105 :: s106 :: s107 :: s108 :: s109 :: s110 :: s111 :: s112 :: s113 :: s114 :: s115 :: s116 :: s117 :: s118 :: s119 :: s120 :: s121 :: s122 :: s123 :: s124 :: s125 :: s126 :: s127 :: s128 :: s129 :: s130 :: s131 :: s132 :: s133 :: s134 :: s135 :: s136 :: s137 :: s138 :: s139 :: s140 :: s141 :: s142 :: s143 :: s144 :: s145 :: s146 :: s147 :: s148 :: s149 :: s150 :: s151 :: s152 :: s153 :: s154 :: s155 :: s156 :: s157 :: s158 :: s159 :: s160 :: s161 :: s162 :: s163 :: s164 :: s165 :: s166 :: s167 :: s168 :: s169 :: s170 :: s171 :: s172 :: s173 :: s174 :: s175 :: s176 :: s177 :: s178 :: s179 :: s180 :: s181 :: s182 :: s183 :: s184 :: s185 :: s186 :: s187 :: s188 :: s189 :: s190 :: s191 :: s192 :: s193 :: s194 :: s195 :: s196 :: s197 :: s198 :: s199 :: s200 :: s201 :: s202 :: s203 :: s204 :: s205 :: s206 :: s207 :: s208 :: s209 :: s210 :: s211 :: s212 :: s213 :: s214 :: s215 :: s216 :: s217 :: s218 :: s219 :: s220 :: s221 :: s222 :: s223 :: s224 :: []).toArray, []⟩ w0 := by
  obtain ⟨W3, hb3, ho3⟩ := hO
  have HO3 := Lib.hid ho3
  have CF := Lib.hid ((own_cells ho3).below hb3)
  have HN := Lib.hid hN
  have C8 := Lib.hid hc8
  have HFF := Lib.hid hF
  have HMT := Lib.hid hmt
  have HHC := Lib.hid (show lo ≤ hi from by
    by_cases h : hi < lo
    · rw [mt_none (fine_all hF) (by rw [← hlo, ← hhi]; exact h)] at hmt; injection hmt with _ h2; injection h2 with _ h3; cases h3
    · exact Int.not_lt.1 h)
  have HPN2 : Hid (∀ z, hiF (F.drop z) < loF (F.drop z) ∨ hiF (F.take z) < loF (F.take z) → hi < lo) := Lib.hid (fun z hz => by rw [hlo, hhi]; exact part_none z hz)
  have HTW := Lib.hid (fun z h1 h2 => two_parts (F := F) z (Int.not_lt.2 h1) (Int.not_lt.2 h2) hF)
  have HNN := Lib.hid (show 0 ≤ lo ∧ hi ≤ 1099511627776 from ⟨by rw [hlo]; exact lo_nn F, by rw [hhi]; exact hi_mx F⟩)
  have HBW := Lib.hid hBW
  have HTB := Lib.hid hT
  have hzn := hz
  have hzlt := hzl
  clear hb3 ho3 hN hc8 hF hmt hlo hhi hBW hT hz hzl
  conv => arg 2; whnf
  go_upto_region 15 with fail
  go_cut [13, 14] (fun s13 s14 wx => ∃ g13 x1 x2 x3, s13 = .pointer (some ⟨g13, 0, none⟩) ∧ cells2 wx g13 (.int .i64 x1) (.int .i64 x2) ∧ s14 = .int .i64 x3 ∧ mt (F.drop z) = (x1, x2, x3) ∧ Below w0.heap.size w0 wx)
  case first =>
    by_cases h0 : n = 0
    · have hz0 : z = 0 := by omega
      have hF0 : F.drop z = [] := List.drop_eq_nil_of_le (by rw [← HN.out]; omega)
      have HM15 := Lib.hid (fun X cc => meet_any X cc 0 [] w0 rfl (by decide) ⟨rfl, .inl rfl⟩)
      unfold winV at HM15
      subst h0 hz0
      go_wp2_with fail
      all_goals
        refine (HM15.out _ _).mono ?_
        rintro e w5 ⟨rfl, b5⟩
        have B5 := Lib.hid b5
        clear b5
        go_wp2_with fail
        go_meet
        exact ⟨_, _, _, _, rfl, cells2_new w5 _ _ _, rfl, by rw [hF0], bt B5.out (grows' _ _)⟩
    · have hz := hzlt h0
      obtain ⟨g7, rfl, _, _⟩ := own_shapeK HO3.out (by omega)
      have HM15 := Lib.hid (meet_any (some ⟨g7, z * 2, none⟩) (c' - z) (n - z) (F.drop z) w0 (by rw [List.length_drop, ← HN.out]) (by omega) (cells_drop CF.out hz))
      unfold winV at HM15
      have z1 : (0 : Int) ≤ (z : Int) := by omega
      have z2 : (z : Int) ≤ (n : Int) := by omega
      have z3 : (n : Int) ≤ (c' : Int) := by omega
      have z4 : ¬ c' = z := by omega
      go_wp2_with fail
      refine HM15.out.mono ?_
      rintro e w5 ⟨rfl, b5⟩
      have B5 := Lib.hid b5
      clear b5
      go_wp2_with fail
      go_meet
      exact ⟨_, _, _, _, rfl, cells2_new w5 _ _ _, rfl, rfl, bt B5.out (grows' _ _)⟩
  case rest =>
  obtain ⟨g13, x1, x2, x3, rfl, hc13, rfl, hm13, hb13⟩ := hcut
  have HB13 := Lib.hid hb13
  have CF1 := Lib.hid (CF.out.below hb13)
  have C81 := Lib.hid (cells2_below C8.out hb13)
  have n1 : ¬ hiF (F.drop z) < loF (F.drop z) := fun h => no_lt HHC.out (HPN2.out z (.inl h))
  have n2 : ¬ hiF (F.take z) < loF (F.take z) := fun h => no_lt HHC.out (HPN2.out z (.inr h))
  have m1 := mt_some (fine_all (fine_drop HFF.out z)) n1
  have M2 := Lib.hid (mt_some (fine_all (fine_take HFF.out z)) n2)
  have M3 := Lib.hid ((HTW.out z (Int.not_lt.1 n1) (Int.not_lt.1 n2)).trans HMT.out)
  rw [m1] at hm13
  injection hm13 with e1 e2
  injection e2 with e2 e3
  subst e1 e2 e3
  have C13 := Lib.hid hc13
  have HM16 := Lib.hid (meet_any A' c' z (F.take z) wc (by rw [List.length_take, ← HN.out]; omega) (by omega) (cells_take CF1.out hzn))
  rw [M2.out] at HM16
  unfold winV at HM16
  clear hc13 hb13 n1 n2 m1 M2
  generalize loF (F.drop z) = a1 at *
  generalize hiF (F.drop z) = a2 at *
  generalize loF (F.take z) = b1 at *
  generalize hiF (F.take z) = b2 at *
  have z1 : (0 : Int) ≤ (z : Int) := by omega
  have z2 : (z : Int) ≤ (n : Int) := by omega
  have z3 : (n : Int) ≤ (c' : Int) := by omega
  have z4 : (z : Int) ≤ (c' : Int) := by omega
  go_wp2_with fail
  refine HM16.out.mono ?_
  rintro e w6 ⟨rfl, b6⟩
  have B6 := Lib.hid (bt b6 (grows' w6 (.cells #[.int .i64 b1, .int .i64 b2] 55)))
  have C15 := Lib.hid (cells2_new w6 (.int .i64 b1) (.int .i64 b2) 55)
  clear b6 HM16
  go_upto_region 17 with fail
  generalize w6.alloc (.cells #[.int .i64 b1, .int .i64 b2] 55) = V2 at B6 C15 ⊢
  generalize w6.heap.size = g15 at C15 ⊢
  have C132 := Lib.hid (cells2_below C13.out B6.out)
  have C82 := Lib.hid (cells2_below C81.out B6.out)
  have HM17 := Lib.hid (meet_any (some ⟨V2.heap.size, 0, none⟩) 2 2 [(a1, a2), (b1, b2)] _ rfl (by decide) (cells4_new V2 (a1, a2) (b1, b2) 55))
  rw [M3.out] at HM17
  unfold winV at HM17
  obtain ⟨p0, p1⟩ := C132.out
  obtain ⟨q0, q1⟩ := C15.out
  clear C13 C81
  go_wp2_with fail
  refine HM17.out.mono ?_
  rintro e w7 ⟨rfl, b7⟩
  have B7 := Lib.hid (bt (bt (grows' V2 (.cells #[.int .i64 a1, .int .i64 a2, .int .i64 b1, .int .i64 b2] 55)) b7) (grows' w7 (.cells #[.int .i64 lo, .int .i64 hi] 55)))
  have C17 := Lib.hid (cells2_new w7 (.int .i64 lo) (.int .i64 hi) 55)
  clear b7 HM17 p0 p1 q0 q1
  go_upto_region 18 with fail
  generalize w7.alloc (.cells #[.int .i64 lo, .int .i64 hi] 55) = V4 at B7 C17 ⊢
  generalize w7.heap.size = g17 at C17 ⊢
  have C84 := Lib.hid (cells2_below C82.out B7.out)
  have HBV := Lib.hid (bt HBW.out (bt HB13.out (bt B6.out B7.out)))
  have HTV := Lib.hid (Tb.below HTB.out HBV.out)
  obtain ⟨r0, r1⟩ := C17.out
  obtain ⟨t0, t1⟩ := C84.out
  have HEQ := ne_win lo hi V4
  have HF22 := Lib.hid (first_any lo hi V4 HTV.out)
  unfold winV at HF22
  clear C82 C17 C132 C15
  go_wp2_with fail
  refine HF22.out.mono ?_
  rintro e w8 ⟨rfl, b8⟩
  have HFC := Lib.hid (fst_cases lo hi (by unfold mayW; rw [decide_eq_true HNN.out.1, decide_eq_true HHC.out, decide_eq_true HNN.out.2]; rfl))
  obtain ⟨ri, rj, hr⟩ : ∃ ri rj, fst lo hi = (ri, rj) := ⟨_, _, rfl⟩
  rw [hr] at HFC ⊢
  clear hr HF22 r0 r1 t0 t1 HEQ
  have HB8 := Lib.hid (bt HBV.out b8)
  have HT8 := Lib.hid (Tb.below HTV.out b8)
  have C85 := Lib.hid (cells2_below C84.out b8)
  clear b8 C84
  go_wp2_with fail
  refine (table_any w8 HT8.out).mono ?_
  rintro e w9 ⟨rfl, b9⟩
  have HB9 := Lib.hid (bt HB8.out b9)
  have C86 := Lib.hid (cells2_below C85.out b9)
  clear b9 C85
  go_wp2_with (first | refine wpList_store_new rfl _ _ _ rfl _ tabV.toArray rfl rfl (by kernel_rfl) (by kernel_rfl) (by kernel_rfl) ?_)
  have HR21 := Lib.hid (range_new w9 35 tabV)
  have HB10 := Lib.hid (bt HB9.out (grows' w9 (.cells tabV.toArray 35)))
  have C87 := Lib.hid (cells2_below C86.out (grows' w9 (.cells tabV.toArray 35)))
  clear C86
  generalize w9.alloc (.cells tabV.toArray 35) = V5 at HR21 HB10 C87 ⊢
  generalize w9.heap.size = g21 at HR21 ⊢
  go_loopw [22] (fun v22 wy => ∃ k, k ≤ 24 ∧ v22 = .int .i64 (k : Nat) ∧ Below V5.heap.size V5 wy) (fun v22 _ => 24 - (RowKit.intOf v22).toNat)
  case atStart => exact ⟨0, by omega, rfl, Below.refl _ _⟩
  case round =>
    obtain ⟨k, hk, rfl, hbr⟩ := hrel
    have HBR := Lib.hid hbr
    clear hbr
    by_cases hlt : k < 24
    · have l1 : (0 : Int) ≤ (k : Int) := by omega
      have l2 : (k : Int) < 24 := by omega
      have e0 : V5.cell? ⟨g21, k, none⟩ = some (.int .i64 (ent k)) := by
        have := HR21.out k _ (tab_at k hlt)
        rw [Nat.zero_add] at this
        exact this
      have HFT := Lib.hid (show fits lo hi k = (decide (lo ≤ ent (k : Nat)) && decide (ent (k : Nat) ≤ hi)) from rfl)
      generalize ent (k : Nat) = en at e0 HFT
      have HKP := Lib.hid (fun V (hV : Below V5.heap.size V5 V) => show (V.cell? ⟨g21, k, none⟩ = some (.int .i64 en) ∧ V.cell? ⟨g8, 0, none⟩ = some (.int .i64 lo) ∧ V.cell? ⟨g8, 1, none⟩ = some (.int .i64 hi)) ∧ Below V5.heap.size V5 V from ⟨⟨by rw [hV.cell (cell_lt e0)]; exact e0, by rw [hV.cell (cell_lt C87.out.1)]; exact C87.out.1, by rw [hV.cell (cell_lt C87.out.2)]; exact C87.out.2⟩, hV⟩)
      clear e0
      obtain ⟨⟨f0, f2, f3⟩, _⟩ := HKP.out _ HBR.out
      go_upto_region 27 with fail
      go_cut [23] (fun s23 wx => s23 = .bool (fits lo hi k) ∧ Below V5.heap.size V5 wx)
      case first =>
        cases d1 : decide (lo ≤ en)
        all_goals
          go_wp2_with fail
          refine wp_region_noPanic ?_
          refine wp_region_held_drew (S := fun w' => (w'.cell? ⟨g21, k, none⟩ = some (.int .i64 en) ∧ w'.cell? ⟨g8, 0, none⟩ = some (.int .i64 lo) ∧ w'.cell? ⟨g8, 1, none⟩ = some (.int .i64 hi)) ∧ Below V5.heap.size V5 w') (by kernel_rfl) (HKP.out _ (below_dr HBR.out 1)) (fun hHeld => ?_)
          first | (refine skipH (i := 0) (dst := some 179) rfl rfl (by kernel_rfl) (by kernel_rfl) (by kernel_rfl) (fun _ _ _ h => h) (by rfl) hHeld ?_) | (refine' takeH (i := 0) (dst := some 179) (v := _) rfl rfl (by kernel_rfl) (by kernel_rfl) (by kernel_rfl) (fun _ _ _ h => h) (by rfl) ?hy hHeld ?_; case hy => (intro w hSw; clear hSw; (first | done | go_simp); try with_reducible rfl)) | fail
          try simp only [Act.put, List.setIfInBounds_toArray, List.set_cons_zero, List.set_cons_succ]
          first | (refine skipH (i := 1) (dst := some 180) rfl rfl (by kernel_rfl) (by kernel_rfl) (by kernel_rfl) (fun _ _ _ h => h) (by rfl) hHeld ?_) | (refine' takeH (i := 1) (dst := some 180) (v := _) rfl rfl (by kernel_rfl) (by kernel_rfl) (by kernel_rfl) (fun _ _ _ h => h) (by rfl) ?hy hHeld ?_; case hy => (intro w hSw; clear hSw; (first | done | go_simp); try with_reducible rfl)) | fail
          try simp only [Act.put, List.setIfInBounds_toArray, List.set_cons_zero, List.set_cons_succ]
          first | (refine skipH (i := 2) (dst := some 181) rfl rfl (by kernel_rfl) (by kernel_rfl) (by kernel_rfl) (fun _ _ _ h => h) (by rfl) hHeld ?_) | (refine' takeH (i := 2) (dst := some 181) (v := _) rfl rfl (by kernel_rfl) (by kernel_rfl) (by kernel_rfl) (fun _ _ _ h => h) (by rfl) ?hy hHeld ?_; case hy => (intro w hSw; obtain ⟨⟨_, _, _⟩, _⟩ := hSw; (first | done | go_simp); try with_reducible rfl)) | fail
          try simp only [Act.put, List.setIfInBounds_toArray, List.set_cons_zero, List.set_cons_succ]
          first | (refine skipH (i := 3) (dst := some 182) rfl rfl (by kernel_rfl) (by kernel_rfl) (by kernel_rfl) (fun _ _ _ h => h) (by rfl) hHeld ?_) | (refine' takeH (i := 3) (dst := some 182) (v := _) rfl rfl (by kernel_rfl) (by kernel_rfl) (by kernel_rfl) (fun _ _ _ h => h) (by rfl) ?hy hHeld ?_; case hy => (intro w hSw; clear hSw; (first | done | go_simp); try with_reducible rfl)) | fail
          try simp only [Act.put, List.setIfInBounds_toArray, List.set_cons_zero, List.set_cons_succ]
          first | (refine skipH (i := 4) (dst := some 183) rfl rfl (by kernel_rfl) (by kernel_rfl) (by kernel_rfl) (fun _ _ _ h => h) (by rfl) hHeld ?_) | (refine' takeH (i := 4) (dst := some 183) (v := _) rfl rfl (by kernel_rfl) (by kernel_rfl) (by kernel_rfl) (fun _ _ _ h => h) (by rfl) ?hy hHeld ?_; case hy => (intro w hSw; obtain ⟨⟨_, _, _⟩, _⟩ := hSw; (first | done | go_simp); try with_reducible rfl)) | fail
          try simp only [Act.put, List.setIfInBounds_toArray, List.set_cons_zero, List.set_cons_succ]
          first | (refine skipH (i := 5) (dst := some 184) rfl rfl (by kernel_rfl) (by kernel_rfl) (by kernel_rfl) (fun _ _ _ h => h) (by rfl) hHeld ?_) | (refine' takeH (i := 5) (dst := some 184) (v := _) rfl rfl (by kernel_rfl) (by kernel_rfl) (by kernel_rfl) (fun _ _ _ h => h) (by rfl) ?hy hHeld ?_; case hy => (intro w hSw; clear hSw; (first | done | go_simp); try with_reducible rfl)) | fail
          try simp only [Act.put, List.setIfInBounds_toArray, List.set_cons_zero, List.set_cons_succ]
          first | (refine skipH (i := 6) (dst := some 185) rfl rfl (by kernel_rfl) (by kernel_rfl) (by kernel_rfl) (fun _ _ _ h => h) (by rfl) hHeld ?_) | (refine' takeH (i := 6) (dst := some 185) (v := _) rfl rfl (by kernel_rfl) (by kernel_rfl) (by kernel_rfl) (fun _ _ _ h => h) (by rfl) ?hy hHeld ?_; case hy => (intro w hSw; clear hSw; (first | done | go_simp); try with_reducible rfl)) | fail
          try simp only [Act.put, List.setIfInBounds_toArray, List.set_cons_zero, List.set_cons_succ]
          first | (refine skipH (i := 7) (dst := some 186) rfl rfl (by kernel_rfl) (by kernel_rfl) (by kernel_rfl) (fun _ _ _ h => h) (by rfl) hHeld ?_) | (refine' takeH (i := 7) (dst := some 186) (v := _) rfl rfl (by kernel_rfl) (by kernel_rfl) (by kernel_rfl) (fun _ _ _ h => h) (by rfl) ?hy hHeld ?_; case hy => (intro w hSw; clear hSw; (first | done | go_simp); try with_reducible rfl)) | fail
          try simp only [Act.put, List.setIfInBounds_toArray, List.set_cons_zero, List.set_cons_succ]
          first | (refine skipH (i := 8) (dst := some 187) rfl rfl (by kernel_rfl) (by kernel_rfl) (by kernel_rfl) (fun _ _ _ h => h) (by rfl) hHeld ?_) | (refine' takeH (i := 8) (dst := some 187) (v := _) rfl rfl (by kernel_rfl) (by kernel_rfl) (by kernel_rfl) (fun _ _ _ h => h) (by rfl) ?hy hHeld ?_; case hy => (intro w hSw; clear hSw; (first | done | go_simp); try with_reducible rfl)) | fail
          try simp only [Act.put, List.setIfInBounds_toArray, List.set_cons_zero, List.set_cons_succ]
          first | (refine skipH (i := 9) (dst := some 188) rfl rfl (by kernel_rfl) (by kernel_rfl) (by kernel_rfl) (fun _ _ _ h => h) (by rfl) hHeld ?_) | (refine' takeH (i := 9) (dst := some 188) (v := _) rfl rfl (by kernel_rfl) (by kernel_rfl) (by kernel_rfl) (fun _ _ _ h => h) (by rfl) ?hy hHeld ?_; case hy => (intro w hSw; obtain ⟨⟨_, _, _⟩, _⟩ := hSw; (first | done | go_simp); try with_reducible rfl)) | fail
          try simp only [Act.put, List.setIfInBounds_toArray, List.set_cons_zero, List.set_cons_succ]
          first | (refine skipH (i := 10) (dst := some 189) rfl rfl (by kernel_rfl) (by kernel_rfl) (by kernel_rfl) (fun _ _ _ h => h) (by rfl) hHeld ?_) | (refine' takeH (i := 10) (dst := some 189) (v := _) rfl rfl (by kernel_rfl) (by kernel_rfl) (by kernel_rfl) (fun _ _ _ h => h) (by rfl) ?hy hHeld ?_; case hy => (intro w hSw; clear hSw; (first | done | go_simp); try with_reducible rfl)) | fail
          try simp only [Act.put, List.setIfInBounds_toArray, List.set_cons_zero, List.set_cons_succ]
          first | (refine skipH (i := 11) (dst := some 190) rfl rfl (by kernel_rfl) (by kernel_rfl) (by kernel_rfl) (fun _ _ _ h => h) (by rfl) hHeld ?_) | (refine' takeH (i := 11) (dst := some 190) (v := _) rfl rfl (by kernel_rfl) (by kernel_rfl) (by kernel_rfl) (fun _ _ _ h => h) (by rfl) ?hy hHeld ?_; case hy => (intro w hSw; obtain ⟨⟨_, _, _⟩, _⟩ := hSw; (first | done | go_simp); try with_reducible rfl)) | fail
          try simp only [Act.put, List.setIfInBounds_toArray, List.set_cons_zero, List.set_cons_succ]
          first | (refine skipH (i := 12) (dst := some 191) rfl rfl (by kernel_rfl) (by kernel_rfl) (by kernel_rfl) (fun _ _ _ h => h) (by rfl) hHeld ?_) | (refine' takeH (i := 12) (dst := some 191) (v := _) rfl rfl (by kernel_rfl) (by kernel_rfl) (by kernel_rfl) (fun _ _ _ h => h) (by rfl) ?hy hHeld ?_; case hy => (intro w hSw; clear hSw; (first | done | go_simp); try with_reducible rfl)) | fail
          try simp only [Act.put, List.setIfInBounds_toArray, List.set_cons_zero, List.set_cons_succ]
          first | (refine skipH (i := 13) (dst := some 192) rfl rfl (by kernel_rfl) (by kernel_rfl) (by kernel_rfl) (fun _ _ _ h => h) (by rfl) hHeld ?_) | (refine' takeH (i := 13) (dst := some 192) (v := _) rfl rfl (by kernel_rfl) (by kernel_rfl) (by kernel_rfl) (fun _ _ _ h => h) (by rfl) ?hy hHeld ?_; case hy => (intro w hSw; clear hSw; (first | done | go_simp); try with_reducible rfl)) | fail
          try simp only [Act.put, List.setIfInBounds_toArray, List.set_cons_zero, List.set_cons_succ]
          first | (refine skipH (i := 14) (dst := some 23) rfl rfl (by kernel_rfl) (by kernel_rfl) (by kernel_rfl) (fun _ _ _ h => h) (by rfl) hHeld ?_) | (refine' takeH (i := 14) (dst := some 23) (v := _) rfl rfl (by kernel_rfl) (by kernel_rfl) (by kernel_rfl) (fun _ _ _ h => h) (by rfl) ?hy hHeld ?_; case hy => (intro w hSw; clear hSw; (first | done | go_simp); try with_reducible rfl)) | fail
          try simp only [Act.put, List.setIfInBounds_toArray, List.set_cons_zero, List.set_cons_succ]
          refine wpAnyH_done (by kernel_rfl) (NoPanic.normal ?_) _
          have HBL := Lib.hid hHeld.2
          clear hHeld
          go_wp2_with fail
          go_meet
          refine ⟨?_, HBL.out⟩
          rw [HFT.out, d1]
          simp
      case rest =>
      obtain ⟨rfl, hbc⟩ := hcut
      have HBC := Lib.hid hbc
      clear hbc f0 f2 f3
      rcases HFC.out with ⟨i, hi24, hri, hfi, hfn⟩ | ⟨hri, hfn⟩
      · injection hri with h1 h2
        subst h1 h2
        cases hg : fits lo hi k with
        | true =>
          have hki : decide ((k : Int) < (i : Int)) = false := decide_eq_false (fun h => by
            have := hfn k (by omega)
            rw [hg] at this
            cases this)
          have hki0 : ¬ (k : Int) < (i : Int) := of_decide_eq_false hki
          go_wp2_with fail
          all_goals first
            | (exfalso; omega)
            | (go_roundw
               case rel => exact ⟨k + 1, by omega, by go_num, HBC.out⟩
               case measure => simp [RowKit.intOf]; omega)
        | false =>
          have hki : ((k : Int) == (i : Int)) = false := by
            have : k ≠ i := fun h => by rw [h, hfi] at hg; cases hg
            exact beq_eq_false_iff_ne.2 (by omega)
          have hki0 : ¬ (k : Int) = (i : Int) := beq_eq_false_iff_ne.1 hki
          go_wp2_with fail
          all_goals first
            | (exfalso; omega)
            | (go_roundw
               case rel => exact ⟨k + 1, by omega, by go_num, HBC.out⟩
               case measure => simp [RowKit.intOf]; omega)
      · injection hri with h1 h2
        subst h1 h2
        have hg := hfn k hlt
        rw [hg]
        go_wp2_with fail
        go_roundw
        case rel => exact ⟨k + 1, by omega, by go_num, HBC.out⟩
        case measure => simp [RowKit.intOf]; omega
    · have hge : decide ((k : Int) < 24) = false := decide_eq_false (by omega)
      clear hlt hk
      have HAW := Lib.hid (awake_any wr (Tb.below HTB.out (bt HB10.out HBR.out)))
      rcases HFC.out with ⟨i, hi24, hri, hfi, hfn⟩ | ⟨hri, hfn⟩
      all_goals
        injection hri with h1 h2
        subst h1 h2
        go_wp2_with fail
        refine HAW.out.mono ?_
        rintro e w10 ⟨rfl, rfl⟩
        go_wp2_with fail
        go_ret
        exact ⟨rfl, bt HB10.out HBR.out⟩

end Go.Proofs.YtjffemeeomogaaaDoor.Su
