/- The law CardLinear. -/
import Derived.Test.YtcbjmmehnfakkaaKrW
namespace Go.Proofs.Ytcbjmmehnfakkaa.Kl
open Go.ChangeShapes Go.WideShapes Go.ChangeAt Go.RowKit Own Ro Ka

def M64 : Int := 18446744073709551616
theorem w_ex (x : Int) : ∃ q : Int, wrap64 x = x + M64 * q := ⟨-((x + 9223372036854775808) / 18446744073709551616), by unfold wrap64 M64; omega⟩
theorem w_cong {x y : Int} (q : Int) (h : x = y + M64 * q) : wrap64 x = wrap64 y := by subst h; unfold wrap64 M64; omega
theorem w_of {x : Int} (h1 : -9223372036854775808 ≤ x) (h2 : x ≤ 9223372036854775807) : wrap64 x = x := by unfold wrap64; omega
/-- A table with its factor turned. -/
def sc (o : Int) (a : Rt) : Rt := (wrap64 (a.1 * o), a.2)
theorem term_sc (i o : Int) (a : Rt) : ∃ q : Int, term i (sc o a) = term i a * o + M64 * q := by
  obtain ⟨q, hq⟩ := w_ex (a.1 * o)
  unfold term sc
  by_cases h : a.2 = []
  · exact ⟨0, by rw [if_pos h, if_pos h]; simp⟩
  · refine ⟨q * a.2.getD (i % (a.2.length : Int)).toNat 0, ?_⟩
    rw [if_neg h, if_neg h]
    show wrap64 (a.1 * o) * _ = _
    rw [hq]
    generalize a.2.getD (i % (a.2.length : Int)).toNat 0 = v
    rw [Int.add_mul, Int.mul_assoc a.1 o v, Int.mul_comm o v, ← Int.mul_assoc, Int.mul_assoc M64 q v]
theorem terms_cons (i : Int) (a : Rt) (L : List Rt) : terms i (a :: L) = term i a + terms i L := by unfold terms; simp
theorem terms_sc (i o : Int) (L : List Rt) : ∃ q : Int, terms i (L.map (sc o)) = terms i L * o + M64 * q := by
  induction L with
  | nil => exact ⟨0, by unfold terms; simp⟩
  | cons a L ih =>
    obtain ⟨q, hq⟩ := ih
    obtain ⟨p, hp⟩ := term_sc i o a
    refine ⟨p + q, ?_⟩
    rw [List.map_cons, terms_cons, terms_cons, hq, hp, Int.add_mul, Int.mul_add]
    omega
theorem ent_lin (i b s o : Int) (L : List Rt) (h0 : 0 ≤ i) : entV i (wrap64 (b * o)) (wrap64 (s * o)) (L.map (sc o)) = wrap64 (entV i b s L * o) := by
  unfold entV
  rw [if_neg (by omega), if_neg (by omega)]
  obtain ⟨q1, h1⟩ := w_ex (b * o)
  obtain ⟨q2, h2⟩ := w_ex (s * o)
  obtain ⟨q3, h3⟩ := terms_sc i o L
  obtain ⟨q4, h4⟩ := w_ex (entX i b s L)
  refine w_cong (q1 + q2 * i + q3 - q4 * o) ?_
  rw [h4]
  unfold entX
  rw [h1, h2, h3]
  simp only [Int.add_mul, Int.mul_add, Int.mul_sub]
  rw [Int.mul_assoc s o i, Int.mul_comm o i, ← Int.mul_assoc s i o, Int.mul_assoc M64 q2 i, Int.mul_assoc M64 q4 o]
  omega
theorem ent_nil (i b s : Int) (h0 : 0 ≤ i) : entV i b s [] = wrap64 (b + s * i) := by
  unfold entV entX terms
  rw [if_neg (by omega)]
  simp
theorem ent_one (i : Int) (a : Rt) (h0 : 0 ≤ i) : entV i 0 0 [a] = wrap64 (term i a) := by
  unfold entV entX terms
  rw [if_neg (by omega)]
  simp
theorem ent_all (i b s : Int) (L : List Rt) (h0 : 0 ≤ i) : entV i b s L = wrap64 (b + s * i + terms i L) := by
  unfold entV entX
  rw [if_neg (by omega)]
theorem ent_neg (i b s : Int) (L : List Rt) (h0 : i < 0) : entV i b s L = 0 := by unfold entV; rw [if_pos h0]
theorem entry_nil (i b s : Int) (w : World) (hi9 : i ≤ 9223372036854775807) :
    Calls Try.prog 19 #[.int .i64 i, .int .i64 b, .int .i64 s, .slice none 0 0] w (fun e w' => e = .returned (.int .i64 (entV i b s [])) ∧ Below w.heap.size w w') :=
  entry_any none 0 0 i b s [] [] w hi9 (by omega) (fun k => by simp) ⟨rfl, rfl, ⟨rfl, .inl rfl⟩, fun i hi => absurd hi (by omega)⟩
theorem scl_set (o : Int) (L : List Rt) (k : Nat) (h : k < L.length) : ((L.take k).map (sc o) ++ L.drop k).set k (sc o (L.getD k (0, []))) = (L.take (k + 1)).map (sc o) ++ L.drop (k + 1) := by
  have hl : ((L.take k).map (sc o)).length = k := by simp; omega
  rw [List.set_append_right _ _ (by omega), hl, Nat.sub_self, takeS L (0, []) k h, List.map_append, List.append_assoc]
  congr 1
  rw [List.drop_eq_getElem_cons h]
  rfl
theorem scl_at (o : Int) (L : List Rt) (k : Nat) (h : k < L.length) : ((L.take k).map (sc o) ++ L.drop k).getD k (0, []) = L.getD k (0, []) := by
  have hl : ((L.take k).map (sc o)).length = k := by simp; omega
  rw [List.getD_eq_getElem?_getD, List.getElem?_append_right (by omega), hl, Nat.sub_self, List.getElem?_drop, List.getD_eq_getElem?_getD]
  rfl
theorem scl_len (o : Int) (L : List Rt) (k : Nat) : ∀ j, (((L.take k).map (sc o) ++ L.drop k).getD j (0, [])).2 = (L.getD j (0, [])).2 := fun j => by
  have hl : ((L.take k).map (sc o)).length = min k L.length := by simp
  rw [List.getD_eq_getElem?_getD, List.getD_eq_getElem?_getD]
  by_cases h : j < ((L.take k).map (sc o)).length
  · rw [List.getElem?_append_left h, List.getElem?_map, List.getElem?_take, if_pos (by omega)]
    cases L[j]? with
    | none => rfl
    | some a => rfl
  · rw [List.getElem?_append_right (by omega), List.getElem?_drop, hl]
    by_cases h2 : k ≤ L.length
    · rw [show k + (j - min k L.length) = j by omega]
    · rw [List.getElem?_eq_none (by omega), List.getElem?_eq_none (by omega)]
/-- One table out of those that came in. -/
theorem one_in {w : World} {b0 o0 n : Nat} {L : List Rt} {R0 : List Sl} {k : Nat} (h : Ro.RowsIn KR w (some ⟨b0, o0, none⟩) n L R0) (hk : k < n) : Ro.RowsIn KR w (some ⟨b0, o0 + k * 2, none⟩) 1 [L.getD k (0, [])] [R0.getD k sl0] := by
  obtain ⟨b, o, hA, hb, hc, h1, h2⟩ := h.at hk
  injection hA with hA
  injection hA with e1 e2
  subst e1 e2
  refine ⟨rfl, rfl, ⟨rows_len KR _ _ rfl, .inr ⟨b0, o0 + k * 2, rfl, hb, fun j u hu => ?_⟩⟩, fun i hi => ?_⟩
  · have hu' : (KR.row (L.getD k (0, []), R0.getD k sl0))[j]? = some u := by simpa [Kd.rows] using hu
    exact hc j u hu'
  · obtain rfl : i = 0 := by omega
    exact ⟨h1, h2⟩
set_option maxRecDepth 100000 in
set_option maxHeartbeats 8000000 in
theorem linear_neg (A : Option Addr) (c n : Nat) (i b s o : Int) (L : List Rt) (R0 : List Sl) (w : World) (h0 : i < 0) (hb : n ≤ 1048576) (hl9 : ∀ k, (L.getD k (0, [])).2.length ≤ 1048576)
    (hA : Ro.RowsIn KR w A n L R0) (hneat : ∀ k, Neat (R0.getD k sl0)) :
    Calls Try.prog 8 #[.int .i64 i, .int .i64 b, .int .i64 s, .int .i64 o, .slice A n c] w (fun e w' => e = .returned (.bool true) ∧ Below w.heap.size w w') := by
  have HN := Lib.hid hA.1
  have HL2 : Hid (∀ k, (L.getD k (0, [])).2.length ≤ 1099511627776) := Lib.hid fun k => Nat.le_trans (hl9 k) (by omega)
  have HG := Lib.hid fun W hW => given_any A c n L R0 W (by omega) HL2.out (hA.below hW) hneat
  clear hl9 hA hneat
  go_enter Try.func8, Try.ntmps8
  go_wp2_with fail
  refine (Kr.works_any w).mono ?_
  rintro e w1 ⟨rfl, b1⟩
  have B1 := Lib.hid b1
  clear b1
  go_wp2_with fail
  refine (HG.out _ B1.out).mono ?_
  rintro e w2 ⟨A2, c2, n2, R2, rfl, hr2, b2⟩
  have B2 := Lib.hid (bt B1.out b2)
  have hn2 : n2 ≤ 1099511627776 := by rw [hr2.1, ← HN.out]; omega
  have HE := Lib.hid (entry_any A2 c2 n2 i b s L R2 w2 (by omega) hn2 HL2.out hr2.rows)
  rw [ent_neg i b s L h0] at HE
  clear b2 hr2 hn2 HG
  go_wp2_with fail
  refine HE.out.mono ?_
  rintro e w3 ⟨rfl, b3⟩
  have B3 := Lib.hid (bt B2.out b3)
  clear b3 HE
  go_wp2_with fail
  go_ret
  exact ⟨rfl, B3.out⟩
set_option maxRecDepth 100000 in
set_option maxHeartbeats 8000000 in
theorem linear_pos (A : Option Addr) (c n : Nat) (i b s o : Int) (L : List Rt) (R0 : List Sl) (w : World) (h0 : 0 ≤ i) (hi9 : i ≤ 9223372036854775807) (hbw : -9223372036854775808 ≤ b ∧ b ≤ 9223372036854775807) (hb : n ≤ 1048576) (hnc : n ≤ c) (hl9 : ∀ k, (L.getD k (0, [])).2.length ≤ 1048576)
    (hA : Ro.RowsIn KR w A n L R0) (hneat : ∀ k, Neat (R0.getD k sl0)) :
    Calls Try.prog 8 #[.int .i64 i, .int .i64 b, .int .i64 s, .int .i64 o, .slice A n c] w (fun e w' => e = .returned (.bool true) ∧ Below w.heap.size w w') := by
  have HN := Lib.hid hA.1
  have GA := Lib.hid hA
  have HNE := Lib.hid hneat
  have HL2 : Hid (∀ k, (L.getD k (0, [])).2.length ≤ 1099511627776) := Lib.hid fun k => Nat.le_trans (hl9 k) (by omega)
  have HG := Lib.hid fun W hW => given_any A c n L R0 W (by omega) HL2.out (hA.below hW) hneat
  have HI9 := Lib.hid hi9
  have HI0 := Lib.hid h0
  have EB : Hid (∀ W, Calls Try.prog 19 #[.int .i64 i, .int .i64 b, .int .i64 0, .slice none 0 0] W (fun e w' => e = .returned (.int .i64 b) ∧ Below W.heap.size W w')) := Lib.hid fun W => by
    have := entry_nil i b 0 W hi9
    rw [ent_nil i b 0 h0, Int.zero_mul, Int.add_zero, w_of hbw.1 hbw.2] at this
    exact this
  have E1 : Hid (∀ W, Calls Try.prog 19 #[.int .i64 i, .int .i64 0, .int .i64 1, .slice none 0 0] W (fun e w' => e = .returned (.int .i64 i) ∧ Below W.heap.size W w')) := Lib.hid fun W => by
    have := entry_nil i 0 1 W hi9
    rw [ent_nil i 0 1 h0, Int.one_mul, Int.zero_add, w_of (by omega) hi9] at this
    exact this
  obtain ⟨sv, hsv⟩ : ∃ sv, entV i 0 s [] = sv := ⟨_, rfl⟩
  have ES : Hid (∀ W, Calls Try.prog 19 #[.int .i64 i, .int .i64 0, .int .i64 s, .slice none 0 0] W (fun e w' => e = .returned (.int .i64 sv) ∧ Below W.heap.size W w')) := Lib.hid fun W => by
    have := entry_nil i 0 s W hi9
    rw [hsv] at this
    exact this
  have HSV : Hid (sv = wrap64 (s * i)) := Lib.hid (by rw [← hsv, ent_nil i 0 s h0, Int.zero_add])
  clear hsv
  obtain ⟨av, hav⟩ : ∃ av, entV i b s L = av := ⟨_, rfl⟩
  have EA : Hid (∀ W A c n R, n ≤ 1099511627776 → Ro.RowsIn KP W A n L R → Calls Try.prog 19 #[.int .i64 i, .int .i64 b, .int .i64 s, .slice A n c] W (fun e w' => e = .returned (.int .i64 av) ∧ Below W.heap.size W w')) := Lib.hid fun W A c n R hn hr => by
    have := entry_any A c n i b s L R W hi9 hn HL2.out hr
    rw [hav] at this
    exact this
  have EZ : Hid (∀ W A c n R L', L'.length = L.length → L' = L.map (sc o) → n ≤ 1099511627776 → Ro.RowsIn KP W A n L' R → Calls Try.prog 19 #[.int .i64 i, .int .i64 (wrap64 (b * o)), .int .i64 (wrap64 (s * o)), .slice A n c] W (fun e w' => e = .returned (.int .i64 (wrap64 (av * o))) ∧ Below W.heap.size W w')) := Lib.hid fun W A c n R L' hl hL' hn hr => by
    have := entry_any A c n i (wrap64 (b * o)) (wrap64 (s * o)) L' R W hi9 hn (fun k => by
      subst hL'
      rw [List.getD_eq_getElem?_getD, List.getElem?_map]
      have := HL2.out k
      rw [List.getD_eq_getElem?_getD] at this
      cases hk : L[k]? with
      | none => exact Nat.zero_le _
      | some a => rw [hk] at this; exact this) hr
    rw [hL', ent_lin i b s o L h0, hav] at this
    exact this
  have HAV : Hid (av = wrap64 (b + s * i + terms i L)) := Lib.hid (by rw [← hav, ent_all i b s L h0])
  have s1 : (b != b) = false := by simp
  have s2 : (i != i) = false := by simp
  have s3 : (av == av) = true := by simp
  have s4 : (wrap64 (av * o) == wrap64 (av * o)) = true := by simp
  clear hl9 hA hneat hav hbw
  go_enter Try.func8, Try.ntmps8
  go_wp2_with fail
  refine (Kr.works_any w).mono ?_
  rintro e w1 ⟨rfl, b1⟩
  have B1 := Lib.hid b1
  clear b1
  go_wp2_with fail
  refine (HG.out _ B1.out).mono ?_
  rintro e w2 ⟨A2, c2, n2, R2, rfl, hr2, b2⟩
  have B2 := Lib.hid (bt B1.out b2)
  have hn2 : n2 ≤ 1099511627776 := by rw [hr2.1, ← HN.out]; omega
  have HE := Lib.hid (EA.out w2 A2 c2 n2 R2 hn2 hr2.rows)
  clear b2 hr2 hn2 EA B1
  go_wp2_with fail
  refine HE.out.mono ?_
  rintro e w3 ⟨rfl, b3⟩
  have B3 := Lib.hid (bt B2.out b3)
  clear b3 HE B2
  go_wp2_with fail
  refine (EB.out _).mono ?_
  rintro e w4 ⟨rfl, b4⟩
  have B4 := Lib.hid (bt B3.out b4)
  clear b4 B3
  go_wp2_with fail
  refine (ES.out _).mono ?_
  rintro e w5 ⟨rfl, b5⟩
  have B5 := Lib.hid (bt B4.out b5)
  clear b5 B4 ES
  go_wp2_with fail
  refine (EB.out _).mono ?_
  rintro e w6 ⟨rfl, b6⟩
  have B6 := Lib.hid (bt B5.out b6)
  clear b6 B5 EB
  go_wp2_with fail
  refine (E1.out _).mono ?_
  rintro e w7 ⟨rfl, b7⟩
  have B7 := Lib.hid (bt B6.out b7)
  clear b7 B6 E1
  go_wp2_with fail
  go_loopw [12, 13] (fun v12 v13 wr => ∃ (k : Nat) (x : Int), k ≤ n ∧ v13 = .int .i64 (k : Int) ∧ v12 = .int .i64 x ∧ x = wrap64 (b + s * i + terms i (L.take k)) ∧ Below w.heap.size w wr) (fun _ v13 _ => n - (RowKit.intOf v13).toNat)
  case atStart => exact ⟨0, _, by omega, rfl, rfl, by rw [HSV.out, w_addr]; unfold terms; simp, B7.out⟩
  case round =>
    clear B7
    obtain ⟨k, x, hk, rfl, rfl, hx, hbk⟩ := hrel
    have HX := Lib.hid hx
    have BK := Lib.hid hbk
    clear hx hbk
    by_cases hlt : k < n
    · obtain ⟨b0, o0, rfl, hb0, _⟩ := GA.out.at hlt
      have k1 : (0 : Int) ≤ (k : Int) := by omega
      have k2 : (k : Int) < (n : Int) := by omega
      have k3 : (k : Int) + 1 ≤ (c : Int) := by omega
      have HO := Lib.hid (one_in GA.out hlt)
      have HGK := Lib.hid (given_any (some ⟨b0, o0 + k * 2, none⟩) (c - k) 1 [L.getD k (0, [])] [R0.getD k sl0] wr (by omega) (fun j => by
        by_cases h : j = 0
        · rw [h]; exact HL2.out k
        · rw [List.getD_eq_getElem?_getD, List.getElem?_eq_none (by simp; omega)]; exact Nat.zero_le _) (HO.out.below BK.out) (fun j => by
        by_cases h : j = 0
        · rw [h]; exact HNE.out k
        · rw [List.getD_eq_getElem?_getD, List.getElem?_eq_none (by simp; omega)]; exact fun _ => rfl))
      have HT := Lib.hid (termsS i (L := L) (k := k) (by rw [← HN.out]; exact hlt))
      obtain ⟨tv, htv⟩ : ∃ tv, entV i 0 0 [L.getD k (0, [])] = tv := ⟨_, rfl⟩
      have HTV : Hid (tv = wrap64 (term i (L.getD k (0, [])))) := Lib.hid (by rw [← htv, ent_one i _ HI0.out])
      have ET : Hid (∀ W A c n R, n ≤ 1099511627776 → Ro.RowsIn KP W A n [L.getD k (0, [])] R → Calls Try.prog 19 #[.int .i64 i, .int .i64 0, .int .i64 0, .slice A n c] W (fun e w' => e = .returned (.int .i64 tv) ∧ Below W.heap.size W w')) := Lib.hid fun W A c n R hn hr => by
        have := entry_any A c n i 0 0 [L.getD k (0, [])] R W HI9.out hn (fun j => by
          by_cases h : j = 0
          · rw [h]; exact HL2.out k
          · rw [List.getD_eq_getElem?_getD, List.getElem?_eq_none (by simp; omega)]; exact Nat.zero_le _) hr
        rw [htv] at this
        exact this
      clear htv HO
      go_wp2_with fail
      refine HGK.out.mono ?_
      rintro e w9 ⟨A9, c9, n9, R9, rfl, hr9, b9⟩
      have B9 := Lib.hid (bt BK.out b9)
      have hn9 : n9 ≤ 1099511627776 := by rw [hr9.1]; exact (by decide : 1 ≤ 1099511627776)
      have HE9 := Lib.hid (ET.out w9 A9 c9 n9 R9 hn9 hr9.rows)
      clear b9 hr9 hn9 HGK ET
      go_wp2_with fail
      refine HE9.out.mono ?_
      rintro e w10 ⟨rfl, b10⟩
      have B10 := Lib.hid (bt B9.out b10)
      clear b10 HE9 B9
      go_wp2_with fail
      go_roundw
      case rel => exact ⟨k + 1, _, by omega, by go_num, rfl, by rw [HX.out, HTV.out, w_add, HT.out, Int.add_assoc (b + s * i)], B10.out⟩
      case measure => simp [RowKit.intOf]; omega
    · obtain rfl : n = k := by omega
      obtain rfl : x = av := by rw [HX.out, HAV.out, HN.out, List.take_length]
      have HG2 := Lib.hid (HG.out _ BK.out)
      clear HX HAV HG
      go_wp2_with fail
      refine HG2.out.mono ?_
      rintro e w9 ⟨A9, c9, n9, R9, rfl, hr9, b9⟩
      obtain rfl : n9 = n := by rw [hr9.1, HN.out]
      have HR9 := Lib.hid hr9
      have B9 := Lib.hid (bt BK.out b9)
      have hsz : w.heap.size ≤ wr.heap.size := BK.out.size
      clear b9 hr9 HG2
      go_wp2_with fail
      go_loopw [15] (fun v15 wi => ∃ k : Nat, k ≤ n9 ∧ v15 = .int .i64 (k : Int) ∧ Ro.RowsOwn KP wi wr.heap.size A9 n9 c9 ((L.take k).map (sc o) ++ L.drop k) R9 ∧ Below w.heap.size w wi) (fun v15 _ => n9 - (RowKit.intOf v15).toNat)
      case atStart => exact ⟨0, by omega, rfl, HR9.out, B9.out⟩
      case round =>
        clear HR9 B9
        obtain ⟨k, hk, rfl, hrk, hbk⟩ := hrel
        have RK := Lib.hid hrk
        have BJ := Lib.hid hbk
        clear hbk hrk
        by_cases hlt : k < n9
        · have hkL : k < L.length := by rw [← HN.out]; exact hlt
          have HSS := Lib.hid (scl_set o L k hkL)
          obtain ⟨g, rfl, hgb, hgs, hfz, hc, hwr⟩ := RK.out.head hlt
          have hat : ((L.take k).map (sc o) ++ L.drop k).getD k KP.z = L.getD k (0, []) := scl_at o L k hkL
          rw [hat] at hc hwr
          have HW := Lib.hid (hwr 0 (.int .i64 (wrap64 ((L.getD k (0, [])).1 * o))) (sc o (L.getD k (0, []))) (by decide) rfl rfl rfl)
          rw [HSS.out] at HW
          have e0 : wr.cell? ⟨g, k * 2, none⟩ = some (.int .i64 (L.getD k (0, [])).1) := hc 0 _ rfl
          have f0 : wr.frozen? ⟨g, k * 2, none⟩ = false := hfz _
          have k1 : (0 : Int) ≤ (k : Int) := by omega
          have k2 : (k : Int) < (n9 : Int) := by omega
          clear hc hwr hat HSS hfz
          generalize (L.getD k (0, [])).1 = f at e0 HW
          go_wp2_with fail
          go_roundw
          case rel => exact ⟨k + 1, by omega, by go_num, HW.out, below_set (p := ⟨g, k * 2, none⟩) BJ.out (show w.heap.size ≤ g by omega) _⟩
          case measure => simp [RowKit.intOf]; omega
        · obtain rfl : n9 = k := by omega
          have HM : Hid ((L.take n9).map (sc o) ++ L.drop n9 = L.map (sc o)) := Lib.hid (by rw [HN.out, List.take_length, List.drop_length, List.append_nil])
          have HE := Lib.hid (EZ.out _ A9 c9 n9 R9 _ (by rw [HM.out]; simp) HM.out (by omega) RK.out.rows)
          clear HM EZ RK
          go_wp2_with fail
          refine HE.out.mono ?_
          rintro e w10 ⟨rfl, b10⟩
          have B10 := Lib.hid (bt BJ.out b10)
          clear b10 HE BJ
          go_wp2_with fail
          go_ret
          exact ⟨rfl, B10.out⟩
end Go.Proofs.Ytcbjmmehnfakkaa.Kl
