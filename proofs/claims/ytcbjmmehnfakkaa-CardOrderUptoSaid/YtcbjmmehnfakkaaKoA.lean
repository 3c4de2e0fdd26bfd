/- The law CardOrder. -/
import Derived.Test.YtcbjmmehnfakkaaKoM
namespace Go.Proofs.Ytcbjmmehnfakkaa.Ko
open Go.ChangeShapes Go.WideShapes Go.ChangeAt Go.RowKit Own Ro wordsNames Kc Kr Kn
open Ka (i64s i64s_at i64s_len)

theorem rows_pre {w : World} {A : Option Addr} {n : Nat} {L : List Cd} {R : List Sl} (h : Ro.RowsIn KC w A n L R) {m : Nat} (hm : m ≤ n) : Ro.RowsIn KC w A m (L.take m) (R.take m) := by
  by_cases h0 : 0 < m
  · exact rows_take KC h hm h0
  · obtain rfl : m = 0 := by omega
    exact ⟨by simp, by simp, ⟨by simp [Kd.rows], .inl rfl⟩, fun i hi => absurd hi (by omega)⟩
theorem mild_take {M : Nat} {L : List Cd} (h : MildL M L) (m : Nat) : MildL M (L.take m) := ⟨by have := h.1; rw [List.length_take]; omega, fun k => by
  rw [List.getD_eq_getElem?_getD, List.getElem?_take]
  by_cases hk : k < m
  · rw [if_pos hk, ← List.getD_eq_getElem?_getD]
    exact h.2 k
  · rw [if_neg hk]
    exact ⟨Nat.zero_le _, Nat.zero_le _, Nat.zero_le _, Nat.zero_le _, fun k => by simp [cd0]⟩⟩
theorem neat_take {R : List Sl} (h : ∀ k, Neat (R.getD k sl0)) (m : Nat) : ∀ k, Neat ((R.take m).getD k sl0) := fun k => by
  rw [List.getD_eq_getElem?_getD, List.getElem?_take]
  by_cases hk : k < m
  · rw [if_pos hk, ← List.getD_eq_getElem?_getD]
    exact h k
  · rw [if_neg hk]
    exact fun _ => rfl
theorem tmod_lt (x : Int) (N : Nat) (h : 0 < N) : x.tmod (N : Int) < N ∧ -(N : Int) < x.tmod (N : Int) := by
  have h1 := Int.tmod_lt_of_pos x (show (0 : Int) < (N : Int) by omega)
  have h2 := Int.lt_tmod_of_pos x (show (0 : Int) < (N : Int) by omega)
  exact ⟨h1, h2⟩
theorem HTx.below {W W' : World} {A : Option Addr} {d : Cd} {r : Sl} (h : HTx W A d r) (hb : Below W.heap.size W W') : HTx W' A d r := ⟨h.1, h.2.1.below hb, h.2.2⟩
theorem HTx.kept {W W' : World} {g : Nat} {d : Cd} {r : Sl} (h : HTx W (some ⟨g, 0, none⟩) d r) (hg : W.grownBy W' (some g)) : HTx W' (some ⟨g, 0, none⟩) d r :=
  ⟨h.1, h.2.1.kept hg (fun a ha e => h.2.2.2.2 a ⟨g, 0, none⟩ ha rfl (by injection e)), h.2.2⟩
theorem _root_.Go.Proofs.Ytcbjmmehnfakkaa.Kr.RegAt.keptHi {W W' : World} {g g' B : Nat} {C F : Cs} {N : List Nt} {z : Bool} (h : RegAt W g C F N z) (hg : W.grownBy W' (some g')) (hne : g ≠ g') (hC : Hi B C) (hF : Hi B F) (hB : g' < B) : RegAt W' g C F N z :=
  h.keptR hg (fun e => hne (by injection e)) (fun i hi a ha e => by
    have := hC i hi a ha
    injection e with e
    omega) (fun i hi a ha e => by
    have := hF i hi a ha
    injection e with e
    omega)
/-- How the second registry stands beside the first, when `at0` may have passed. -/
def FZ (at0 : Int) (k : Int) (C F D G : Cs) (z : Bool) : Prop := (z = false → plain D = plain C ∧ plain G = plain F ∧ ¬ (0 ≤ at0 ∧ at0 < k)) ∧ (z = true → 0 ≤ at0 ∧ at0 < k ∧ (D.length : Int) ≤ at0)
theorem FZ.stop {at0 : Int} {k : Nat} {C F D G : Cs} {z : Bool} (h : FZ at0 k C F D G z) (ha : (k : Int) = at0) (hl : C.length ≤ k) : z = false ∧ FZ at0 (k + 1) C F D G true := by
  cases z with
  | true =>
    have := h.2 rfl
    omega
  | false =>
    obtain ⟨h1, _, _⟩ := h.1 rfl
    have e : D.length = C.length := by rw [← plain_len, h1, plain_len]
    exact ⟨rfl, fun h => (by cases h), fun _ => ⟨by omega, by omega, by omega⟩⟩
theorem FZ.go {at0 : Int} {k : Nat} {C F D G : Cs} {z : Bool} (h : FZ at0 k C F D G z) (ha : ¬ (k : Int) = at0) : FZ at0 (k + 1) C F D G z :=
  ⟨fun hz => by
    obtain ⟨h1, h2, h3⟩ := h.1 hz
    exact ⟨h1, h2, by omega⟩, fun hz => by
    obtain ⟨h1, h2, h3⟩ := h.2 hz
    exact ⟨h1, by omega, h3⟩⟩
theorem FZ.enter {at0 k : Int} {C F D G : Cs} {z : Bool} {d : Cd} {B B' : Nat} {C1 F1 D1 G1 : Cs} {e f : Int} (h : FZ at0 k C F D G z) (h1 : EnterRel C F false d B C1 F1 e) (h2 : EnterRel D G z d B' D1 G1 f) : FZ at0 k C1 F1 D1 G1 z ∧ ((z = true ∧ f = 5) ∨ (z = false ∧ f = e)) := by
  cases z with
  | true =>
    obtain ⟨h3, rfl, rfl⟩ := enter_done h2
    exact ⟨⟨fun h => (by cases h), fun _ => h.2 rfl⟩, .inl ⟨rfl, h3⟩⟩
  | false =>
    obtain ⟨g1, g2, g3⟩ := h.1 rfl
    obtain ⟨p1, p2, p3⟩ := enter_same h1 h2 g1 g2
    exact ⟨⟨fun _ => ⟨p2, p3, g3⟩, fun h => (by cases h)⟩, .inr ⟨rfl, p1⟩⟩
theorem sub_step {α : Type} {X Y : List α} {i j : Nat} (z : α) (hj : j < X.length) (hi : i < Y.length) (h : (X.drop j).Sublist (Y.drop i)) : (X.getD j z = Y.getD i z → (X.drop (j + 1)).Sublist (Y.drop (i + 1))) ∧ (X.getD j z ≠ Y.getD i z → (X.drop j).Sublist (Y.drop (i + 1))) := by
  have e1 : X.drop j = X.getD j z :: X.drop (j + 1) := by
    rw [List.drop_eq_getElem_cons hj, List.getD_eq_getElem?_getD, List.getElem?_eq_getElem hj]
    rfl
  have e2 : Y.drop i = Y.getD i z :: Y.drop (i + 1) := by
    rw [List.drop_eq_getElem_cons hi, List.getD_eq_getElem?_getD, List.getElem?_eq_getElem hi]
    rfl
  rw [e1, e2] at h
  rw [e1]
  generalize X.getD j z = x at h ⊢
  generalize Y.getD i z = y at h ⊢
  refine ⟨fun e => ?_, fun e => ?_⟩
  · rw [e] at h
    exact List.cons_sublist_cons.1 h
  · cases h with
    | cons _ h => exact h
    | cons_cons _ h => exact absurd rfl e
theorem same_ex (a b : Cd) : ∃ g : Bool, g = true ↔ a = b := by
  by_cases h : a = b
  · exact ⟨true, by simp [h]⟩
  · exact ⟨false, by simp [h]⟩
set_option maxRecDepth 100000 in
set_option maxHeartbeats 16000000 in
theorem order_any (A B : Option Addr) (c d n m : Nat) (at0 : Int) (L0 : List Cd) (R0 : List Sl) (ls : List Int) (w : World) (hm : MildL 1099511627776 L0) (hnc : n ≤ c) (hn9 : n ≤ 1048576) (hA : Ro.RowsIn KC w A n L0 R0) (hneat : ∀ k, Neat (R0.getD k sl0))
    (hml : m = ls.length) (hm9 : m ≤ 1048576) (hB : CellsIn w 1 B m (i64s ls)) :
    Calls Try.prog 7 #[.slice A n c, .slice B m d, .int .i64 at0] w (fun e w' => e = .returned (.bool true) ∧ Below w.heap.size w w') := by
  have GB := Lib.hid hB
  have HML := Lib.hid hml
  have HN := Lib.hid new_any
  clear hB hml
  go_enter Try.func7, Try.ntmps7
  go_wp2_with fail
  refine (works_any w).mono ?_
  rintro e w1 ⟨rfl, b1⟩
  have B1 := Lib.hid b1
  clear b1
  go_wp2_with fail
  obtain ⟨N, hN⟩ : ∃ N, (min (n : Int) 60).toNat = N := ⟨_, rfl⟩
  have hN6 : N ≤ 60 := by omega
  have hNn : N ≤ n := by omega
  rw [hN]
  clear hN
  have HT := Lib.hid (twins_any A c N (L0.take N) (R0.take N) w1 (mild_take hm N) ((rows_pre hA hNn).below B1.out) (neat_take hneat N))
  have HL0 : Hid ((L0.take N).length = N) := Lib.hid (by rw [List.length_take, ← hA.1]; omega)
  have HM0 := Lib.hid (mild_take hm N)
  clear hm hA hneat
  generalize L0.take N = L1 at HT HL0 HM0
  refine HT.out.mono ?_
  rintro e w2 ⟨A2, c2, n2, R1, rfl, hr2, b2⟩
  obtain rfl : n2 = N := by rw [hr2.1, HL0.out]
  have H2 := Lib.hid (Half.of hr2)
  have B2 := Lib.hid (bt B1.out b2)
  have hs1 : w.heap.size ≤ w1.heap.size := B1.out.size
  clear hr2 b2 HT B1
  go_wp2_with fail
  go_loopw [7] (fun v7 wr => ∃ (k : Nat) (L : List Cd) (R : List Sl), v7 = .int .i64 (k : Int) ∧ k ≤ m ∧ Half wr w1.heap.size A2 n2 c2 L R ∧ MildL 1099511627776 L ∧ Below w.heap.size w wr) (fun v7 _ => m - (RowKit.intOf v7).toNat)
  case atStart => exact ⟨0, L1, R1, rfl, by omega, H2.out, HM0.out, B2.out⟩
  case round =>
    clear H2 HM0 HL0 B2
    obtain ⟨k, L, R, rfl, hk, hh, hml, hbk⟩ := hrel
    have HH := Lib.hid hh
    have HMI := Lib.hid hml
    have BK := Lib.hid hbk
    clear hh hml hbk
    by_cases hq : k < m ∧ 0 < n2
    · obtain ⟨hlt, h0⟩ := hq
      · obtain ⟨bB, oB, rfl, hbB, hcB⟩ := GB.out.at (by omega)
        have p0 := hcB k _ (i64s_at ls k (by rw [← HML.out]; exact hlt))
        have e0 : wr.cell? ⟨bB, oB + k, none⟩ = some (.int .i64 (ls.getD k 0)) := (BK.out.cell (p := ⟨bB, oB + k, none⟩) hbB).trans p0
        clear hcB p0
        generalize ls.getD k 0 = x at e0
        have k1 : (0 : Int) ≤ (k : Int) := by omega
        have k2 : (k : Int) < (m : Int) := by omega
        have k3 : ((n2 : Int) == 0) = false := by simp; omega
        obtain ⟨a, ha, ea⟩ : ∃ a : Nat, a < n2 ∧ (k : Int) % (n2 : Int) = (a : Int) := ⟨k % n2, Nat.mod_lt _ h0, by simp⟩
        obtain ⟨j, hj, hx⟩ : ∃ j : Nat, j < n2 ∧ ((x.tmod (n2 : Int) < 0 ∧ x.tmod (n2 : Int) + (n2 : Int) = (j : Int)) ∨ (¬ x.tmod (n2 : Int) < 0 ∧ x.tmod (n2 : Int) = (j : Int))) := by
          obtain ⟨t1, t2⟩ := tmod_lt x n2 h0
          by_cases hn : x.tmod (n2 : Int) < 0
          · exact ⟨(x.tmod (n2 : Int) + (n2 : Int)).toNat, by omega, .inl ⟨hn, by omega⟩⟩
          · exact ⟨(x.tmod (n2 : Int)).toNat, by omega, .inr ⟨hn, by omega⟩⟩
        have a1 : (0 : Int) ≤ (a : Int) := by omega
        have a2 : (a : Int) < (n2 : Int) := by omega
        have j1 : (0 : Int) ≤ (j : Int) := by omega
        have j2 : (j : Int) < (n2 : Int) := by omega
        rcases hx with ⟨hx1, hx2⟩ | ⟨hx1, hx2⟩
        all_goals
          go_upto_region 10 with (fail)
          clear hx1 hx2 e0
          obtain ⟨g, hgA, hgb, hgs, hfz, hca, _⟩ := HH.out.at ha
          obtain ⟨g', hgA', _, _, _, hcj, _⟩ := HH.out.at hj
          rw [hgA] at hgA'
          injection hgA' with hgA'
          injection hgA' with hgA'
          subst hgA'
          subst hgA
          have TXA := Lib.hid (HH.out.tx a ha)
          have TXJ := Lib.hid (HH.out.tx j hj)
          have MA := Lib.hid (HMI.out.2 a)
          have MJ := Lib.hid (HMI.out.2 j)
          clear hfz
          generalize L.getD a cd0 = da at hca TXA MA
          generalize R.getD a sl0 = ra at hca TXA
          generalize L.getD j cd0 = dj at hcj TXJ MJ
          generalize R.getD j sl0 = rj at hcj TXJ
          obtain ⟨anm, afm, alv, acp, asc, aqk, aen⟩ := da
          obtain ⟨ara, arn, arc⟩ := ra
          obtain ⟨jnm, jfm, jlv, jcp, jsc, jqk, jen⟩ := dj
          obtain ⟨jra, jrn, jrc⟩ := rj
          have p0 : wr.cell? ⟨g, a * 7, none⟩ = some (.string (str anm)) := hca 0 _ rfl
          have p1 : wr.cell? ⟨g, a * 7 + 1, none⟩ = some (.string (str afm)) := hca 1 _ rfl
          have p2 : wr.cell? ⟨g, a * 7 + 2, none⟩ = some (.int .u8 alv) := hca 2 _ rfl
          have p3 : wr.cell? ⟨g, a * 7 + 3, none⟩ = some (.slice ara arn arc) := hca 3 _ rfl
          have p4 : wr.cell? ⟨g, a * 7 + 4, none⟩ = some (.int .i8 asc) := hca 4 _ rfl
          have p5 : wr.cell? ⟨g, a * 7 + 5, none⟩ = some (.string (str aqk)) := hca 5 _ rfl
          have p6 : wr.cell? ⟨g, a * 7 + 6, none⟩ = some (.int .i16 aen) := hca 6 _ rfl
          clear hca
          have hgw : g ≠ wr.heap.size := by omega
          go_upto_region 11 with (fail)
          have q0 : wr.cell? ⟨g, j * 7, none⟩ = some (.string (str jnm)) := hcj 0 _ rfl
          have q1 : wr.cell? ⟨g, j * 7 + 1, none⟩ = some (.string (str jfm)) := hcj 1 _ rfl
          have q2 : wr.cell? ⟨g, j * 7 + 2, none⟩ = some (.int .u8 jlv) := hcj 2 _ rfl
          have q3 : wr.cell? ⟨g, j * 7 + 3, none⟩ = some (.slice jra jrn jrc) := hcj 3 _ rfl
          have q4 : wr.cell? ⟨g, j * 7 + 4, none⟩ = some (.int .i8 jsc) := hcj 4 _ rfl
          have q5 : wr.cell? ⟨g, j * 7 + 5, none⟩ = some (.string (str jqk)) := hcj 5 _ rfl
          have q6 : wr.cell? ⟨g, j * 7 + 6, none⟩ = some (.int .i16 jen) := hcj 6 _ rfl
          clear hcj
          have YB := Lib.hid (grows' wr (.cells #[.string (str anm), .string (str afm), .int .u8 alv, .slice ara arn arc, .int .i8 asc, .string (str aqk), .int .i16 aen] 30))
          replace p0 := (YB.out.cell (p := ⟨g, a * 7, none⟩) hgs).trans p0
          replace q0 := (YB.out.cell (p := ⟨g, j * 7, none⟩) hgs).trans q0
          replace p1 := (YB.out.cell (p := ⟨g, a * 7 + 1, none⟩) hgs).trans p1
          replace q1 := (YB.out.cell (p := ⟨g, j * 7 + 1, none⟩) hgs).trans q1
          replace p2 := (YB.out.cell (p := ⟨g, a * 7 + 2, none⟩) hgs).trans p2
          replace q2 := (YB.out.cell (p := ⟨g, j * 7 + 2, none⟩) hgs).trans q2
          replace p3 := (YB.out.cell (p := ⟨g, a * 7 + 3, none⟩) hgs).trans p3
          replace q3 := (YB.out.cell (p := ⟨g, j * 7 + 3, none⟩) hgs).trans q3
          replace p4 := (YB.out.cell (p := ⟨g, a * 7 + 4, none⟩) hgs).trans p4
          replace q4 := (YB.out.cell (p := ⟨g, j * 7 + 4, none⟩) hgs).trans q4
          replace p5 := (YB.out.cell (p := ⟨g, a * 7 + 5, none⟩) hgs).trans p5
          replace q5 := (YB.out.cell (p := ⟨g, j * 7 + 5, none⟩) hgs).trans q5
          replace p6 := (YB.out.cell (p := ⟨g, a * 7 + 6, none⟩) hgs).trans p6
          replace q6 := (YB.out.cell (p := ⟨g, j * 7 + 6, none⟩) hgs).trans q6
          have x0 : (wr.alloc (.cells #[.string (str anm), .string (str afm), .int .u8 alv, .slice ara arn arc, .int .i8 asc, .string (str aqk), .int .i16 aen] 30)).cell? ⟨wr.heap.size, 0, none⟩ = some (.string (str anm)) := by rw [Lib.cell_of_heap (heap_alloc_new wr _)]; rfl
          have x1 : (wr.alloc (.cells #[.string (str anm), .string (str afm), .int .u8 alv, .slice ara arn arc, .int .i8 asc, .string (str aqk), .int .i16 aen] 30)).cell? ⟨wr.heap.size, 1, none⟩ = some (.string (str afm)) := by rw [Lib.cell_of_heap (heap_alloc_new wr _)]; rfl
          have x2 : (wr.alloc (.cells #[.string (str anm), .string (str afm), .int .u8 alv, .slice ara arn arc, .int .i8 asc, .string (str aqk), .int .i16 aen] 30)).cell? ⟨wr.heap.size, 2, none⟩ = some (.int .u8 alv) := by rw [Lib.cell_of_heap (heap_alloc_new wr _)]; rfl
          have x3 : (wr.alloc (.cells #[.string (str anm), .string (str afm), .int .u8 alv, .slice ara arn arc, .int .i8 asc, .string (str aqk), .int .i16 aen] 30)).cell? ⟨wr.heap.size, 3, none⟩ = some (.slice ara arn arc) := by rw [Lib.cell_of_heap (heap_alloc_new wr _)]; rfl
          have x4 : (wr.alloc (.cells #[.string (str anm), .string (str afm), .int .u8 alv, .slice ara arn arc, .int .i8 asc, .string (str aqk), .int .i16 aen] 30)).cell? ⟨wr.heap.size, 4, none⟩ = some (.int .i8 asc) := by rw [Lib.cell_of_heap (heap_alloc_new wr _)]; rfl
          have x5 : (wr.alloc (.cells #[.string (str anm), .string (str afm), .int .u8 alv, .slice ara arn arc, .int .i8 asc, .string (str aqk), .int .i16 aen] 30)).cell? ⟨wr.heap.size, 5, none⟩ = some (.string (str aqk)) := by rw [Lib.cell_of_heap (heap_alloc_new wr _)]; rfl
          have x6 : (wr.alloc (.cells #[.string (str anm), .string (str afm), .int .u8 alv, .slice ara arn arc, .int .i8 asc, .string (str aqk), .int .i16 aen] 30)).cell? ⟨wr.heap.size, 6, none⟩ = some (.int .i16 aen) := by rw [Lib.cell_of_heap (heap_alloc_new wr _)]; rfl
          generalize wr.alloc (.cells #[.string (str anm), .string (str afm), .int .u8 alv, .slice ara arn arc, .int .i8 asc, .string (str aqk), .int .i16 aen] 30) = y at YB p0 p1 p2 p3 p4 p5 p6 q0 q1 q2 q3 q4 q5 q6 x0 x1 x2 x3 x4 x5 x6 ⊢
          have HY := Lib.hid (HH.out.below YB.out)
          obtain ⟨g', hgA', _, _, hfz, _, hwa⟩ := HY.out.at ha
          injection hgA' with hgA'
          injection hgA' with hgA'
          subst hgA'
          have HP := Lib.hid (hwa ⟨jnm, jfm, jlv, jcp, jsc, jqk, jen⟩ (jra, jrn, jrc) ⟨TXJ.out.1, TXJ.out.2.1.below YB.out, TXJ.out.2.2⟩)
          simp only [slV] at HP
          have XS := Lib.hid (⟨x0, x1, x2, x3, x4, x5, x6⟩ : (y.cell? ⟨wr.heap.size, 0, none⟩ = some (.string (str anm)) ∧ y.cell? ⟨wr.heap.size, 1, none⟩ = some (.string (str afm)) ∧ y.cell? ⟨wr.heap.size, 2, none⟩ = some (.int .u8 alv) ∧ y.cell? ⟨wr.heap.size, 3, none⟩ = some (.slice ara arn arc) ∧ y.cell? ⟨wr.heap.size, 4, none⟩ = some (.int .i8 asc) ∧ y.cell? ⟨wr.heap.size, 5, none⟩ = some (.string (str aqk)) ∧ y.cell? ⟨wr.heap.size, 6, none⟩ = some (.int .i16 aen)))
          have f0 := hfz (a * 7)
          have f1 := hfz (a * 7 + 1)
          have f2 := hfz (a * 7 + 2)
          have f3 := hfz (a * 7 + 3)
          have f4 := hfz (a * 7 + 4)
          have f5 := hfz (a * 7 + 5)
          have f6 := hfz (a * 7 + 6)
          clear hwa hfz x0 x1 x2 x3 x4 x5 x6 HY
          go_region
          all_goals
            go_upto_region 12 with (fail)
            clear p0 p1 p2 p3 p4 p5 p6 q0 q1 q2 q3 q4 q5 q6 f0 f1 f2 f3 f4 f5 f6
            have H1 := Lib.hid HP.out.1
            have G1 := Lib.hid HP.out.2
            clear HP
            generalize ((((((y.setCell _ _).setCell _ _).setCell _ _).setCell _ _).setCell _ _).setCell _ _).setCell _ _ = y1 at H1 G1 ⊢
            have D1 : Hid (Below y1.heap.size y1 y1.drew) := Lib.hid (below_dr (Below.refl y1.heap.size y1) 1)
            have H2 := Lib.hid (H1.out.below D1.out)
            obtain ⟨x0, x1, x2, x3, x4, x5, x6⟩ := XS.out
            replace x0 := (D1.out.cell (p := ⟨wr.heap.size, 0, none⟩) (Nat.lt_of_lt_of_le (cell_lt x0) G1.out.size)).trans ((gb_cell G1.out (cell_lt x0) hgw.symm).trans x0)
            replace x1 := (D1.out.cell (p := ⟨wr.heap.size, 1, none⟩) (Nat.lt_of_lt_of_le (cell_lt x1) G1.out.size)).trans ((gb_cell G1.out (cell_lt x1) hgw.symm).trans x1)
            replace x2 := (D1.out.cell (p := ⟨wr.heap.size, 2, none⟩) (Nat.lt_of_lt_of_le (cell_lt x2) G1.out.size)).trans ((gb_cell G1.out (cell_lt x2) hgw.symm).trans x2)
            replace x3 := (D1.out.cell (p := ⟨wr.heap.size, 3, none⟩) (Nat.lt_of_lt_of_le (cell_lt x3) G1.out.size)).trans ((gb_cell G1.out (cell_lt x3) hgw.symm).trans x3)
            replace x4 := (D1.out.cell (p := ⟨wr.heap.size, 4, none⟩) (Nat.lt_of_lt_of_le (cell_lt x4) G1.out.size)).trans ((gb_cell G1.out (cell_lt x4) hgw.symm).trans x4)
            replace x5 := (D1.out.cell (p := ⟨wr.heap.size, 5, none⟩) (Nat.lt_of_lt_of_le (cell_lt x5) G1.out.size)).trans ((gb_cell G1.out (cell_lt x5) hgw.symm).trans x5)
            replace x6 := (D1.out.cell (p := ⟨wr.heap.size, 6, none⟩) (Nat.lt_of_lt_of_le (cell_lt x6) G1.out.size)).trans ((gb_cell G1.out (cell_lt x6) hgw.symm).trans x6)
            have TA2 := Lib.hid (((TXA.out.below YB.out).kept G1.out).below D1.out)
            have GY := Lib.hid (gb_trans G1.out (gb_below D1.out (some g)))
            clear D1 H1 G1 XS
            generalize y1.drew = y2 at H2 x0 x1 x2 x3 x4 x5 x6 TA2 GY ⊢
            obtain ⟨g', hgA', _, _, hfz, hcz, hwz⟩ := H2.out.at hj
            injection hgA' with hgA'
            injection hgA' with hgA'
            subst hgA'
            have HP := Lib.hid (hwz ⟨anm, afm, alv, acp, asc, aqk, aen⟩ (ara, arn, arc) TA2.out)
            simp only [slV] at HP
            obtain ⟨u0, z0⟩ : ∃ u, y2.cell? ⟨g, j * 7, none⟩ = some u := ⟨_, hcz 0 _ rfl⟩
            have f0 : y2.frozen? ⟨g, j * 7, none⟩ = false := hfz _
            obtain ⟨u1, z1⟩ : ∃ u, y2.cell? ⟨g, j * 7 + 1, none⟩ = some u := ⟨_, hcz 1 _ rfl⟩
            have f1 : y2.frozen? ⟨g, j * 7 + 1, none⟩ = false := hfz _
            obtain ⟨u2, z2⟩ : ∃ u, y2.cell? ⟨g, j * 7 + 2, none⟩ = some u := ⟨_, hcz 2 _ rfl⟩
            have f2 : y2.frozen? ⟨g, j * 7 + 2, none⟩ = false := hfz _
            obtain ⟨u3, z3⟩ : ∃ u, y2.cell? ⟨g, j * 7 + 3, none⟩ = some u := ⟨_, hcz 3 _ rfl⟩
            have f3 : y2.frozen? ⟨g, j * 7 + 3, none⟩ = false := hfz _
            obtain ⟨u4, z4⟩ : ∃ u, y2.cell? ⟨g, j * 7 + 4, none⟩ = some u := ⟨_, hcz 4 _ rfl⟩
            have f4 : y2.frozen? ⟨g, j * 7 + 4, none⟩ = false := hfz _
            obtain ⟨u5, z5⟩ : ∃ u, y2.cell? ⟨g, j * 7 + 5, none⟩ = some u := ⟨_, hcz 5 _ rfl⟩
            have f5 : y2.frozen? ⟨g, j * 7 + 5, none⟩ = false := hfz _
            obtain ⟨u6, z6⟩ : ∃ u, y2.cell? ⟨g, j * 7 + 6, none⟩ = some u := ⟨_, hcz 6 _ rfl⟩
            have f6 : y2.frozen? ⟨g, j * 7 + 6, none⟩ = false := hfz _
            clear hcz hwz hfz H2 TA2
            go_wp2_with fail
            have H3 := Lib.hid HP.out.1
            have B3 := Lib.hid (bgb (bt BK.out YB.out) (gb_trans GY.out HP.out.2) (show w.heap.size ≤ g by omega))
            clear HP GY
            go_roundw
            case rel => exact ⟨k + 1, _, _, by go_num, by omega, H3.out, mild_set (mild_set HMI.out (by rw [← HH.out.hn]; exact ha) MJ.out) (by rw [List.length_set, ← HH.out.hn]; exact hj) MA.out, B3.out⟩
            case measure => simp [RowKit.intOf]; omega
    · by_cases hlt : k < m
      all_goals
        have hexit : ¬ (k < m) ∨ ¬ (0 : Int) < (n2 : Int) := by omega
        have HLL : Hid (L.length = n2) := Lib.hid HH.out.hn.symm
        obtain ⟨wo, rfl⟩ : ∃ wo : World, wo = wr := ⟨_, rfl⟩
        go_wp2_with fail
        refine (HN.out _).mono ?_
        rintro e w3 ⟨rfl, hw3⟩
        have R3 : Hid (RegAt w3 wo.heap.size [] [] [] false) := Lib.hid (by rw [hw3]; exact new_reg wo)
        have B3 : Hid (Below wo.heap.size wo w3) := Lib.hid (by rw [hw3]; exact grows' wo _)
        have hg3 : wo.heap.size < w3.heap.size := R3.out.blk.lt
        clear hw3
        go_wp2_with fail
        refine (HN.out _).mono ?_
        rintro e w4 ⟨rfl, hw4⟩
        have R4 : Hid (RegAt w4 w3.heap.size [] [] [] false) := Lib.hid (by rw [hw4]; exact new_reg w3)
        have B4' : Hid (Below w3.heap.size w3 w4) := Lib.hid (by rw [hw4]; exact grows' w3 _)
        have R4' := Lib.hid (R3.out.below B4'.out)
        have B4 := Lib.hid (bt B3.out B4'.out)
        have hg4 : w3.heap.size < w4.heap.size := R4.out.blk.lt
        clear hw4 R3 B3 B4'
        go_wp2_with fail
        obtain ⟨Lx, hLx⟩ : ∃ Lx, L = Lx := ⟨_, rfl⟩
        subst hLx
        go_loopw [12, 13, 14] (fun v12 v13 v14 wl => ∃ (k : Nat) (C F D G : Cs) (z : Bool), k ≤ n2 ∧ v14 = .int .i64 (k : Int) ∧ v12 = .int .i64 (C.length : Int) ∧ v13 = .int .i64 (F.length : Int) ∧ RegAt wl wo.heap.size C F [] false ∧ RegAt wl w3.heap.size D G [] z ∧ (Hi w4.heap.size C ∧ Hi w4.heap.size F ∧ Hi w4.heap.size D ∧ Hi w4.heap.size G) ∧ Inv L k C F ∧ FZ at0 k C F D G z ∧ Below wo.heap.size wo wl ∧ w4.heap.size ≤ wl.heap.size) (fun _ _ v14 _ => n2 - (RowKit.intOf v14).toNat)
        case atStart => exact ⟨0, [], [], [], [], false, by omega, rfl, rfl, rfl, R4'.out, R4.out, ⟨Hi.nil _, Hi.nil _, Hi.nil _, Hi.nil _⟩, Inv.zero L, ⟨fun _ => ⟨rfl, rfl, by omega⟩, fun h => by cases h⟩, B4.out, Nat.le_refl _⟩
        case round =>
          clear R4 R4' B4 hexit hlt hq
          obtain ⟨k, C, F, D, G, z, hk, rfl, rfl, rfl, hrr, hrq, hhi, hinv, hfz, hbl, hsz⟩ := hrel
          have RR := Lib.hid hrr
          have RQ := Lib.hid hrq
          have HI := Lib.hid hhi
          have IV := Lib.hid hinv
          have ZZ := Lib.hid hfz
          have BL := Lib.hid hbl
          have lc : (C.length : Int) ≤ k := by have := hinv.lc; omega
          have lf : (F.length : Int) ≤ k := by have := hinv.lf; omega
          clear hrr hrq hhi hinv hfz hbl
          by_cases hlt : k < n2
          · have HZ := Lib.hid (fun ha => ZZ.out.stop ha (by omega))
            have IVS := Lib.hid fun (C' F' : Cs) (er B : _) (he : EnterRel C F false (L.getD k cd0) B C' F' er) => IV.out.step (by rw [HLL.out]; exact hlt) (by omega) he
            by_cases hat : (k : Int) = at0
            case' pos =>
              have hbq : ((k : Int) == at0) = true := by simpa using hat
              obtain ⟨rfl, hz1⟩ := HZ.out hat
              have ZZ1 := Lib.hid hz1
              clear ZZ hz1 HZ hat
              have HF := Lib.hid (freeze_any w3.heap.size D G [] false _ RQ.out)
              go_wp2_with fail
              refine HF.out.mono ?_
              rintro e w5 ⟨rfl, hq5, hg5⟩
              have RQ5 := Lib.hid hq5
              have RR5 := Lib.hid (RR.out.keptHi hg5 (by omega) HI.out.1 HI.out.2.1 hg4)
              have BL5 := Lib.hid (bgb BL.out hg5 (Nat.le_of_lt hg3))
              have SZ5 := Nat.le_trans hsz hg5.size
              clear hq5 hg5 RQ RR BL hsz HF
              go_upto_region 22 with (fail)
              clear hbq
            case' neg =>
              have hbq : ((k : Int) == at0) = false := by simpa using hat
              have ZZ1 := Lib.hid (ZZ.out.go hat)
              have RQ5 := Lib.hid RQ.out
              have RR5 := Lib.hid RR.out
              have BL5 := Lib.hid BL.out
              have SZ5 := hsz
              clear ZZ HZ hat RQ RR BL hsz
              go_upto_region 22 with (fail)
              clear hbq
              obtain ⟨w5, rfl⟩ : ∃ w5 : World, w5 = wr := ⟨_, rfl⟩
              cases z
            all_goals
              have HH5 := Lib.hid (HH.out.below BL5.out)
              obtain ⟨g, hgA, _, _, _, _, _⟩ := HH5.out.at hlt
              have gsl : g < wo.heap.size := (HH.out.own.lt g (by rw [hgA]; rfl)).2
              subst hgA
              have TXF : Hid (∀ W, Below wo.heap.size wo W → HTx W (some ⟨g, 0, none⟩) (L.getD k cd0) (R.getD k sl0)) := Lib.hid fun W hW => (HH.out.below hW).tx k hlt
              have CF : Hid (∀ W, Below wo.heap.size wo W → ∀ j u, (KC.row (L.getD k cd0, R.getD k sl0))[j]? = some u → W.cell? ⟨g, k * 7 + j, none⟩ = some u) := Lib.hid fun W hW => by
                obtain ⟨g', hgA', _, _, _, hc, _⟩ := (HH.out.below hW).at hlt
                injection hgA' with hgA'
                injection hgA' with hgA'
                subst hgA'
                exact hc
              have MK := Lib.hid (HMI.out.2 k)
              clear HH5
              generalize L.getD k cd0 = da at TXF CF MK IVS
              generalize R.getD k sl0 = ra at TXF CF
              obtain ⟨anm, afm, alv, acp, asc, aqk, aen⟩ := da
              obtain ⟨ara, arn, arc⟩ := ra
              have p0 : w5.cell? ⟨g, k * 7, none⟩ = some (.string (str anm)) := CF.out w5 BL5.out 0 _ rfl
              have p1 : w5.cell? ⟨g, k * 7 + 1, none⟩ = some (.string (str afm)) := CF.out w5 BL5.out 1 _ rfl
              have p2 : w5.cell? ⟨g, k * 7 + 2, none⟩ = some (.int .u8 alv) := CF.out w5 BL5.out 2 _ rfl
              have p3 : w5.cell? ⟨g, k * 7 + 3, none⟩ = some (.slice ara arn arc) := CF.out w5 BL5.out 3 _ rfl
              have p4 : w5.cell? ⟨g, k * 7 + 4, none⟩ = some (.int .i8 asc) := CF.out w5 BL5.out 4 _ rfl
              have p5 : w5.cell? ⟨g, k * 7 + 5, none⟩ = some (.string (str aqk)) := CF.out w5 BL5.out 5 _ rfl
              have p6 : w5.cell? ⟨g, k * 7 + 6, none⟩ = some (.int .i16 aen) := CF.out w5 BL5.out 6 _ rfl
              have k1 : (0 : Int) ≤ (k : Int) := by omega
              have k2 : (k : Int) < (n2 : Int) := by omega
              have HE := Lib.hid (enter_any wo.heap.size C F [] false ⟨anm, afm, alv, acp, asc, aqk, aen⟩ (ara, arn, arc) w5 RR5.out MK.out (TXF.out _ BL5.out).1 (TXF.out _ BL5.out).2.2.1 (TXF.out _ BL5.out).2.2.2.1 (TXF.out _ BL5.out).2.1)
              simp only [cardV, cells7, slV] at HE
              go_wp2_with fail
              refine HE.out.mono ?_
              rintro e w6 ⟨C1, F1, er, rfl, hr6, hg6, he6⟩
              obtain ⟨iv6, ew⟩ := IVS.out C1 F1 er _ he6
              have IV6 := Lib.hid iv6
              have HI6 := Lib.hid (Hi.enter he6 HI.out.1 HI.out.2.1 SZ5)
              have RR6 := Lib.hid hr6
              have RQ6 := Lib.hid (RQ5.out.keptHi hg6 (by omega) HI.out.2.2.1 HI.out.2.2.2 (by omega))
              have BL6 := Lib.hid (bgb BL5.out hg6 (Nat.le_refl _))
              have SZ6 := Nat.le_trans SZ5 hg6.size
              have E6 := Lib.hid he6
              have EW := Lib.hid ew
              clear hr6 hg6 he6 iv6 ew HE RR5 RQ5 BL5 SZ5 p0 p1 p2 p3 p4 p5 p6
              have p0 : w6.cell? ⟨g, k * 7, none⟩ = some (.string (str anm)) := CF.out w6 BL6.out 0 _ rfl
              have p1 : w6.cell? ⟨g, k * 7 + 1, none⟩ = some (.string (str afm)) := CF.out w6 BL6.out 1 _ rfl
              have p2 : w6.cell? ⟨g, k * 7 + 2, none⟩ = some (.int .u8 alv) := CF.out w6 BL6.out 2 _ rfl
              have p3 : w6.cell? ⟨g, k * 7 + 3, none⟩ = some (.slice ara arn arc) := CF.out w6 BL6.out 3 _ rfl
              have p4 : w6.cell? ⟨g, k * 7 + 4, none⟩ = some (.int .i8 asc) := CF.out w6 BL6.out 4 _ rfl
              have p5 : w6.cell? ⟨g, k * 7 + 5, none⟩ = some (.string (str aqk)) := CF.out w6 BL6.out 5 _ rfl
              have p6 : w6.cell? ⟨g, k * 7 + 6, none⟩ = some (.int .i16 aen) := CF.out w6 BL6.out 6 _ rfl
              have HE := Lib.hid (enter_any w3.heap.size D G [] _ ⟨anm, afm, alv, acp, asc, aqk, aen⟩ (ara, arn, arc) w6 RQ6.out MK.out (TXF.out _ BL6.out).1 (TXF.out _ BL6.out).2.2.1 (TXF.out _ BL6.out).2.2.2.1 (TXF.out _ BL6.out).2.1)
              simp only [cardV, cells7, slV] at HE
              go_wp2_with fail
              refine HE.out.mono ?_
              rintro e w7 ⟨D1, G1, f, rfl, hr7, hg7, he7⟩
              obtain ⟨hz7, hf⟩ := ZZ1.out.enter E6.out he7
              have Z7 := Lib.hid hz7
              have HI7 := Lib.hid (Hi.enter he7 HI.out.2.2.1 HI.out.2.2.2 SZ6)
              have RQ7 := Lib.hid hr7
              have RR7 := Lib.hid (RR6.out.keptHi hg7 (by omega) HI6.out.1 HI6.out.2 hg4)
              have BL7 := Lib.hid (bgb BL6.out hg7 (Nat.le_of_lt hg3))
              have SZ7 := Nat.le_trans SZ6 hg7.size
              clear hr7 hg7 he7 hz7 HE RR6 RQ6 BL6 SZ6 p0 p1 p2 p3 p4 p5 p6 E6 ZZ1 HI TXF CF MK IVS
              have HFZ := Lib.hid (frozen_any _ _ _ _ _ _ RQ7.out)
              rcases hf with ⟨hz, hf⟩ | ⟨hz, hf⟩
              all_goals cases hz
              all_goals
                obtain rfl := hf
                rcases EW.out with ⟨rfl, hl1, hl2⟩ | ⟨rfl, hl1, hl2⟩ | ⟨rfl, hl1, hl2⟩
                all_goals
                  have HL1 := Lib.hid hl1
                  have HL2 := Lib.hid hl2
                  clear hl1 hl2 EW
                  go_wp2_with (go_at_call 34; refine HFZ.out.mono ?_; rintro e w8 ⟨rfl, rfl⟩)
                  go_roundw
                  case rel => exact ⟨k + 1, C1, F1, D1, G1, _, by omega, by go_num, by first | (rw [HL1.out]; done) | (rw [HL1.out]; go_num), by first | (rw [HL2.out]; done) | (rw [HL2.out]; go_num), RR7.out, RQ7.out, ⟨HI6.out.1, HI6.out.2, HI7.out.1, HI7.out.2⟩, IV6.out, (by rw [show ((k + 1 : Nat) : Int) = (k : Int) + 1 from rfl]; exact Z7.out), BL7.out, SZ7⟩
                  case measure => simp [RowKit.intOf]; omega
          · obtain rfl : k = n2 := by omega
            clear HN hg3 hg4 hsz
            have H5 := Lib.hid (HH.out.below BL.out)
            obtain ⟨a1, er1, hC1⟩ := chkC_ex L
            have HC := Lib.hid (check_any A2 c2 k L R a1 er1 _ hC1 HMI.out (fun k => (H5.out.neat k).2) H5.out.rows)
            have HW : Hid (er1 = 70 ∨ (er1 = 0 ∧ C.length = k ∧ F.length = 0)) := Lib.hid (by
              rcases hC1 with ⟨_, _, _, h⟩ | ⟨h1, _, h⟩
              · exact .inl h
              · obtain ⟨p1, p2⟩ := IV.out.all fun i hi => h1 i (by rw [HLL.out]; exact hi)
                exact .inr ⟨h, by rw [← plain_len, p1, List.length_take, HLL.out, Nat.min_self], by rw [p2]; rfl⟩)
            clear hC1 H5
            go_wp2_with fail
            refine HC.out.mono ?_
            rintro e w5 ⟨rfl, b5⟩
            have BL5 := Lib.hid (bt BL.out b5)
            have RR5 := Lib.hid (RR.out.below b5)
            have RQ5 := Lib.hid (RQ.out.below b5)
            clear b5 HC BL RR RQ
            have HC := Lib.hid (cards_any _ _ _ _ _ _ RR5.out)
            go_wp2_with fail
            refine HC.out.mono ?_
            rintro e w6 ⟨A6, c6, n6, R6, rfl, hr6, b6⟩
            obtain rfl : n6 = C.length := by rw [hr6.1, plain_len]
            have G6 := Lib.hid hr6
            have BL6 := Lib.hid (bt BL5.out b6)
            have RR6 := Lib.hid (RR5.out.below b6)
            have RQ6 := Lib.hid (RQ5.out.below b6)
            have MP : Hid (MildL 1099511627776 (plain C)) := Lib.hid ⟨by rw [plain_len]; have := RR5.out.c64; omega, fun i => by
              by_cases hi : i < C.length
              · rw [plain_at C i hi]; exact RR5.out.cm i
              · rw [List.getD_eq_getElem?_getD, List.getElem?_eq_none (by rw [plain_len]; omega)]
                exact ⟨Nat.zero_le _, Nat.zero_le _, Nat.zero_le _, Nat.zero_le _, fun k => by simp [cd0]⟩⟩
            clear hr6 b6 HC BL5 RR5 RQ5
            have HC := Lib.hid (check_any A6 c6 C.length (plain C) R6 0 0 w6 IV.out.chk MP.out (fun k => (G6.out.neat k).2) G6.out.rows)
            go_wp2_with fail
            refine HC.out.mono ?_
            rintro e w7 ⟨rfl, b7⟩
            have G7 := Lib.hid (G6.out.below b7)
            have BL7 := Lib.hid (bt BL6.out b7)
            have RR7 := Lib.hid (RR6.out.below b7)
            have RQ7 := Lib.hid (RQ6.out.below b7)
            clear b7 HC BL6 RR6 RQ6 G6
            have HC := Lib.hid (refused_any _ _ _ _ _ _ RR7.out)
            have s1 : ((C.length : Int) != (C.length : Int)) = false := by simp
            have s2 : ((F.length : Int) != (F.length : Int)) = false := by simp
            rcases HW.out with rfl | ⟨rfl, hw1, hw2⟩
            case' inr =>
              have s3 : ((C.length : Int) != (k : Int)) = false := by rw [hw1]; simp
              have s4 : ((F.length : Int) != 0) = false := by rw [hw2]; rfl
              clear hw1 hw2
            all_goals
              clear HW
              go_wp2_with fail
              refine HC.out.mono ?_
              rintro e w8 ⟨A8, c8, n8, R8, rfl, hr8, b8⟩
              obtain rfl : n8 = F.length := by rw [hr8.1, plain_len]
              have G8 := Lib.hid (G7.out.below b8)
              have BL8 := Lib.hid (bt BL7.out b8)
              have RQ8 := Lib.hid (RQ7.out.below b8)
              have SB : Hid (((plain C).drop 0).Sublist (L.drop 0)) := Lib.hid (by
                have := IV.out.sub
                rw [show L.take k = L by rw [← HLL.out, List.take_length]] at this
                simpa using this)
              clear hr8 b8 HC BL7 RR7 RQ7 G7 s1 s2
              go_wp2_with fail
              go_loopw [22, 23] (fun v22 v23 wl => ∃ i j : Nat, i ≤ k ∧ j ≤ C.length ∧ v23 = .int .i64 (i : Int) ∧ v22 = .int .i64 (j : Int) ∧ ((plain C).drop j).Sublist (L.drop i) ∧ Ro.RowsOwn KC wl w5.heap.size A6 C.length c6 (plain C) R6 ∧ RegAt wl w3.heap.size D G [] z ∧ Below wo.heap.size wo wl) (fun _ v23 _ => k - (RowKit.intOf v23).toNat)
              case atStart => exact ⟨0, 0, by omega, by omega, rfl, rfl, SB.out, G8.out, RQ8.out, BL8.out⟩
              case round =>
                clear SB G8 RQ8 BL8
                obtain ⟨i, j, hi, hj, rfl, rfl, hsb, hg, hq, hb⟩ := hrel
                have SB := Lib.hid hsb
                have GG := Lib.hid hg
                have RQ := Lib.hid hq
                have BL := Lib.hid hb
                clear hsb hg hq hb
                by_cases hij : i < k ∧ j < C.length
                · obtain ⟨hik, hjc⟩ := hij
                  have HH1 := Lib.hid (HH.out.below BL.out)
                  obtain ⟨ga, hgA, _, _, _, ca, _⟩ := HH1.out.at hik
                  obtain ⟨gb, hgB, _, _, _, cb, _⟩ := GG.out.head hjc
                  have TA := Lib.hid (HH1.out.tx i hik)
                  have TB := Lib.hid (GG.out.rows.2.2.2 j hjc)
                  have MA := Lib.hid (HMI.out.2 i)
                  have MB := Lib.hid (MP.out.2 j)
                  have SS := Lib.hid (sub_step cd0 (i := i) (j := j) (show j < (plain C).length by rw [plain_len]; exact hjc) (by rw [HLL.out]; exact hik) SB.out)
                  subst hgA
                  subst hgB
                  rw [show KC.z = cd0 from rfl] at cb TB
                  clear HH1
                  generalize L.getD i cd0 = da at ca TA MA SS
                  generalize R.getD i sl0 = ra at ca TA
                  generalize (plain C).getD j cd0 = db at cb TB MB SS
                  generalize R6.getD j sl0 = rb at cb TB
                  obtain ⟨sg, hsg⟩ := same_ex da db
                  have HSG := Lib.hid hsg
                  obtain ⟨anm, afm, alv, acp, asc, aqk, aen⟩ := da
                  obtain ⟨ara, arn, arc⟩ := ra
                  obtain ⟨bnm, bfm, blv, bcp, bsc, bqk, ben⟩ := db
                  obtain ⟨bra, brn, brc⟩ := rb
                  have HX := Lib.hid (⟨⟨ca 0 _ rfl, ca 1 _ rfl, ca 2 _ rfl, ca 3 _ rfl, ca 4 _ rfl, ca 5 _ rfl, ca 6 _ rfl⟩, ⟨cb 0 _ rfl, cb 1 _ rfl, cb 2 _ rfl, cb 3 _ rfl, cb 4 _ rfl, cb 5 _ rfl, cb 6 _ rfl⟩⟩ : (wr.cell? ⟨ga, i * 7, none⟩ = some (.string (str anm)) ∧ wr.cell? ⟨ga, i * 7 + 1, none⟩ = some (.string (str afm)) ∧ wr.cell? ⟨ga, i * 7 + 2, none⟩ = some (.int .u8 alv) ∧ wr.cell? ⟨ga, i * 7 + 3, none⟩ = some (.slice ara arn arc) ∧ wr.cell? ⟨ga, i * 7 + 4, none⟩ = some (.int .i8 asc) ∧ wr.cell? ⟨ga, i * 7 + 5, none⟩ = some (.string (str aqk)) ∧ wr.cell? ⟨ga, i * 7 + 6, none⟩ = some (.int .i16 aen)) ∧ (wr.cell? ⟨gb, j * 7, none⟩ = some (.string (str bnm)) ∧ wr.cell? ⟨gb, j * 7 + 1, none⟩ = some (.string (str bfm)) ∧ wr.cell? ⟨gb, j * 7 + 2, none⟩ = some (.int .u8 blv) ∧ wr.cell? ⟨gb, j * 7 + 3, none⟩ = some (.slice bra brn brc) ∧ wr.cell? ⟨gb, j * 7 + 4, none⟩ = some (.int .i8 bsc) ∧ wr.cell? ⟨gb, j * 7 + 5, none⟩ = some (.string (str bqk)) ∧ wr.cell? ⟨gb, j * 7 + 6, none⟩ = some (.int .i16 ben)))
                  have i1 : (0 : Int) ≤ (i : Int) := by omega
                  have i2 : (i : Int) < (k : Int) := by omega
                  have j1 : (0 : Int) ≤ (j : Int) := by omega
                  have j2 : (j : Int) < (C.length : Int) := by omega
                  clear ca cb hsg
                  go_upto_region 41 with (fail)
                  have HE : Hid (∀ W : World, Below wr.heap.size wr W → ((W.cell? ⟨ga, i * 7, none⟩ = some (.string (str anm)) ∧ W.cell? ⟨ga, i * 7 + 1, none⟩ = some (.string (str afm)) ∧ W.cell? ⟨ga, i * 7 + 2, none⟩ = some (.int .u8 alv) ∧ W.cell? ⟨ga, i * 7 + 3, none⟩ = some (.slice ara arn arc) ∧ W.cell? ⟨ga, i * 7 + 4, none⟩ = some (.int .i8 asc) ∧ W.cell? ⟨ga, i * 7 + 5, none⟩ = some (.string (str aqk)) ∧ W.cell? ⟨ga, i * 7 + 6, none⟩ = some (.int .i16 aen)) ∧ (W.cell? ⟨gb, j * 7, none⟩ = some (.string (str bnm)) ∧ W.cell? ⟨gb, j * 7 + 1, none⟩ = some (.string (str bfm)) ∧ W.cell? ⟨gb, j * 7 + 2, none⟩ = some (.int .u8 blv) ∧ W.cell? ⟨gb, j * 7 + 3, none⟩ = some (.slice bra brn brc) ∧ W.cell? ⟨gb, j * 7 + 4, none⟩ = some (.int .i8 bsc) ∧ W.cell? ⟨gb, j * 7 + 5, none⟩ = some (.string (str bqk)) ∧ W.cell? ⟨gb, j * 7 + 6, none⟩ = some (.int .i16 ben))) ∧ Below wr.heap.size wr W) := Lib.hid fun W hW => ⟨⟨⟨(hW.cell (p := ⟨ga, i * 7, none⟩) (cell_lt HX.out.1.1)).trans HX.out.1.1, (hW.cell (p := ⟨ga, i * 7 + 1, none⟩) (cell_lt HX.out.1.2.1)).trans HX.out.1.2.1, (hW.cell (p := ⟨ga, i * 7 + 2, none⟩) (cell_lt HX.out.1.2.2.1)).trans HX.out.1.2.2.1, (hW.cell (p := ⟨ga, i * 7 + 3, none⟩) (cell_lt HX.out.1.2.2.2.1)).trans HX.out.1.2.2.2.1, (hW.cell (p := ⟨ga, i * 7 + 4, none⟩) (cell_lt HX.out.1.2.2.2.2.1)).trans HX.out.1.2.2.2.2.1, (hW.cell (p := ⟨ga, i * 7 + 5, none⟩) (cell_lt HX.out.1.2.2.2.2.2.1)).trans HX.out.1.2.2.2.2.2.1, (hW.cell (p := ⟨ga, i * 7 + 6, none⟩) (cell_lt HX.out.1.2.2.2.2.2.2)).trans HX.out.1.2.2.2.2.2.2⟩, ⟨(hW.cell (p := ⟨gb, j * 7, none⟩) (cell_lt HX.out.2.1)).trans HX.out.2.1, (hW.cell (p := ⟨gb, j * 7 + 1, none⟩) (cell_lt HX.out.2.2.1)).trans HX.out.2.2.1, (hW.cell (p := ⟨gb, j * 7 + 2, none⟩) (cell_lt HX.out.2.2.2.1)).trans HX.out.2.2.2.1, (hW.cell (p := ⟨gb, j * 7 + 3, none⟩) (cell_lt HX.out.2.2.2.2.1)).trans HX.out.2.2.2.2.1, (hW.cell (p := ⟨gb, j * 7 + 4, none⟩) (cell_lt HX.out.2.2.2.2.2.1)).trans HX.out.2.2.2.2.2.1, (hW.cell (p := ⟨gb, j * 7 + 5, none⟩) (cell_lt HX.out.2.2.2.2.2.2.1)).trans HX.out.2.2.2.2.2.2.1, (hW.cell (p := ⟨gb, j * 7 + 6, none⟩) (cell_lt HX.out.2.2.2.2.2.2.2)).trans HX.out.2.2.2.2.2.2.2⟩⟩, hW⟩
                  have HSM := Lib.hid fun (W : World) (hW : Below wr.heap.size wr W) => same_any ⟨anm, afm, alv, acp, asc, aqk, aen⟩ ⟨bnm, bfm, blv, bcp, bsc, bqk, ben⟩ (ara, arn, arc) (bra, brn, brc) sg W HSG.out MA.out MB.out TA.out.1 TB.out.1 (TA.out.2.1.below hW) (TB.out.2.below hW)
                  simp only [cardV, cells7, slV] at HSM
                  clear HX
                  refine wp_region_noPanic ?_
                  refine wp_region_held_drew (S := fun w' => ((w'.cell? ⟨ga, i * 7, none⟩ = some (.string (str anm)) ∧ w'.cell? ⟨ga, i * 7 + 1, none⟩ = some (.string (str afm)) ∧ w'.cell? ⟨ga, i * 7 + 2, none⟩ = some (.int .u8 alv) ∧ w'.cell? ⟨ga, i * 7 + 3, none⟩ = some (.slice ara arn arc) ∧ w'.cell? ⟨ga, i * 7 + 4, none⟩ = some (.int .i8 asc) ∧ w'.cell? ⟨ga, i * 7 + 5, none⟩ = some (.string (str aqk)) ∧ w'.cell? ⟨ga, i * 7 + 6, none⟩ = some (.int .i16 aen)) ∧ (w'.cell? ⟨gb, j * 7, none⟩ = some (.string (str bnm)) ∧ w'.cell? ⟨gb, j * 7 + 1, none⟩ = some (.string (str bfm)) ∧ w'.cell? ⟨gb, j * 7 + 2, none⟩ = some (.int .u8 blv) ∧ w'.cell? ⟨gb, j * 7 + 3, none⟩ = some (.slice bra brn brc) ∧ w'.cell? ⟨gb, j * 7 + 4, none⟩ = some (.int .i8 bsc) ∧ w'.cell? ⟨gb, j * 7 + 5, none⟩ = some (.string (str bqk)) ∧ w'.cell? ⟨gb, j * 7 + 6, none⟩ = some (.int .i16 ben))) ∧ Below wr.heap.size wr w') (by kernel_rfl) (HE.out _ (below_dr (Below.refl _ _) 1)) (fun hHeld => ?_)
                  first | (refine skipH (i := 0) (dst := some 189) rfl rfl (by kernel_rfl) (by kernel_rfl) (by kernel_rfl) (fun _ _ _ h => h) (by rfl) hHeld ?_) | (refine' takeH (i := 0) (dst := some 189) (v := _) rfl rfl (by kernel_rfl) (by kernel_rfl) (by kernel_rfl) (fun _ _ _ h => h) (by rfl) ?hy hHeld ?_; case hy => (intro w hSw; clear hSw; (first | done | go_simp); try with_reducible rfl)) | fail
                  try simp only [Act.put, List.setIfInBounds_toArray, List.set_cons_zero, List.set_cons_succ]
                  first | (refine skipH (i := 1) (dst := some 190) rfl rfl (by kernel_rfl) (by kernel_rfl) (by kernel_rfl) (fun _ _ _ h => h) (by rfl) hHeld ?_) | (refine' takeH (i := 1) (dst := some 190) (v := _) rfl rfl (by kernel_rfl) (by kernel_rfl) (by kernel_rfl) (fun _ _ _ h => h) (by rfl) ?hy hHeld ?_; case hy => (intro w hSw; clear hSw; (first | done | go_simp); try with_reducible rfl)) | fail
                  try simp only [Act.put, List.setIfInBounds_toArray, List.set_cons_zero, List.set_cons_succ]
                  first | (refine skipH (i := 2) (dst := some 191) rfl rfl (by kernel_rfl) (by kernel_rfl) (by kernel_rfl) (fun _ _ _ h => h) (by rfl) hHeld ?_) | (refine' takeH (i := 2) (dst := some 191) (v := _) rfl rfl (by kernel_rfl) (by kernel_rfl) (by kernel_rfl) (fun _ _ _ h => h) (by rfl) ?hy hHeld ?_; case hy => (intro w hSw; clear hSw; (first | done | go_simp); try with_reducible rfl)) | fail
                  try simp only [Act.put, List.setIfInBounds_toArray, List.set_cons_zero, List.set_cons_succ]
                  first | (refine skipH (i := 3) (dst := some 192) rfl rfl (by kernel_rfl) (by kernel_rfl) (by kernel_rfl) (fun _ _ _ h => h) (by rfl) hHeld ?_) | (refine' takeH (i := 3) (dst := some 192) (v := _) rfl rfl (by kernel_rfl) (by kernel_rfl) (by kernel_rfl) (fun _ _ _ h => h) (by rfl) ?hy hHeld ?_; case hy => (intro w hSw; obtain ⟨⟨⟨_, _, _, _, _, _, _⟩, _⟩, _⟩ := hSw; (first | done | go_simp); try with_reducible rfl)) | fail
                  try simp only [Act.put, List.setIfInBounds_toArray, List.set_cons_zero, List.set_cons_succ]
                  first | (refine skipH (i := 4) (dst := some 193) rfl rfl (by kernel_rfl) (by kernel_rfl) (by kernel_rfl) (fun _ _ _ h => h) (by rfl) hHeld ?_) | (refine' takeH (i := 4) (dst := some 193) (v := _) rfl rfl (by kernel_rfl) (by kernel_rfl) (by kernel_rfl) (fun _ _ _ h => h) (by rfl) ?hy hHeld ?_; case hy => (intro w hSw; clear hSw; (first | done | go_simp); try with_reducible rfl)) | fail
                  try simp only [Act.put, List.setIfInBounds_toArray, List.set_cons_zero, List.set_cons_succ]
                  first | (refine skipH (i := 5) (dst := some 194) rfl rfl (by kernel_rfl) (by kernel_rfl) (by kernel_rfl) (fun _ _ _ h => h) (by rfl) hHeld ?_) | (refine' takeH (i := 5) (dst := some 194) (v := _) rfl rfl (by kernel_rfl) (by kernel_rfl) (by kernel_rfl) (fun _ _ _ h => h) (by rfl) ?hy hHeld ?_; case hy => (intro w hSw; clear hSw; (first | done | go_simp); try with_reducible rfl)) | fail
                  try simp only [Act.put, List.setIfInBounds_toArray, List.set_cons_zero, List.set_cons_succ]
                  first | (refine skipH (i := 6) (dst := some 195) rfl rfl (by kernel_rfl) (by kernel_rfl) (by kernel_rfl) (fun _ _ _ h => h) (by rfl) hHeld ?_) | (refine' takeH (i := 6) (dst := some 195) (v := _) rfl rfl (by kernel_rfl) (by kernel_rfl) (by kernel_rfl) (fun _ _ _ h => h) (by rfl) ?hy hHeld ?_; case hy => (intro w hSw; clear hSw; (first | done | go_simp); try with_reducible rfl)) | fail
                  try simp only [Act.put, List.setIfInBounds_toArray, List.set_cons_zero, List.set_cons_succ]
                  first | (refine skipH (i := 7) (dst := some 196) rfl rfl (by kernel_rfl) (by kernel_rfl) (by kernel_rfl) (fun _ _ _ h => h) (by rfl) hHeld ?_) | (refine' takeH (i := 7) (dst := some 196) (v := _) rfl rfl (by kernel_rfl) (by kernel_rfl) (by kernel_rfl) (fun _ _ _ h => h) (by rfl) ?hy hHeld ?_; case hy => (intro w hSw; obtain ⟨⟨_, ⟨_, _, _, _, _, _, _⟩⟩, _⟩ := hSw; (first | done | go_simp); try with_reducible rfl)) | fail
                  try simp only [Act.put, List.setIfInBounds_toArray, List.set_cons_zero, List.set_cons_succ]
                  refine wpAnyH_ready (rs := [8]) (by kernel_rfl) (by simp) ?_
                  refine AllReadyH.cons (i := 8) (o := ⟨some 197, .call _, _, _, _, _⟩) rfl (fun K hK => ?_) AllReadyH.nil
                  go_simp
                  refine (HSM.out _ hHeld.2).mono ?_
                  rintro e w9 ⟨rfl, b9⟩
                  have hH := HE.out _ (bt hHeld.2 b9)
                  clear b9
                  refine hK.out _ _ hH (fun _ => ?_)
                  clear hK K hHeld
                  have hHeld := hH
                  clear hH
                  try simp only [Act.put, List.setIfInBounds_toArray, List.set_cons_zero, List.set_cons_succ]
                  refine wpAnyH_done (by kernel_rfl) (NoPanic.normal ?_) _
                  have B9 := Lib.hid hHeld.2
                  have GG9 := Lib.hid (GG.out.below B9.out)
                  have RQ9 := Lib.hid (RQ.out.below B9.out)
                  have BL9 := Lib.hid (bt BL.out B9.out)
                  clear hHeld HE HSM GG RQ BL B9 SB TA TB MA MB
                  cases sg
                  all_goals
                    go_wp2_with fail
                    go_roundw
                    case rel => first
                      | exact ⟨i + 1, j + 1, by omega, by omega, by go_num, by go_num, SS.out.1 (HSG.out.1 rfl).symm, GG9.out, RQ9.out, BL9.out⟩
                      | exact ⟨i + 1, j, by omega, by omega, by go_num, rfl, SS.out.2 (fun e => by have := HSG.out.2 e.symm; cases this), GG9.out, RQ9.out, BL9.out⟩
                    case measure => simp [RowKit.intOf]; omega
                · have hjc : j = C.length := by
                    by_cases hjl : j < C.length
                    · have hik : i = k := by omega
                      have := SB.out.length_le
                      rw [List.length_drop, List.length_drop, plain_len, HLL.out] at this
                      omega
                    · omega
                  obtain rfl := hjc
                  have s5 : ((C.length : Int) == (C.length : Int)) = true := by simp
                  have HC := Lib.hid (cards_any _ _ _ _ _ _ RQ.out)
                  have HZ : Hid (at0 < 0 ∨ (¬ at0 < 0 ∧ (k : Int) ≤ at0) ∨ (¬ at0 < 0 ∧ ¬ (k : Int) ≤ at0 ∧ (D.length : Int) ≤ at0)) := Lib.hid (by
                    have hz : at0 < 0 ∨ (k : Int) ≤ at0 ∨ (D.length : Int) ≤ at0 := by
                      cases z with
                      | true => exact .inr (.inr (ZZ.out.2 rfl).2.2)
                      | false =>
                        have := (ZZ.out.1 rfl).2.2
                        omega
                    omega)
                  clear SB ZZ hij
                  rcases HZ.out with h1 | ⟨h1, h2⟩ | ⟨h1, h2, h3⟩
                  all_goals
                    clear HZ
                    by_cases hik : i < k
                    all_goals
                      go_wp2_with (go_at_call 16; refine HC.out.mono ?_; rintro e w10 ⟨A10, c10, n10, R10, rfl, hr10, b10⟩; obtain rfl : n10 = D.length := (by rw [hr10.1, plain_len]); have B10 := Lib.hid (bt BL.out b10); clear hr10 b10)
                      go_ret
                      first
                        | exact ⟨rfl, bt BK.out B10.out⟩
                        | exact ⟨rfl, bt BK.out BL.out⟩
end Go.Proofs.Ytcbjmmehnfakkaa.Ko
