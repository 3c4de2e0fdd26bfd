/- The law SensorZones. -/
import Derived.Test.YtjpimamjcckieaaSeW
namespace Go.Proofs.Ytjpimamjcckieaa.Se
open Go.ChangeShapes Go.WideShapes Go.ChangeAt Go.RowKit Own Ro

theorem info_i8 : (Try.prog.info? 23).map (fun i => (i.zero, i.size, i.bytes)) = some (some (.int .i8 0), 1, 1) := by kernel_rfl
theorem one_i8s (l : List Int) : ∀ u ∈ i8s l, u.oneCell' = true := by intro u hu; simp [i8s] at hu; obtain ⟨x, _, rfl⟩ := hu; rfl
theorem pre8 {w : World} {A : Option Addr} {n m : Nat} {xs ys : List Value} (h : CellsIn w 1 A m (xs ++ ys)) (hx : xs.length = n) (hm : n ≤ m) : CellsIn w 1 A n xs := by
  refine ⟨by omega, ?_⟩
  rcases h.2 with h0 | ⟨b, o, rfl, hb, hc⟩
  · exact .inl (by omega)
  · exact .inr ⟨b, o, rfl, hb, fun j u hu => hc j u (by rw [List.getElem?_append_left (List.getElem?_eq_some_iff.1 hu).1]; exact hu)⟩
theorem src8 {w : World} {A : Option Addr} {n c : Nat} {xs : List Value} (h : CellsIn w 1 A n xs) (hn : Neat (A, n, c)) : Src w A n c xs := by
  have := h.src hn
  rcases this with h | ⟨ad, ha, hl, hc⟩
  · exact .inl h
  · exact .inr ⟨ad, ha, by omega, hc⟩
theorem zoneV_two (o : Option Nat) : ∃ p q : Int, zoneV o = .tuple #[.int .i64 p, .int .i64 q] := by
  cases o with
  | none => exact ⟨_, _, rfl⟩
  | some r => exact ⟨_, _, rfl⟩
theorem medOf_two (L : List Int) : ∃ p q : Int, medOf L = .tuple #[.int .i8 p, .int .i64 q] := by
  unfold medOf
  split
  · exact ⟨_, _, rfl⟩
  · exact ⟨_, _, rfl⟩
theorem upd_mem {f : Nat → Int → Int} {l : List Int} {k : Nat} {P : Int → Prop} (hl : ∀ x, x ∈ l → P x) (hf : ∀ i x, P (f i x)) : ∀ x, x ∈ upd f l k → P x := by
  intro x hx
  unfold upd at hx
  rcases List.mem_append.1 hx with h | h
  · obtain ⟨i, hi, rfl⟩ := List.mem_mapIdx.1 h
    exact hf _ _
  · exact hl x (List.mem_of_mem_drop h)
theorem wrap8_bd (n : Int) : -128 ≤ IntKind.i8.wrap n ∧ IntKind.i8.wrap n ≤ 127 := by simp [IntKind.wrap, IntKind.bits, IntKind.signed]; split <;> omega
def fa (_ : Nat) (x : Int) : Int := IntKind.i8.wrap (x + 1)
def fb (i : Nat) (x : Int) : Int := IntKind.i8.wrap (x - ((i % 3 : Nat) : Int))
set_option maxRecDepth 100000 in
set_option maxHeartbeats 16000000 in
theorem zones_any (deg : Int) (A : Option Addr) (c n : Nat) (xs : List Int) (B : Option Addr) (d m : Nat) (L : List Int) (w : World) (hn : n = xs.length) (hm : m = L.length) (hb : n ≤ 1048576) (hbm : m ≤ 1048576)
    (hs : CellsIn w 1 A n (i8s xs)) (hne : Neat (A, n, c)) (ht : CellsIn w 1 B m (i8s L)) (hnt : Neat (B, m, d)) (hr : ∀ x, x ∈ L → -128 ≤ x ∧ x ≤ 127) :
    Calls Try.prog 3 #[.slice A n c, .int .i8 deg, .slice B m d] w (fun e w' => e = .returned (.bool true) ∧ Below w.heap.size w w') := by
  have HN := Lib.hid hn
  have HM := Lib.hid hm
  have HR := Lib.hid hr
  have GA := Lib.hid hs
  have GB := Lib.hid ht
  have HS := Lib.hid fun (W : World) (hW : Below w.heap.size w W) => (hs.below hW).src hne
  have HT := Lib.hid fun (W : World) (hW : Below w.heap.size w W) => src8 (ht.below hW) hnt
  clear hs hne hn ht hnt hm hr
  go_enter Try.func3, Try.ntmps3
  go_wp2_with (first
    | (at_builtin; (with_reducible (show wpList _ _ _ ((⟨some 22, _, _, _, _, _⟩ : Oper) :: _) _ _)); (refine wpList_append_srcK (o := ⟨some 22, _, _, _, _, _⟩) rfl (.tmp 20) (.tmp 21) 22 rfl w.heap.size 23 (.int .i8 0) 1 1 (by omega) Try.underlying22 info_i8 rfl _ 0 [] rfl (own_emptyK w 23 1) A n c (i8s xs) rfl (HS.out _ (bal (Below.refl _ _) rfl _)) (one_i8s xs) (by omega) (by omega) (by simp) ?_); intro v2 w2 ho2 hg2; rw [Nat.zero_add, List.nil_append] at ho2; have hb2 := below_first hg2; have O2 := Lib.hid ho2; have B2 := Lib.hid hb2; clear ho2 hg2 hb2)
    | (at_builtin; (with_reducible (show wpList _ _ _ ((⟨some 24, _, _, _, _, _⟩ : Oper) :: _) _ _)); (refine wpList_append_src (o := ⟨some 24, _, _, _, _, _⟩) rfl (.tmp 22) (.tmp 23) 22 rfl w.heap.size 23 (.int .i8 0) 1 Try.underlying22 info_i8 rfl _ n (i8s xs) rfl (O2.out.alloc _) _ 1 1 [.int .i8 77] rfl (src_new w2 _ _) (by intro u hu; simp at hu; subst hu; rfl) (by omega) (by omega) (by have := B2.out.size; simp; omega) ?_); intro v3 w3 ho3 hg3; have hb3 := below_grown' B2.out B2.out.size O2.out (Nat.le_refl _) hg3; obtain ⟨A3, c3, rfl, _, hc3⟩ := own_srcK ho3; have O3 := Lib.hid ho3; have B3 := Lib.hid hb3; clear ho3 hg3 hb3)
    | (at_builtin; (with_reducible (show wpList _ _ _ ((⟨some 27, _, _, _, _, _⟩ : Oper) :: _) _ _)); (refine wpList_append_src (o := ⟨some 27, _, _, _, _, _⟩) rfl (.tmp 25) (.tmp 26) 22 rfl w3.heap.size 23 (.int .i8 0) 1 Try.underlying22 info_i8 rfl _ 0 [] rfl (own_empty w3 23) B m d (i8s L) rfl (HT.out _ (bal B3.out rfl _)) (one_i8s L) (by omega) (by omega) (by simp) ?_); intro v4 w4 ho4 hg4; rw [Nat.zero_add, List.nil_append] at ho4; have hb4 := below_first hg4; have O4 := Lib.hid ho4; have B4 := Lib.hid hb4; clear ho4 hg4 hb4)
    | (at_builtin; (with_reducible (show wpList _ _ _ ((⟨some 29, _, _, _, _, _⟩ : Oper) :: _) _ _)); (refine wpList_append_src (o := ⟨some 29, _, _, _, _, _⟩) rfl (.tmp 27) (.tmp 28) 22 rfl w3.heap.size 23 (.int .i8 0) 1 Try.underlying22 info_i8 rfl _ m (i8s L) rfl (O4.out.alloc _) _ 1 1 [.int .i8 77] rfl (src_new w4 _ _) (by intro u hu; simp at hu; subst hu; rfl) (by omega) (by omega) (by have := B4.out.size; simp; omega) ?_); intro v5 w5 ho5 hg5; have hb5 := below_grown' B4.out B4.out.size O4.out (Nat.le_refl _) hg5; obtain ⟨A5, c5, rfl, _, hc5⟩ := own_srcK ho5; have O5 := Lib.hid ho5; have B5 := Lib.hid hb5; clear ho5 hg5 hb5))
  obtain ⟨g1, rfl, hg1, hg1'⟩ := own_shapeK O3.out (by omega)
  obtain ⟨g2, rfl, hg2, hg2'⟩ := own_shapeK O5.out (by omega)
  have OA := Lib.hid (own_belowK O3.out B5.out)
  have BW := Lib.hid (bt B3.out B5.out)
  have HG := Lib.hid (show w.heap.size ≤ g1 ∧ g1 < g2 ∧ w.heap.size ≤ w3.heap.size from ⟨hg1, by omega, B3.out.size⟩)
  have OB := O5
  generalize w3.heap.size = base2 at OB HG
  clear O2 O3 O4 O5 B2 B3 B4 B5 hg1 hg1' hg2 hg2'
  have HI0 := Lib.hid (show xs.length = n ∧ L.length = m ∧ ((0 : Nat) = 0 → xs = xs ∧ L = L) ∧ ∀ x, x ∈ L → -128 ≤ x ∧ x ≤ 127 from ⟨HN.out.symm, HM.out.symm, fun _ => ⟨rfl, rfl⟩, HR.out⟩)
  go_loopg [9] 2 (fun gk v9 wr => ∃ (k : Nat) (la lb : List Int), v9 = .int .i64 (k : Int) ∧ k ≤ 2 ∧ 2 - k ≤ gk ∧ Hid (la.length = n ∧ lb.length = m ∧ (k = 0 → la = xs ∧ lb = L) ∧ ∀ x, x ∈ lb → -128 ≤ x ∧ x ≤ 127) ∧ Hid (wr.ownsRow w.heap.size 23 1 (.slice (some ⟨g1, 0, none⟩) (n + 1) c3) (n + 1) (i8s la ++ [.int .i8 77])) ∧ Hid (wr.ownsRow base2 23 1 (.slice (some ⟨g2, 0, none⟩) (m + 1) c5) (m + 1) (i8s lb ++ [.int .i8 77])) ∧ Hid (Below w.heap.size w wr))
  case atStart => exact ⟨0, xs, L, rfl, by omega, by omega, HI0, OA, OB, BW⟩
  case round =>
    clear OA OB BW HI0
    obtain ⟨k, la, lb, rfl, hk, hgk, HL, OA, OB, BW⟩ := hrel
    by_cases hk2 : k < 2
    · have hkz : (k : Int) < 2 := by omega
      have CA : Hid (CellsIn wr 1 (some ⟨g1, 0, none⟩) n (i8s la)) := Lib.hid (pre8 (own_cells OA.out) (by rw [i8s_len]; exact HL.out.1) (by omega))
      have CB : Hid (CellsIn wr 1 (some ⟨g2, 0, none⟩) m (i8s lb)) := Lib.hid (pre8 (own_cells OB.out) (by rw [i8s_len]; exact HL.out.2.1) (by omega))
      have hc3' : n ≤ c3 := by omega
      have hc5' : m ≤ c5 := by omega
      obtain ⟨zp, zq, hz⟩ := zoneV_two (zoneOf la deg)
      obtain ⟨mp, mq, hmv⟩ := medOf_two lb
      have HZ1 := Lib.hid (fun A c V (h : CellsIn V 1 A n (i8s la)) => refZone_all A c n la deg V HL.out.1.symm h)
      have HZ2 := Lib.hid (fun A c V (h : CellsIn V 1 A n (i8s la)) => zone_all A c n la deg V HL.out.1.symm h)
      have HM1 := Lib.hid (fun A c V (h : CellsIn V 1 A m (i8s lb)) => refMedian_all A c m lb V HL.out.2.1.symm HL.out.2.2.2 h)
      have HM2 := Lib.hid (fun A c V (h : CellsIn V 1 A m (i8s lb)) => median_all A c m lb V HL.out.2.1.symm h)
      rw [hz] at HZ1 HZ2
      rw [hmv] at HM1 HM2
      clear hz hmv
      go_wp2_with (first
        | (at_builtin; (with_reducible (show wpList _ _ _ ((⟨some 40, _, _, _, _, _⟩ : Oper) :: _) _ _)); (refine wpList_append_src (o := ⟨some 40, _, _, _, _, _⟩) rfl (.tmp 35) (.tmp 39) 22 rfl wr.heap.size 23 (.int .i8 0) 1 Try.underlying22 info_i8 rfl _ 0 [] rfl (own_empty wr 23) (some ⟨g1, 0, none⟩) n c3 (i8s la) rfl (src8 (CA.out.below (grows' wr _)) (fun e => by cases e)) (one_i8s la) (by omega) (by omega) (by simp) ?_); intro v6 w6 ho6 hg6; rw [Nat.zero_add, List.nil_append] at ho6; have hb6 := below_first hg6; obtain ⟨A6, c6, rfl, _, hc6⟩ := own_srcK ho6; have O6 := Lib.hid ho6; have B6 := Lib.hid hb6; clear ho6 hg6 hb6))
      refine (HZ1.out A6 c6 w6 (own_cells O6.out)).mono ?_
      rintro e w7 ⟨rfl, q7, rfl⟩
      have B7 : Hid (Below wr.heap.size wr (w6.drewN q7)) := Lib.hid (below_dr B6.out q7)
      clear O6 B6
      generalize w6.drewN q7 = w7 at B7 ⊢
      go_wp2_with fail
      refine (HZ2.out _ c3 w7 (CA.out.below B7.out)).mono ?_
      rintro e w8 ⟨rfl, rfl⟩
      go_wp2_with (first
        | (at_builtin; (with_reducible (show wpList _ _ _ ((⟨some 60, _, _, _, _, _⟩ : Oper) :: _) _ _)); (refine wpList_append_src (o := ⟨some 60, _, _, _, _, _⟩) rfl (.tmp 55) (.tmp 59) 22 rfl w8.heap.size 23 (.int .i8 0) 1 Try.underlying22 info_i8 rfl _ 0 [] rfl (own_empty w8 23) (some ⟨g2, 0, none⟩) m c5 (i8s lb) rfl (src8 (CB.out.below (bal B7.out rfl _)) (fun e => by cases e)) (one_i8s lb) (by omega) (by omega) (by simp) ?_); intro v9 w9 ho9 hg9; rw [Nat.zero_add, List.nil_append] at ho9; have hb9 := below_first hg9; obtain ⟨A9, c9, rfl, _, hc9⟩ := own_srcK ho9; have O9 := Lib.hid ho9; have B9 := Lib.hid hb9; clear ho9 hg9 hb9))
      refine (HM1.out A9 c9 w9 (own_cells O9.out)).mono ?_
      rintro e w10 ⟨rfl, rfl⟩
      have B10 := Lib.hid (bt B7.out B9.out)
      clear O9 B9
      go_wp2_with fail
      refine (HM2.out _ c5 w10 (CB.out.below B10.out)).mono ?_
      rintro e w11 ⟨rfl, hb11⟩
      have B11 := Lib.hid (bt B10.out hb11)
      have OA2 := Lib.hid (own_belowK OA.out B11.out)
      have OB2 := Lib.hid (own_belowK OB.out B11.out)
      have BW2 := Lib.hid (bt BW.out B11.out)
      have c7a : w11.cell? ⟨g1, n, none⟩ = some (.int .i8 77) := by rw [OA2.out.cellAt n (by omega), ← HL.out.1]; exact end77
      have c7b : w11.cell? ⟨g2, m, none⟩ = some (.int .i8 77) := by rw [OB2.out.cellAt m (by omega), ← HL.out.2.1]; exact end77
      clear hb11 B10 B11 B7 CA CB OA OB BW HZ1 HZ2 HM1 HM2
      go_wp2_with fail
      clear c7a c7b
      have HCC := Lib.hid (And.intro hc3' hc5')
      have HGK := Lib.hid (And.intro hgk hk2)
      have HBB := Lib.hid (And.intro hb hbm)
      clear hc3' hc5' hgk hk
      have wk : IntKind.i64.wrap ((k : Int) + 1) = (k : Int) + 1 := by rw [IntKind.wrap_i64]; omega
      go_loopg [18] n (fun gi v18 wr => ∃ i : Nat, v18 = .int .i64 (i : Int) ∧ i ≤ n ∧ n - i ≤ gi ∧ Hid (wr.ownsRow w.heap.size 23 1 (.slice (some ⟨g1, 0, none⟩) (n + 1) c3) (n + 1) (i8s (upd fa la i) ++ [.int .i8 77])) ∧ Hid (wr.ownsRow base2 23 1 (.slice (some ⟨g2, 0, none⟩) (m + 1) c5) (m + 1) (i8s lb ++ [.int .i8 77])) ∧ Hid (Below w.heap.size w wr))
      case atStart => exact ⟨0, by first | rfl | simp, by omega, by omega, by rw [upd_zero]; exact OA2, OB2, BW2⟩
      case round =>
        clear OA2 OB2 BW2
        obtain ⟨i, rfl, hi, hgi, OA3, OB3, BW3⟩ := hrel
        by_cases hin : i < n
        · have l1 : (0 : Int) ≤ (i : Int) := by omega
          have l2 : (i : Int) < (n : Int) := by omega
          have l4 : (i : Int) < (n : Int) + 1 := by omega
          have wi : IntKind.i64.wrap ((i : Int) + 1) = (i : Int) + 1 := by rw [IntKind.wrap_i64]; omega

          by_cases hk0 : k = 0
          · obtain ⟨b, o, rfl, hbs, hc1⟩ := (GA.out.below BW3.out).at (by omega)
            have cz : wr.cell? ⟨g1, i, none⟩ = some (.int .i8 la[i]!) := by rw [OA3.out.cellAt i (by omega), at77 (by rw [upd_len, HL.out.1]; exact hin), upd_at (by rw [HL.out.1]; exact hin)]
            have ez := i8_at (n := n) (xs := la) HL.out.1.symm (by rw [(HL.out.2.2.1 hk0).1]; exact hc1) hin
            clear hc1 hbs
            have hk0z : (k : Int) = 0 := by omega
            have hk0b : ((k : Int) == 0) = true := by simp [hk0]
            clear hk0
            generalize hzz : la[i]! = zz at cz ez
            clear hzz
            go_wp2_with fail
            go_quiet (fail)
            clear cz ez
            have OA4 : Hid ((wr.drewN nq).ownsRow w.heap.size 23 1 (.slice (some ⟨g1, 0, none⟩) (n + 1) c3) (n + 1) (i8s (upd fa la i) ++ [.int .i8 77])) := Lib.hid (own_belowK OA3.out (below_dr (Below.refl _ _) nq))
            have OB4 : Hid ((wr.drewN nq).ownsRow base2 23 1 (.slice (some ⟨g2, 0, none⟩) (m + 1) c5) (m + 1) (i8s lb ++ [.int .i8 77])) := Lib.hid (own_belowK OB3.out (below_dr (Below.refl _ _) nq))
            have BW4 : Hid (Below w.heap.size w (wr.drewN nq)) := Lib.hid (below_dr BW3.out nq)
            clear OA3 OB3 BW3
            generalize wr.drewN nq = wy at OA4 OB4 BW4 ⊢
            have c0 : wy.cell? ⟨g1, i, none⟩ = some (.int .i8 la[i]!) := by rw [OA4.out.cellAt i (by omega), at77 (by rw [upd_len, HL.out.1]; exact hin), upd_at (by rw [HL.out.1]; exact hin)]
            have z0 := OA4.out.frozenAt i
            have HST := Lib.hid (OA4.out.stored i (.int .i8 (fa i la[i]!))).1
            rw [put77 (by rw [upd_len, HL.out.1]; exact hin), upd_set (by rw [HL.out.1]; exact hin)] at HST
            have HBS := Lib.hid (BW4.out.setCell (p := ⟨g1, i, none⟩) HG.out.1 (.int .i8 (fa i la[i]!)))
            have HOB := Lib.hid (own_keptNe OB4.out (set_grown wy ⟨g1, i, none⟩ (.int .i8 (fa i la[i]!))) (fun e => by have h9 : g2 = g1 := Option.some.inj e; have := HG.out.2.1; omega))
            clear OA4 OB4 BW4
            unfold fa at HST HBS HOB
            generalize la[i]! = z at c0 HST HBS HOB
            go_wp2_with fail
            go_roundg (n - (i + 1))
            case measure => omega
            case rel => exact ⟨i + 1, by first | go_num | (congr 1; omega), by omega, Nat.le_refl _, HST, HOB, HBS⟩
          · have hk0z : ¬ (k : Int) = 0 := by omega
            have hk0b : ((k : Int) == 0) = false := by simp; omega
            go_wp2_with fail
            go_quiet (fail)
            have OA4 : Hid ((wr.drewN nq).ownsRow w.heap.size 23 1 (.slice (some ⟨g1, 0, none⟩) (n + 1) c3) (n + 1) (i8s (upd fa la i) ++ [.int .i8 77])) := Lib.hid (own_belowK OA3.out (below_dr (Below.refl _ _) nq))
            have OB4 : Hid ((wr.drewN nq).ownsRow base2 23 1 (.slice (some ⟨g2, 0, none⟩) (m + 1) c5) (m + 1) (i8s lb ++ [.int .i8 77])) := Lib.hid (own_belowK OB3.out (below_dr (Below.refl _ _) nq))
            have BW4 : Hid (Below w.heap.size w (wr.drewN nq)) := Lib.hid (below_dr BW3.out nq)
            clear OA3 OB3 BW3
            generalize wr.drewN nq = wy at OA4 OB4 BW4 ⊢
            have c0 : wy.cell? ⟨g1, i, none⟩ = some (.int .i8 la[i]!) := by rw [OA4.out.cellAt i (by omega), at77 (by rw [upd_len, HL.out.1]; exact hin), upd_at (by rw [HL.out.1]; exact hin)]
            have z0 := OA4.out.frozenAt i
            have HST := Lib.hid (OA4.out.stored i (.int .i8 (fa i la[i]!))).1
            rw [put77 (by rw [upd_len, HL.out.1]; exact hin), upd_set (by rw [HL.out.1]; exact hin)] at HST
            have HBS := Lib.hid (BW4.out.setCell (p := ⟨g1, i, none⟩) HG.out.1 (.int .i8 (fa i la[i]!)))
            have HOB := Lib.hid (own_keptNe OB4.out (set_grown wy ⟨g1, i, none⟩ (.int .i8 (fa i la[i]!))) (fun e => by have h9 : g2 = g1 := Option.some.inj e; have := HG.out.2.1; omega))
            clear OA4 OB4 BW4
            unfold fa at HST HBS HOB
            generalize la[i]! = z at c0 HST HBS HOB
            go_wp2_with fail
            go_roundg (n - (i + 1))
            case measure => omega
            case rel => exact ⟨i + 1, by first | go_num | (congr 1; omega), by omega, Nat.le_refl _, HST, HOB, HBS⟩
        · have hie : i = n := by omega
          rw [hie] at OA3 ⊢
          have hin2 : ¬ (n : Int) < (n : Int) := by omega
          have OA5 := OA3
          have OB5 := OB3
          have BW5 := BW3
          clear OA3 OB3 BW3 hie hi hin hgi
          go_wp2_with fail
          go_loopg [19] m (fun gi v18 wr => ∃ i : Nat, v18 = .int .i64 (i : Int) ∧ i ≤ m ∧ m - i ≤ gi ∧ Hid (wr.ownsRow base2 23 1 (.slice (some ⟨g2, 0, none⟩) (m + 1) c5) (m + 1) (i8s (upd fb lb i) ++ [.int .i8 77])) ∧ Hid (wr.ownsRow w.heap.size 23 1 (.slice (some ⟨g1, 0, none⟩) (n + 1) c3) (n + 1) (i8s (upd fa la n) ++ [.int .i8 77])) ∧ Hid (Below w.heap.size w wr))
          case atStart => exact ⟨0, by first | rfl | simp, by omega, by omega, by rw [upd_zero]; exact OB5, OA5, BW5⟩
          case round =>
            clear OB5 OA5 BW5
            obtain ⟨i, rfl, hi, hgi, OA3, OB3, BW3⟩ := hrel
            by_cases hin : i < m
            · have l1 : (0 : Int) ≤ (i : Int) := by omega
              have l2 : (i : Int) < (m : Int) := by omega
              have l4 : (i : Int) < (m : Int) + 1 := by omega
              have wi : IntKind.i64.wrap ((i : Int) + 1) = (i : Int) + 1 := by rw [IntKind.wrap_i64]; omega
              have hm3 : (i : Int).tmod 3 = ((i % 3 : Nat) : Int) := by rw [Int.tmod_eq_emod_of_nonneg (by omega)]; omega
              obtain ⟨r3, hr3⟩ : ∃ r3, r3 = i % 3 := ⟨_, rfl⟩
              have hm4 : (i : Int) % 3 = (r3 : Int) := by omega
              rw [← hr3] at hm3
              have w31 : IntKind.i8.wrap (r3 : Int) = (r3 : Int) := by simp [IntKind.wrap, IntKind.bits, IntKind.signed]; split <;> omega
              have w32 : IntKind.i64.wrap (r3 : Int) = (r3 : Int) := by rw [IntKind.wrap_i64]; omega
              have HR3 := Lib.hid hr3
              clear hr3
              by_cases hk0 : k = 0
              · obtain ⟨b, o, rfl, hbs, hc1⟩ := (GB.out.below BW3.out).at (by omega)
                have cz : wr.cell? ⟨g2, i, none⟩ = some (.int .i8 lb[i]!) := by rw [OA3.out.cellAt i (by omega), at77 (by rw [upd_len, HL.out.2.1]; exact hin), upd_at (by rw [HL.out.2.1]; exact hin)]
                have ez := i8_at (n := m) (xs := lb) HL.out.2.1.symm (by rw [(HL.out.2.2.1 hk0).2]; exact hc1) hin
                clear hc1 hbs
                have hk0z : (k : Int) = 0 := by omega
                have hk0b : ((k : Int) == 0) = true := by simp [hk0]
                clear hk0
                generalize hzz : lb[i]! = zz at cz ez
                clear hzz
                go_wp2_with fail
                go_quiet (fail)
                clear cz ez
                have OA4 : Hid ((wr.drewN nq).ownsRow base2 23 1 (.slice (some ⟨g2, 0, none⟩) (m + 1) c5) (m + 1) (i8s (upd fb lb i) ++ [.int .i8 77])) := Lib.hid (own_belowK OA3.out (below_dr (Below.refl _ _) nq))
                have OB4 : Hid ((wr.drewN nq).ownsRow w.heap.size 23 1 (.slice (some ⟨g1, 0, none⟩) (n + 1) c3) (n + 1) (i8s (upd fa la n) ++ [.int .i8 77])) := Lib.hid (own_belowK OB3.out (below_dr (Below.refl _ _) nq))
                have BW4 : Hid (Below w.heap.size w (wr.drewN nq)) := Lib.hid (below_dr BW3.out nq)
                clear OA3 OB3 BW3
                generalize wr.drewN nq = wy at OA4 OB4 BW4 ⊢
                have c0 : wy.cell? ⟨g2, i, none⟩ = some (.int .i8 lb[i]!) := by rw [OA4.out.cellAt i (by omega), at77 (by rw [upd_len, HL.out.2.1]; exact hin), upd_at (by rw [HL.out.2.1]; exact hin)]
                have z0 := OA4.out.frozenAt i
                have HST := Lib.hid (OA4.out.stored i (.int .i8 (fb i lb[i]!))).1
                rw [put77 (by rw [upd_len, HL.out.2.1]; exact hin), upd_set (by rw [HL.out.2.1]; exact hin)] at HST
                have HBS := Lib.hid (BW4.out.setCell (p := ⟨g2, i, none⟩) (Nat.le_trans HG.out.1 (Nat.le_of_lt HG.out.2.1)) (.int .i8 (fb i lb[i]!)))
                have HOB := Lib.hid (own_keptNe OB4.out (set_grown wy ⟨g2, i, none⟩ (.int .i8 (fb i lb[i]!))) (fun e => by have h9 : g1 = g2 := Option.some.inj e; have := HG.out.2.1; omega))
                clear OA4 OB4 BW4
                unfold fb at HST HBS HOB
                rw [← HR3.out] at HST HBS HOB
                generalize lb[i]! = z at c0 HST HBS HOB
                go_wp2_with fail
                go_roundg (m - (i + 1))
                case measure => omega
                case rel => exact ⟨i + 1, by first | go_num | (congr 1; omega), by omega, Nat.le_refl _, HST, HOB, HBS⟩
              · have hk0z : ¬ (k : Int) = 0 := by omega
                have hk0b : ((k : Int) == 0) = false := by simp; omega
                go_wp2_with fail
                go_quiet (fail)
                have OA4 : Hid ((wr.drewN nq).ownsRow base2 23 1 (.slice (some ⟨g2, 0, none⟩) (m + 1) c5) (m + 1) (i8s (upd fb lb i) ++ [.int .i8 77])) := Lib.hid (own_belowK OA3.out (below_dr (Below.refl _ _) nq))
                have OB4 : Hid ((wr.drewN nq).ownsRow w.heap.size 23 1 (.slice (some ⟨g1, 0, none⟩) (n + 1) c3) (n + 1) (i8s (upd fa la n) ++ [.int .i8 77])) := Lib.hid (own_belowK OB3.out (below_dr (Below.refl _ _) nq))
                have BW4 : Hid (Below w.heap.size w (wr.drewN nq)) := Lib.hid (below_dr BW3.out nq)
                clear OA3 OB3 BW3
                generalize wr.drewN nq = wy at OA4 OB4 BW4 ⊢
                have c0 : wy.cell? ⟨g2, i, none⟩ = some (.int .i8 lb[i]!) := by rw [OA4.out.cellAt i (by omega), at77 (by rw [upd_len, HL.out.2.1]; exact hin), upd_at (by rw [HL.out.2.1]; exact hin)]
                have z0 := OA4.out.frozenAt i
                have HST := Lib.hid (OA4.out.stored i (.int .i8 (fb i lb[i]!))).1
                rw [put77 (by rw [upd_len, HL.out.2.1]; exact hin), upd_set (by rw [HL.out.2.1]; exact hin)] at HST
                have HBS := Lib.hid (BW4.out.setCell (p := ⟨g2, i, none⟩) (Nat.le_trans HG.out.1 (Nat.le_of_lt HG.out.2.1)) (.int .i8 (fb i lb[i]!)))
                have HOB := Lib.hid (own_keptNe OB4.out (set_grown wy ⟨g2, i, none⟩ (.int .i8 (fb i lb[i]!))) (fun e => by have h9 : g1 = g2 := Option.some.inj e; have := HG.out.2.1; omega))
                clear OA4 OB4 BW4
                unfold fb at HST HBS HOB
                rw [← HR3.out] at HST HBS HOB
                generalize lb[i]! = z at c0 HST HBS HOB
                go_wp2_with fail
                go_roundg (m - (i + 1))
                case measure => omega
                case rel => exact ⟨i + 1, by first | go_num | (congr 1; omega), by omega, Nat.le_refl _, HST, HOB, HBS⟩
            · have hie : i = m := by omega
              rw [hie] at OA3 ⊢
              have hin2 : ¬ (m : Int) < (m : Int) := by omega
              go_wp2_with fail
              go_roundg (2 - (k + 1))
              case measure => have := HGK.out; omega
              case rel => exact ⟨k + 1, upd fa la n, upd fb lb m, by first | go_num | (congr 1; omega), by omega, Nat.le_refl _, Lib.hid ⟨by rw [upd_len]; exact HL.out.1, by rw [upd_len]; exact HL.out.2.1, fun h => absurd h (by omega), upd_mem HL.out.2.2.2 (fun i x => wrap8_bd _)⟩, OB3, OA3, BW3⟩
    · obtain rfl : k = 2 := by omega
      go_wp2_with fail
      go_ret
      exact ⟨rfl, BW.out⟩
end Go.Proofs.Ytjpimamjcckieaa.Se
