/- The law RadioStands (P12.5). -/
import Derived.Test.YtinocgngjhomcaaDoorRsM
namespace Go.Proofs.YtinocgngjhomcaaDoor.Ra
open Go.ChangeShapes Go.WideShapes Go.ChangeAt Go.RowKit Own Ro

section
variable {P : Program} {md : Region.Mode} {ops : Array Oper} {Q : Exit → Act → World → Prop} {S : World → Prop}
theorem skipH {i : Nat} {oi : Oper} {dst : Option Nat} {fuel : Nat} {listed : Array Bool} {a : Act} {w : World} (hi : ops[i]? = some oi) (hd : oi.dst = dst)
    (hs : Region.noSelect ops = true) (hf : Region.free md ops listed i = true) (hr : (Region.ready md ops listed).contains i = true)
    (hQ : ∀ c a w, Q (.panic c) (a.put dst undef) w → Q (.panic c) a w) (hw : Region.wanted oi (yielded ops a.tmps) = false) (hS : S w)
    (h : wpAnyH P md ops Q S fuel (listed.setIfInBounds i true) (a.put dst undef) w) : wpAnyH P md ops Q S (fuel + 1) listed a w := by
  subst hd
  exact wpAnyH_take hi hs hf hr hQ (.inr ⟨hw, rfl⟩) hS h
theorem takeH {i : Nat} {oi : Oper} {v : Value} {dst : Option Nat} {fuel : Nat} {listed : Array Bool} {a : Act} {w : World} (hi : ops[i]? = some oi) (hd : oi.dst = dst)
    (hs : Region.noSelect ops = true) (hf : Region.free md ops listed i = true) (hr : (Region.ready md ops listed).contains i = true)
    (hQ : ∀ c a w, Q (.panic c) (a.put dst v) w → Q (.panic c) a w) (hw : Region.wanted oi (yielded ops a.tmps) = true) (hy : ∀ w, S w → (execOp a.eval oi).run P w = .ok (.value v) w) (hS : S w)
    (h : wpAnyH P md ops Q S fuel (listed.setIfInBounds i true) (a.put dst v) w) : wpAnyH P md ops Q S (fuel + 1) listed a w := by
  subst hd
  exact wpAnyH_take hi hs hf hr hQ (.inl ⟨hw, hy⟩) hS h
/-- A whole array is read. -/
theorem takeRow {i : Nat} {oi : Oper} {dst : Option Nat} {fuel : Nat} {listed : Array Bool} {a : Act} {w : World} (cs : List Value) (b : Nat) (ty : TypeId) (x : Operand) (d : TypeDesc) (hi : ops[i]? = some oi) (hd : oi.dst = dst)
    (hs : Region.noSelect ops = true) (hf : Region.free md ops listed i = true) (hr : (Region.ready md ops listed).contains i = true)
    (hQ : ∀ c a w, Q (.panic c) (a.put dst (.agg cs.toArray)) w → Q (.panic c) a w) (hw : Region.wanted oi (yielded ops a.tmps) = true) (ho : oi.op = .load ty x)
    (hx : a.eval x = .pointer (some ⟨b, 0, none⟩)) (hc : ∀ w, S w → w.rangeAt b 0 cs) (hu : P.underlying ty = some d) (hdr : d.isRow = true) (hi' : (P.info? ty).map (·.size) = some cs.length) (hS : S w)
    (h : wpAnyH P md ops Q S fuel (listed.setIfInBounds i true) (a.put dst (.agg cs.toArray)) w) : wpAnyH P md ops Q S (fuel + 1) listed a w := by
  subst hd
  exact wpAnyH_take hi hs hf hr hQ (yieldsIf_load_mid hw ty x ho b 0 hx cs d hc hu hdr hi') hS h
end
theorem Bt.bdN : ∀ i < 20, 271672320 ≤ Bt.ent (i : Nat) ∧ Bt.ent (i : Nat) ≤ 411830640 := by decide
theorem Sn.bdN : ∀ i < 16, 625000 ≤ Sn.ent (i : Nat) ∧ Sn.ent (i : Nat) ≤ 16937500 := by decide
theorem there_new (w : World) (t : TypeId) (cs : List Value) (n : Nat) (hn : cs.length = n) : (w.alloc (.cells cs.toArray t)).there w.heap.size 0 n := fun j hj => by
  rw [Nat.zero_add]
  refine ⟨?_, World.frozen?_alloc_new w _ _ _⟩
  rw [World.cell?_alloc_at _ _ _ _ rfl]
  simp [hn, hj]
theorem range_below {w w' : World} {g : Nat} {cs : List Value} (h : w.rangeAt g 0 cs) (hb : Below w.heap.size w w') : w'.rangeAt g 0 cs := fun j v hv => by
  have := h j v hv
  rw [hb.cell (World.block_lt_of_cell? w _ this)]
  exact this
theorem there_below {w w' : World} {g n : Nat} (h : w.there g 0 n) (hb : Below w.heap.size w w') : w'.there g 0 n := fun j hj => by
  obtain ⟨h1, h2⟩ := h j hj
  obtain ⟨u, hu⟩ := Option.isSome_iff_exists.1 h1
  have hlt := World.block_lt_of_cell? w _ hu
  exact ⟨by rw [hb.cell hlt, hu]; rfl, by rw [hb.frozen hlt]; exact h2⟩
theorem range_at {w : World} {g : Nat} {cs : List Value} (h : w.rangeAt g 0 cs) (i : Nat) (v : Value) (hv : cs[i]? = some v) : w.cell? ⟨g, i, none⟩ = some v := by
  have := h i v hv
  rwa [Nat.zero_add] at this
set_option maxRecDepth 100000 in
set_option maxHeartbeats 16000000 in
theorem stands_any (w : World) (h : Tb3 w) : Calls Tryd.prog 5 #[] w (fun e w' => e = .returned (.bool true) ∧ Below w.heap.size w w') := by
  have HT := Lib.hid h
  have HT0 := Lib.hid h.r
  clear h
  go_enter Tryd.func5, Tryd.ntmps5
  go_wp2_with fail
  refine (table_any w HT.out.r).mono ?_
  rintro e w2 ⟨rfl, hb⟩
  have HB2 := Lib.hid hb
  have HT2 := Lib.hid (HT.out.below hb)
  clear hb
  go_wp2_with (first | refine wpList_store_new rfl _ _ _ rfl _ tabV.toArray rfl rfl (by kernel_rfl) (by kernel_rfl) (by kernel_rfl) ?_)
  have HR1 := Lib.hid (range_new w2 51 tabV)
  have HH1 := Lib.hid (there_new w2 51 tabV 20 rfl)
  have HB3 := Lib.hid (bt HB2.out (grows' w2 (.cells tabV.toArray 51)))
  have HT3 := Lib.hid (HT2.out.alloc (.cells tabV.toArray 51))
  have hg1 : w.heap.size ≤ w2.heap.size := HB2.out.size
  generalize w2.alloc (.cells tabV.toArray 51) = w3 at HR1 HH1 HB3 HT3 ⊢
  generalize w2.heap.size = gt at HR1 HH1 hg1 ⊢
  refine (Bt.table_any w3 HT3.out.b).mono ?_
  rintro e w4 ⟨rfl, hb⟩
  have HB4 := Lib.hid (bt HB3.out hb)
  have HT4 := Lib.hid (HT3.out.below hb)
  have HR2 := Lib.hid (range_below HR1.out hb)
  have HH2 := Lib.hid (there_below HH1.out hb)
  clear hb HR1 HH1
  go_wp2_with (first | refine wpList_store_new rfl _ _ _ rfl _ Bt.tabV.toArray rfl rfl (by kernel_rfl) (by kernel_rfl) (by kernel_rfl) ?_)
  have hb := grows' w4 (.cells Bt.tabV.toArray 51)
  have HV1 := Lib.hid (range_new w4 51 Bt.tabV)
  have HW1 := Lib.hid (there_new w4 51 Bt.tabV 20 rfl)
  have HB5 := Lib.hid (bt HB4.out hb)
  have HT5 := Lib.hid (HT4.out.alloc (.cells Bt.tabV.toArray 51))
  have HR3 := Lib.hid (range_below HR2.out hb)
  have HH3 := Lib.hid (there_below HH2.out hb)
  have hg2 : w.heap.size ≤ w4.heap.size := HB4.out.size
  generalize w4.alloc (.cells Bt.tabV.toArray 51) = w5 at HV1 HW1 HB5 HT5 HR3 HH3 ⊢
  generalize w4.heap.size = gb at HV1 HW1 hg2 ⊢
  clear hb HR2 HH2
  refine (Sn.table_any w5 HT5.out.s).mono ?_
  rintro e w6 ⟨rfl, hb⟩
  have HB6 := Lib.hid (bt HB5.out hb)
  have HT6 := Lib.hid (HT5.out.below hb)
  have HR4 := Lib.hid (range_below HR3.out hb)
  have HH4 := Lib.hid (there_below HH3.out hb)
  have HV2 := Lib.hid (range_below HV1.out hb)
  have HW2 := Lib.hid (there_below HW1.out hb)
  clear hb HR3 HH3 HV1 HW1
  go_wp2_with (first | refine wpList_store_new rfl _ _ _ rfl _ Sn.tabV.toArray rfl rfl (by kernel_rfl) (by kernel_rfl) (by kernel_rfl) ?_)
  have hb := grows' w6 (.cells Sn.tabV.toArray 53)
  have HS := Lib.hid (range_new w6 53 Sn.tabV)
  have HB := Lib.hid (bt HB6.out hb)
  have HTW := Lib.hid (HT6.out.alloc (.cells Sn.tabV.toArray 53))
  have HR := Lib.hid (range_below HR4.out hb)
  have HH := Lib.hid (there_below HH4.out hb)
  have HV := Lib.hid (range_below HV2.out hb)
  have HW := Lib.hid (there_below HW2.out hb)
  generalize w6.alloc (.cells Sn.tabV.toArray 53) = W at HS HB HTW HR HH HV HW ⊢
  generalize w6.heap.size = gs at HS ⊢
  clear hb HR4 HH4 HV2 HW2 HT HT2 HT3 HT4 HT5 HT6 HB2 HB3 HB4 HB5 HB6
  go_loopw [4, 5] (fun v4 _ wr => ∃ (k : Nat), k ≤ 20 ∧ v4 = .int .i64 (k : Int) ∧ ∃ q, wr = W.drewN q) (fun v4 _ _ => 20 - (RowKit.intOf v4).toNat)
  case atStart => exact ⟨0, by omega, rfl, 0, rfl⟩
  case round =>
    obtain ⟨k, hk, rfl, q, rfl⟩ := hrel
    by_cases hlt : k < 20
    · have l1 : (0 : Int) ≤ (k : Int) := by omega
      have l2 : (k : Int) < 20 := by omega
      obtain ⟨im, him⟩ : ∃ im : Nat, k % 16 = im := ⟨_, rfl⟩
      have m1 : (0 : Int) ≤ (im : Int) := by omega
      have m2 : (im : Int) < 16 := by omega
      have cB := range_at HV.out k _ (Bt.tab_at k hlt)
      have cS := range_at HS.out im _ (Sn.tab_at im (by omega))
      have cR := range_at HR.out k _ (tab_at k hlt)
      have hv := r_ent k hlt
      rw [him] at hv
      have b1 := Bt.bdN k hlt
      have b2 := Sn.bdN im (by omega)
      have HP := Lib.hid (fun (h : 0 < k) => show W.cell? ⟨gt, k - 1, none⟩ = some (.int .i64 (ent ((k - 1 : Nat) : Int))) from range_at HR.out (k - 1) _ (tab_at (k - 1) (by omega)))
      have HL := Lib.hid (fun (h : 0 < k) (h2 : k < 16) => r_lt k h2 h)
      have hbd := ent_bd k l1 l2
      replace hbd := Lib.hid hbd
      rw [hv] at cR HL
      generalize Bt.ent (k : Nat) = eb at cB cR b1 HL
      generalize Sn.ent (im : Nat) = es at cS cR b2 HL
      have s9 : Int.tmod (k : Int) 16 = (im : Int) := by rw [Int.tmod_eq_emod_of_nonneg l1]; omega
      have s1 : IntKind.i64.wrap (25000 * (k : Int)) = 25000 * (k : Int) := IntWalk.i64_in _ (by omega)
      have s2 : IntKind.i64.wrap (160000000 + 25000 * (k : Int)) = 160000000 + 25000 * (k : Int) := IntWalk.i64_in _ (by omega)
      have s3 : IntKind.i64.wrap (160000000 + 25000 * (k : Int) + eb) = 160000000 + 25000 * (k : Int) + eb := IntWalk.i64_in _ (by omega)
      have s4 : IntKind.i64.wrap (2 * es) = 2 * es := IntWalk.i64_in _ (by omega)
      have s5 : IntKind.i64.wrap (160000000 + 25000 * (k : Int) + eb + 2 * es) = 160000000 + 25000 * (k : Int) + eb + 2 * es := IntWalk.i64_in _ (by omega)
      have s6 : IntKind.i64.wrap (160000000 + 25000 * (k : Int) + eb + 2 * es - 2320) = 160000000 + 25000 * (k : Int) + eb + 2 * es - 2320 := IntWalk.i64_in _ (by omega)
      have s7 : IntKind.i64.wrap (160000000 + 25000 * (k : Int) + eb + 2 * es - 30640) = 160000000 + 25000 * (k : Int) + eb + 2 * es - 30640 := IntWalk.i64_in _ (by omega)
      clear hv him
      by_cases k0 : k = 0
      · rw [if_pos k0, if_neg (by omega), Int.sub_zero] at cR
        have q0 : ((k : Int) == 0) = true := by rw [k0]; rfl
        have q1 : ((k : Int) == 19) = false := by rw [k0]; rfl
        have d1 : decide ((k : Int) > 0) = false := decide_eq_false (by omega)
        have d2 : decide ((0 : Int) < (k : Int)) = false := decide_eq_false (by omega)
        have d3 : decide (0 < k) = false := decide_eq_false (by omega)
        have HQ := Lib.hid (show k < 20 from hlt)
        clear k0 HP HL s7
        go_wp2_with fail
        go_quiet (fail)
        clear cB cS s1 s2 s3 s4 s5 b1 b2 s9
        go_wp2_with fail
        clear s6
        generalize 160000000 + 25000 * (k : Int) + eb + 2 * es - 2320 = ev at cR ⊢
        go_quiet (fail)
        clear cR
        go_wp2_with fail
        go_roundw
        case rel => exact ⟨k + 1, by omega, by go_num, _, rfl⟩
        case measure => simp [RowKit.intOf]; have := HQ.out; omega
      · rw [if_neg k0] at cR HL
        rw [Int.sub_zero] at cR HL
        have q0 : ((k : Int) == 0) = false := by simp; omega
        have d1 : decide ((k : Int) > 0) = true := decide_eq_true (by omega)
        have d2 : decide ((0 : Int) < (k : Int)) = true := decide_eq_true (by omega)
        have d3 : decide (0 < k) = true := decide_eq_true (by omega)
        have HQ := Lib.hid (show k < 20 from hlt)
        by_cases k9 : k = 19
        · rw [if_pos k9] at cR
          have q1 : ((k : Int) == 19) = true := by rw [k9]; rfl
          have d4 : decide ((k : Int) < 16) = false := decide_eq_false (by omega)
          have d5 : decide (k < 16) = false := decide_eq_false (by omega)
          clear k0 k9 HP HL s6
          go_wp2_with fail
          go_quiet (fail)
          clear cB cS s1 s2 s3 s4 s5 b1 b2 s9
          go_wp2_with fail
          clear s7
          generalize 160000000 + 25000 * (k : Int) + eb + 2 * es - 30640 = ev at cR ⊢
          go_quiet (fail)
          clear cR
          go_wp2_with fail
          go_roundw
          case rel => exact ⟨k + 1, by omega, by go_num, _, rfl⟩
          case measure => simp [RowKit.intOf]; have := HQ.out; omega
        · rw [if_neg k9, Int.sub_zero] at cR HL
          have q1 : ((k : Int) == 19) = false := by simp; omega
          by_cases h16 : k < 16
          · have d4 : decide ((k : Int) < 16) = true := decide_eq_true (by omega)
            have d5 : decide (k < 16) = true := decide_eq_true h16
            obtain ⟨p, hp⟩ : ∃ p : Nat, k - 1 = p := ⟨_, rfl⟩
            have cP := HP.out (by omega)
            have hl := HL.out (by omega) h16
            rw [hp] at cP hl
            have wp : IntKind.i64.wrap ((k : Int) - 1) = (p : Int) := by rw [IntWalk.i64_in _ (by omega)]; omega
            have p1 : (0 : Int) ≤ (p : Int) := by omega
            have p2 : (p : Int) < 20 := by omega
            generalize ent (p : Nat) = ep at cP hl
            have d6 : ¬ 160000000 + 25000 * (k : Int) + eb + 2 * es ≤ ep := by omega
            have d7 : decide (160000000 + 25000 * (k : Int) + eb + 2 * es ≤ ep) = false := decide_eq_false d6
            clear k0 k9 HP HL s6 s7 hp hl h16
            go_wp2_with fail
            go_quiet (fail)
            clear cB cS s1 s2 s3 s4 s5 b1 b2 s9
            go_wp2_with fail
            generalize 160000000 + 25000 * (k : Int) + eb + 2 * es = ev at cR d6 d7 ⊢
            go_quiet (fail)
            clear cR
            clear cP
            go_wp2_with fail
            go_roundw
            case rel => exact ⟨k + 1, by omega, by go_num, _, rfl⟩
            case measure => simp [RowKit.intOf]; have := HQ.out; omega
          · have d4 : decide ((k : Int) < 16) = false := decide_eq_false (by omega)
            have d5 : decide (k < 16) = false := decide_eq_false h16
            clear k0 k9 HP HL s6 s7 h16
            go_wp2_with fail
            go_quiet (fail)
            clear cB cS s1 s2 s3 s4 s5 b1 b2 s9
            go_wp2_with fail
            generalize 160000000 + 25000 * (k : Int) + eb + 2 * es = ev at cR ⊢
            go_quiet (fail)
            clear cR
            go_wp2_with fail
            go_roundw
            case rel => exact ⟨k + 1, by omega, by go_num, _, rfl⟩
            case measure => simp [RowKit.intOf]; have := HQ.out; omega
    · obtain rfl : k = 20 := by omega
      have HR2 := range_below HR.out (below_dr (Below.refl _ _) q)
      go_wp2_with (first | refine wpList_load_row' rfl _ _ rfl gt rfl tabV (.array 20 2) HR2 (by kernel_rfl) rfl (by kernel_rfl) ?_ | refine wpList_store_new rfl _ _ _ rfl _ tabV.toArray rfl rfl (by kernel_rfl) (by kernel_rfl) (by kernel_rfl) ?_)
      have hbq : Below W.heap.size W (W.drewN q) := below_dr (Below.refl _ _) q
      have hb := grows' (W.drewN q) (.cells tabV.toArray 51)
      have HX := Lib.hid (range_new (W.drewN q) 51 tabV)
      have HBX := Lib.hid (bt (bt HB.out hbq) hb)
      have HHX := Lib.hid (there_below (there_below HH.out hbq) hb)
      have HWX := Lib.hid (there_below (there_below HW.out hbq) hb)
      have hg3 : gt < (W.drewN q).heap.size ∧ gb < (W.drewN q).heap.size := by
        obtain ⟨h1, _⟩ := HH.out 0 (by omega)
        obtain ⟨u, hu⟩ := Option.isSome_iff_exists.1 h1
        obtain ⟨h2, _⟩ := HW.out 0 (by omega)
        obtain ⟨u2, hu2⟩ := Option.isSome_iff_exists.1 h2
        exact ⟨World.block_lt_of_cell? W _ hu, World.block_lt_of_cell? W _ hu2⟩
      generalize (W.drewN q).alloc (.cells tabV.toArray 51) = U at HX HBX HHX HWX ⊢
      rw [show (W.drewN q).heap.size = W.heap.size from rfl] at HX hg3
      generalize W.heap.size = g6 at HX hg3 ⊢
      have HG := Lib.hid (And.intro (And.intro hg1 hg2) hg3)
      clear hb hbq HS HB HTW HR HH HV HW HR2 hg3 hg1 hg2
      go_loopw [7] (fun v7 wr => ∃ (k : Nat), k ≤ 20 ∧ v7 = .int .i64 (k : Int) ∧ Below w.heap.size w wr ∧ wr.there gt 0 20 ∧ wr.there gb 0 20 ∧ wr.rangeAt g6 0 tabV) (fun v7 _ => 20 - (RowKit.intOf v7).toNat)
      case atStart => exact ⟨0, by omega, rfl, HBX.out, HHX.out, HWX.out, HX.out⟩
      case round =>
        clear HX HBX HHX HWX
        obtain ⟨k, hk, rfl, hb, h1, h2, h3⟩ := hrel
        have HB := Lib.hid hb
        have HH := Lib.hid h1
        have HW := Lib.hid h2
        have HX := Lib.hid h3
        clear hb h1 h2 h3
        by_cases hlt : k < 20
        · have l1 : (0 : Int) ≤ (k : Int) := by omega
          have l2 : (k : Int) < 20 := by omega
          obtain ⟨hs, z0⟩ := HH.out k hlt
          obtain ⟨u0, c0⟩ := Option.isSome_iff_exists.1 hs
          rw [Nat.zero_add] at c0 z0
          obtain ⟨hs2, y0⟩ := (World.there_setCells HW.out gt k [.int .i64 (-1)]) k hlt
          obtain ⟨u1, c1⟩ := Option.isSome_iff_exists.1 hs2
          rw [Nat.zero_add] at c1 y0
          replace c1 : (wr.setCell ⟨gt, k, none⟩ (.int .i64 (-1))).cell? ⟨gb, k, none⟩ = some u1 := c1
          replace y0 : (wr.setCell ⟨gt, k, none⟩ (.int .i64 (-1))).frozen? ⟨gb, k, none⟩ = false := y0
          have NB := Lib.hid ((HB.out.setCell (p := ⟨gt, k, none⟩) HG.out.1.1 (.int .i64 (-1))).setCell (p := ⟨gb, k, none⟩) HG.out.1.2 (.int .i64 (-1)))
          have NH := Lib.hid (World.there_setCells (World.there_setCells HH.out gt k [.int .i64 (-1)]) gb k [.int .i64 (-1)])
          have NW := Lib.hid (World.there_setCells (World.there_setCells HW.out gt k [.int .i64 (-1)]) gb k [.int .i64 (-1)])
          have NX := Lib.hid (World.rangeAt_setCells_apart (World.rangeAt_setCells_apart HX.out gt k [.int .i64 (-1)] (.inl (by have := HG.out.2; omega))) gb k [.int .i64 (-1)] (.inl (by have := HG.out.2; omega)))
          clear hs hs2 HH HW HX HB
          go_wp2_with fail
          go_roundw
          case rel => exact ⟨k + 1, by omega, by go_num, NB.out, NH.out, NW.out, NX.out⟩
          case measure => simp [RowKit.intOf]; omega
        · obtain rfl : k = 20 := by omega
          have HTr := Lib.hid (HT0.out.below HB.out)
          clear HH HW
          go_wp2_with fail
          refine (hertz_ok 5 wr HTr.out (by omega) (by omega)).mono ?_
          rintro e w9 ⟨rfl, hw⟩
          rw [hw, show ent 5 = 472763136 from rfl]
          clear hw w9
          have HKV := Lib.hid (fun V (hV : Below wr.heap.size wr V) => show V.rangeAt g6 0 tabV ∧ Below wr.heap.size wr V ∧ V.cell? ⟨g6, 5, none⟩ = some (.int .i64 472763136) from ⟨range_below HX.out hV, hV, range_at (range_below HX.out hV) 5 _ rfl⟩)
          clear HX
          go_wp2_with fail
          have HEQ := eq_tab
          refine wp_region_noPanic ?_
          refine wp_region_held_drew (S := fun w' => w'.rangeAt g6 0 tabV ∧ Below wr.heap.size wr w' ∧ w'.cell? ⟨g6, 5, none⟩ = some (.int .i64 472763136)) (by kernel_rfl) (HKV.out _ (below_dr (Below.refl _ _) 1)) (fun hHeld => ?_)
          refine takeRow (i := 1) (dst := some 75) tabV g6 51 _ (.array 20 2) rfl rfl (by kernel_rfl) (by kernel_rfl) (by kernel_rfl) (fun _ _ _ h => h) (by rfl) rfl rfl (fun w hw => hw.1) (by kernel_rfl) rfl (by kernel_rfl) hHeld ?_
          try simp only [Act.put, List.setIfInBounds_toArray, List.set_cons_zero, List.set_cons_succ]
          refine wpAnyH_ready (rs := [0]) (by kernel_rfl) (by simp) ?_
          refine AllReadyH.cons (i := 0) (o := ⟨some 74, .call _, _, _, _, _⟩) rfl (fun K hK => ?_) AllReadyH.nil
          go_simp
          refine (table_any _ (Tb.below HTr.out hHeld.2.1)).mono ?_
          rintro e w9 ⟨rfl, hb9⟩
          have hH := HKV.out _ (bt hHeld.2.1 hb9)
          clear hb9
          refine hK.out _ _ hH (fun _ => ?_)
          clear hK K hHeld
          have hHeld := hH
          clear hH
          try simp only [Act.put, List.setIfInBounds_toArray, List.set_cons_zero, List.set_cons_succ]
          first | (refine skipH (i := 2) (dst := some 76) rfl rfl (by kernel_rfl) (by kernel_rfl) (by kernel_rfl) (fun _ _ _ h => h) (by rfl) hHeld ?_) | (refine' takeH (i := 2) (dst := some 76) (v := _) rfl rfl (by kernel_rfl) (by kernel_rfl) (by kernel_rfl) (fun _ _ _ h => h) (by rfl) ?hy hHeld ?_; case hy => (intro w hSw; clear hSw; (first | done | go_simp); try with_reducible rfl)) | fail
          try simp only [Act.put, List.setIfInBounds_toArray, List.set_cons_zero, List.set_cons_succ]
          first | (refine skipH (i := 3) (dst := some 77) rfl rfl (by kernel_rfl) (by kernel_rfl) (by kernel_rfl) (fun _ _ _ h => h) (by rfl) hHeld ?_) | (refine' takeH (i := 3) (dst := some 77) (v := _) rfl rfl (by kernel_rfl) (by kernel_rfl) (by kernel_rfl) (fun _ _ _ h => h) (by rfl) ?hy hHeld ?_; case hy => (intro w hSw; clear hSw; (first | done | go_simp); try with_reducible rfl)) | fail
          try simp only [Act.put, List.setIfInBounds_toArray, List.set_cons_zero, List.set_cons_succ]
          first | (refine skipH (i := 4) (dst := some 78) rfl rfl (by kernel_rfl) (by kernel_rfl) (by kernel_rfl) (fun _ _ _ h => h) (by rfl) hHeld ?_) | (refine' takeH (i := 4) (dst := some 78) (v := _) rfl rfl (by kernel_rfl) (by kernel_rfl) (by kernel_rfl) (fun _ _ _ h => h) (by rfl) ?hy hHeld ?_; case hy => (intro w hSw; clear hSw; (first | done | go_simp); try with_reducible rfl)) | fail
          try simp only [Act.put, List.setIfInBounds_toArray, List.set_cons_zero, List.set_cons_succ]
          first | (refine skipH (i := 5) (dst := some 79) rfl rfl (by kernel_rfl) (by kernel_rfl) (by kernel_rfl) (fun _ _ _ h => h) (by rfl) hHeld ?_) | (refine' takeH (i := 5) (dst := some 79) (v := _) rfl rfl (by kernel_rfl) (by kernel_rfl) (by kernel_rfl) (fun _ _ _ h => h) (by rfl) ?hy hHeld ?_; case hy => (intro w hSw; clear hSw; (first | done | go_simp); try with_reducible rfl)) | fail
          try simp only [Act.put, List.setIfInBounds_toArray, List.set_cons_zero, List.set_cons_succ]
          first | (refine skipH (i := 6) (dst := some 80) rfl rfl (by kernel_rfl) (by kernel_rfl) (by kernel_rfl) (fun _ _ _ h => h) (by rfl) hHeld ?_) | (refine' takeH (i := 6) (dst := some 80) (v := _) rfl rfl (by kernel_rfl) (by kernel_rfl) (by kernel_rfl) (fun _ _ _ h => h) (by rfl) ?hy hHeld ?_; case hy => (intro w hSw; clear hSw; (first | done | go_simp); try with_reducible rfl)) | fail
          try simp only [Act.put, List.setIfInBounds_toArray, List.set_cons_zero, List.set_cons_succ]
          first | (refine skipH (i := 7) (dst := some 81) rfl rfl (by kernel_rfl) (by kernel_rfl) (by kernel_rfl) (fun _ _ _ h => h) (by rfl) hHeld ?_) | (refine' takeH (i := 7) (dst := some 81) (v := _) rfl rfl (by kernel_rfl) (by kernel_rfl) (by kernel_rfl) (fun _ _ _ h => h) (by rfl) ?hy hHeld ?_; case hy => (intro w hSw; clear hSw; (first | done | go_simp); try with_reducible rfl)) | fail
          try simp only [Act.put, List.setIfInBounds_toArray, List.set_cons_zero, List.set_cons_succ]
          first | (refine skipH (i := 8) (dst := some 82) rfl rfl (by kernel_rfl) (by kernel_rfl) (by kernel_rfl) (fun _ _ _ h => h) (by rfl) hHeld ?_) | (refine' takeH (i := 8) (dst := some 82) (v := _) rfl rfl (by kernel_rfl) (by kernel_rfl) (by kernel_rfl) (fun _ _ _ h => h) (by rfl) ?hy hHeld ?_; case hy => (intro w hSw; clear hSw; (first | done | go_simp); try with_reducible rfl)) | fail
          try simp only [Act.put, List.setIfInBounds_toArray, List.set_cons_zero, List.set_cons_succ]
          first | (refine skipH (i := 9) (dst := some 83) rfl rfl (by kernel_rfl) (by kernel_rfl) (by kernel_rfl) (fun _ _ _ h => h) (by rfl) hHeld ?_) | (refine' takeH (i := 9) (dst := some 83) (v := _) rfl rfl (by kernel_rfl) (by kernel_rfl) (by kernel_rfl) (fun _ _ _ h => h) (by rfl) ?hy hHeld ?_; case hy => (intro w hSw; clear hSw; (first | done | go_simp); try with_reducible rfl)) | fail
          try simp only [Act.put, List.setIfInBounds_toArray, List.set_cons_zero, List.set_cons_succ]
          first | (refine skipH (i := 10) (dst := some 84) rfl rfl (by kernel_rfl) (by kernel_rfl) (by kernel_rfl) (fun _ _ _ h => h) (by rfl) hHeld ?_) | (refine' takeH (i := 10) (dst := some 84) (v := _) rfl rfl (by kernel_rfl) (by kernel_rfl) (by kernel_rfl) (fun _ _ _ h => h) (by rfl) ?hy hHeld ?_; case hy => (intro w hSw; obtain ⟨_, _, _⟩ := hSw; (first | done | go_simp); try with_reducible rfl)) | fail
          try simp only [Act.put, List.setIfInBounds_toArray, List.set_cons_zero, List.set_cons_succ]
          first | (refine skipH (i := 11) (dst := some 85) rfl rfl (by kernel_rfl) (by kernel_rfl) (by kernel_rfl) (fun _ _ _ h => h) (by rfl) hHeld ?_) | (refine' takeH (i := 11) (dst := some 85) (v := _) rfl rfl (by kernel_rfl) (by kernel_rfl) (by kernel_rfl) (fun _ _ _ h => h) (by rfl) ?hy hHeld ?_; case hy => (intro w hSw; clear hSw; (first | done | go_simp); try with_reducible rfl)) | fail
          try simp only [Act.put, List.setIfInBounds_toArray, List.set_cons_zero, List.set_cons_succ]
          first | (refine skipH (i := 12) (dst := some 86) rfl rfl (by kernel_rfl) (by kernel_rfl) (by kernel_rfl) (fun _ _ _ h => h) (by rfl) hHeld ?_) | (refine' takeH (i := 12) (dst := some 86) (v := _) rfl rfl (by kernel_rfl) (by kernel_rfl) (by kernel_rfl) (fun _ _ _ h => h) (by rfl) ?hy hHeld ?_; case hy => (intro w hSw; clear hSw; (first | done | go_simp); try with_reducible rfl)) | fail
          try simp only [Act.put, List.setIfInBounds_toArray, List.set_cons_zero, List.set_cons_succ]
          first | (refine skipH (i := 13) (dst := some 87) rfl rfl (by kernel_rfl) (by kernel_rfl) (by kernel_rfl) (fun _ _ _ h => h) (by rfl) hHeld ?_) | (refine' takeH (i := 13) (dst := some 87) (v := _) rfl rfl (by kernel_rfl) (by kernel_rfl) (by kernel_rfl) (fun _ _ _ h => h) (by rfl) ?hy hHeld ?_; case hy => (intro w hSw; clear hSw; (first | done | go_simp); try with_reducible rfl)) | fail
          try simp only [Act.put, List.setIfInBounds_toArray, List.set_cons_zero, List.set_cons_succ]
          refine wpAnyH_ready (rs := [14]) (by kernel_rfl) (by simp) ?_
          refine AllReadyH.cons (i := 14) (o := ⟨some 88, .call _, _, _, _, _⟩) rfl (fun K hK => ?_) AllReadyH.nil
          go_simp
          refine (awake_any _ (Tb.below HTr.out hHeld.2.1)).mono ?_
          rintro e w8 ⟨rfl, hw8⟩
          have hH := HKV.out w8 (by rw [hw8]; exact hHeld.2.1)
          clear hw8
          refine hK.out _ _ hH (fun _ => ?_)
          clear hK K hHeld
          have hHeld := hH
          clear hH
          try simp only [Act.put, List.setIfInBounds_toArray, List.set_cons_zero, List.set_cons_succ]
          first | (refine skipH (i := 15) (dst := some 89) rfl rfl (by kernel_rfl) (by kernel_rfl) (by kernel_rfl) (fun _ _ _ h => h) (by rfl) hHeld ?_) | (refine' takeH (i := 15) (dst := some 89) (v := _) rfl rfl (by kernel_rfl) (by kernel_rfl) (by kernel_rfl) (fun _ _ _ h => h) (by rfl) ?hy hHeld ?_; case hy => (intro w hSw; clear hSw; (first | done | go_simp); try with_reducible rfl)) | fail
          try simp only [Act.put, List.setIfInBounds_toArray, List.set_cons_zero, List.set_cons_succ]
          first | (refine skipH (i := 16) (dst := some 0) rfl rfl (by kernel_rfl) (by kernel_rfl) (by kernel_rfl) (fun _ _ _ h => h) (by rfl) hHeld ?_) | (refine' takeH (i := 16) (dst := some 0) (v := _) rfl rfl (by kernel_rfl) (by kernel_rfl) (by kernel_rfl) (fun _ _ _ h => h) (by rfl) ?hy hHeld ?_; case hy => (intro w hSw; clear hSw; (first | done | go_simp); try with_reducible rfl)) | fail
          try simp only [Act.put, List.setIfInBounds_toArray, List.set_cons_zero]
          refine wpAnyH_done (by kernel_rfl) (NoPanic.normal ?_) _
          have B5 := Lib.hid (bt HB.out hHeld.2.1)
          clear hHeld
          go_wp2_with fail
          go_ret
          exact ⟨rfl, B5.out⟩
end Go.Proofs.YtinocgngjhomcaaDoor.Ra
