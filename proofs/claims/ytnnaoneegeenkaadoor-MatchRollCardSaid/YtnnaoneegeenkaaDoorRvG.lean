/- The document's Stands: what it reckons with. -/
import Derived.Test.YtnnaoneegeenkaaDoorRvI
namespace Go.Proofs.YtnnaoneegeenkaaDoor.Kq
open Go.ChangeShapes Go.WideShapes Go.ChangeAt Go.RowKit Own Ro wordsNames Kc
open Ka (i64s i64s_len i64s_at entV Rt KR)
open Rm (crystalN)

/-- What stands behind k families and g cards. -/
def StI (s0 : Nat) (w2 : World) (k g : Nat) (W : World) : Prop :=
  ∃ c f tb RC RF Rt, Qat (slV tb) W s0 c f sl0 (stI g) (rfI g) RC RF [] false ∧ RowsOwn KT W 0 tb.1 tb.2.1 tb.2.2 (tabsI k) Rt ∧ (∀ x, (slV c).ownBlock = some x → w2.heap.size ≤ x) ∧ (∀ x, (slV f).ownBlock = some x → w2.heap.size ≤ x) ∧ (∀ x, (slV tb).ownBlock = some x → w2.heap.size ≤ x) ∧ Kp s0 (s0 + 1) w2 W
theorem qat_st {W : World} {q : Nat} {c f n tb : Sl} {L G : List Cd} {RC RF : List Sl} {N : List Nt} {z : Bool} (h : Qat (slV tb) W q c f n L G RC RF N z) : StAt W q tb := ⟨_, _, _, _, h.blk⟩
theorem tabsI_small (k : Nat) (hk : k ≤ 5) (i : Nat) : ((tabsI k).getD i tn0).2.length ≤ 32 := by
  have h : ∀ k ≤ 5, ∀ i < 5, ((tabsI k).getD i tn0).2.length ≤ 32 := by decide +kernel
  by_cases hi : i < 5
  · exact h k hk i hi
  · rw [List.getD_eq_getElem?_getD, List.getElem?_eq_none (by rw [tabsI_len]; omega)]
    exact Nat.zero_le _
theorem look_small (Ts : List Tn) (nm : List UInt8) (h : ∀ i, (Ts.getD i tn0).2.length ≤ 32) : (lookT Ts nm).length ≤ 32 := by
  induction Ts with
  | nil => exact Nat.zero_le _
  | cons t r ih =>
    unfold lookT
    split
    · exact h 0
    · exact ih fun i => h (i + 1)
theorem rts_len (F : Fm) (Ts : List Tn) : (rts F Ts).length = F.reads.length := by simp [rts]
theorem rts_at (F : Fm) (Ts : List Tn) (j : Nat) (h : j < F.reads.length) : (rts F Ts).getD j (0, []) = ((F.reads.getD j ([], 0)).2, lookT Ts (F.reads.getD j ([], 0)).1) := by
  unfold rts
  exact getD_map' _ _ j ([], 0) _ h
theorem rdV_at (l : List (List UInt8 × Int)) (j : Nat) (h : j < l.length) : (rdV l)[j * 2 + 0]? = some (.string (str (l.getD j ([], 0)).1)) ∧ (rdV l)[j * 2 + 1]? = some (.int .i64 (l.getD j ([], 0)).2) := by
  unfold rdV
  rw [flat_at (fun r : List UInt8 × Int => [Value.string (str r.1), .int .i64 r.2]) 2 (fun _ => rfl) l j 0 (by omega), flat_at (fun r : List UInt8 × Int => [Value.string (str r.1), .int .i64 r.2]) 2 (fun _ => rfl) l j 1 (by omega), some_at l ([], 0) j h]
  exact ⟨rfl, rfl⟩
/-- Where the arrays that a family reads lie. -/
def rrs (F : Fm) (Ts : List Tn) (R : List Sl) : List Sl := F.reads.map fun r => lookR Ts R r.1
theorem rrs_len (F : Fm) (Ts : List Tn) (R : List Sl) : (rrs F Ts R).length = F.reads.length := by simp [rrs]
theorem rrs_at (F : Fm) (Ts : List Tn) (R : List Sl) (j : Nat) (h : j < F.reads.length) : (rrs F Ts R).getD j sl0 = lookR Ts R (F.reads.getD j ([], 0)).1 := by
  unfold rrs
  exact getD_map' _ _ j ([], 0) _ h
theorem rts_small (F : Fm) (Ts : List Tn) (h : ∀ i, (Ts.getD i tn0).2.length ≤ 32) (k : Nat) : ((rts F Ts).getD k (0, [])).2.length ≤ 32 := by
  by_cases hk : k < F.reads.length
  · rw [rts_at F Ts k hk]
    exact look_small Ts _ h
  · rw [List.getD_eq_getElem?_getD, List.getElem?_eq_none (by rw [rts_len]; omega)]
    exact Nat.zero_le _
theorem row0_at (F : Fm) (Ts : List Tn) (i : Nat) (h : i < F.len) : (row0 F Ts).getD i 0 = entV (i : Int) F.base F.step (rts F Ts) := by
  unfold row0
  rw [getD_map' (fun i : Nat => entV (i : Int) F.base F.step (rts F Ts)) (List.range F.len) i 0 0 (by simpa using h)]
  rw [List.getD_eq_getElem?_getD, List.getElem?_range h]
  rfl
theorem i64s_snoc (l : List Int) (x : Int) : i64s l ++ [.int .i64 x] = i64s (l ++ [x]) := by simp [i64s]
theorem i64s_set (l : List Int) (i : Nat) (x : Int) : (i64s l).set i (.int .i64 x) = i64s (l.set i x) := by
  unfold i64s
  rw [List.map_set]
theorem row_newS (w : World) : Qat (slV sl0) (w.alloc (.cells #[.slice none 0 0, .slice none 0 0, .slice none 0 0, .bool false, .slice none 0 0] 94)) w.heap.size sl0 sl0 sl0 [] [] [] [] [] false :=
  ⟨heap_alloc_new w _, ⟨rfl, own_nilK _ _ _ _, InnOwn.nil _ _⟩, ⟨rfl, own_nilK _ _ _ _, InnOwn.nil _ _⟩, own_nilK _ _ _ _, rfl, by simp, by simp, by simp, ⟨by simp, fun k => by simpa using mild_zero _⟩, ⟨by simp, fun k => by simpa using mild_zero _⟩, fun g h => by cases h⟩
theorem info_rd : (Tryd.prog.info? 131).map (fun i => (i.zero, i.size, i.bytes)) = some (some (.agg #[.int .i64 0, .slice none 0 0]), 2, 32) := by kernel_rfl
theorem info_i64' : (Tryd.prog.info? 2).map (fun i => (i.zero, i.size, i.bytes)) = some (some (.int .i64 0), 1, 8) := by kernel_rfl
theorem info_tb : (Tryd.prog.info? 96).map (fun i => (i.zero, i.size, i.bytes)) = some (some (.agg #[.string ⟨#[]⟩, .slice none 0 0]), 2, 40) := by kernel_rfl
theorem slV_inj {a b : Sl} (h : slV a = slV b) : a = b := by
  obtain ⟨a1, a2, a3⟩ := a
  obtain ⟨b1, b2, b3⟩ := b
  simp only [slV, Value.slice.injEq] at h
  obtain ⟨rfl, rfl, rfl⟩ := h
  rfl
theorem box_notsq {X : Value} {W : World} {q : Nat} {c f : Sl} {L G : List Cd} {RC RF : List Sl} (h : Qat X W q c f sl0 L G RC RF [] false) {b : Nat} {cur : Array Value} {E : TypeId} {fr : Nat × Nat} (hb : W.heap[b]? = some (.cells cur E fr)) (e1 : E ≠ 94) (e2 : E ≠ 30) : ¬ Sq q c f sl0 b := fun e => by
  rcases e with e | e | e | e
  · exact type_ne hb h.blk e1 e
  · obtain ⟨_, _, ht2⟩ := own_type h.cl.2.1 e
    exact type_ne hb ht2 e2 rfl
  · obtain ⟨_, _, ht2⟩ := own_type h.fl.2.1 e
    exact type_ne hb ht2 e2 rfl
  · cases e
/-- The cards of a family, as they stay. -/
def CardsAt (s0 : Nat) (w2 : World) (A : Option Addr) (n : Nat) (L : List Cd) : Prop :=
  (∀ W, Kp s0 (s0 + 1) w2 W → ∃ RQ, Ro.RowsIn KC W A n L RQ ∧ ∀ i, Neat (RQ.getD i sl0)) ∧ ∀ a, A = some a → s0 < a.block
theorem CardsAt.size {s0 : Nat} {w2 : World} {A : Option Addr} {n : Nat} {L : List Cd} (h : CardsAt s0 w2 A n L) (hn : 0 < n) : ∀ a, A = some a → a.block < w2.heap.size := fun a ha => by
  obtain ⟨_, h1, _⟩ := h.1 w2 (Kp.refl _)
  obtain ⟨b, o, rfl, hb, _⟩ := h1.at hn
  obtain rfl := Option.some.inj ha
  exact hb
theorem cards_at {s0 ga : Nat} {w2 : World} {k : Nat} (hga : s0 < ga) (hall : ∀ W, Kp s0 (s0 + 1) w2 W → ∃ r A R, FamAt W ga k (FM k) r A R ∧ ∀ a, A.1 = some a → s0 < a.block) {W0 : World} (h0 : Kp s0 (s0 + 1) w2 W0) {r A : Sl} {R : List Sl} (hf : FamAt W0 ga k (FM k) r A R) : CardsAt s0 w2 A.1 A.2.1 (FM k).L := by
  have key : ∀ W, Kp s0 (s0 + 1) w2 W → ∀ r' A' R', FamAt W ga k (FM k) r' A' R' → A' = A := fun W hW r' A' R' h' => by
    obtain ⟨r1, A1, R1, h1, _⟩ := hall w2 (Kp.refl _)
    have c1 := h1.row 11 _ rfl
    exact slV_inj ((Option.some.inj ((h'.row 11 _ rfl).symm.trans (cell_kpQ c1 hW hga))).trans (Option.some.inj ((hf.row 11 _ rfl).symm.trans (cell_kpQ c1 h0 hga))).symm)
  refine ⟨fun W hW => ?_, fun a ha => ?_⟩
  · obtain ⟨r', A', R', h', _⟩ := hall W hW
    obtain rfl := key W hW _ _ _ h'
    exact ⟨R', h'.ac, fun i => (h'.neat i).1⟩
  · obtain ⟨r', A', R', h', h2⟩ := hall W0 h0
    obtain rfl := key W0 h0 _ _ _ h'
    exact h2 a ha
theorem sti_next {s0 k g b' : Nat} {w2 w W1 w' : World} {c f r : Sl} {RC RF RT : List Sl} {ta sa : Option Addr} {tn tc sc : Nat} {d : Tn} (hq : Qat (slV (ta, tn, tc)) w s0 c f sl0 (stI g) (rfI g) RC RF [] false) (ht : RowsOwn KT w 0 ta tn tc (tabsI k) RT)
    (hfc : ∀ x, (slV c).ownBlock = some x → w2.heap.size ≤ x) (hff : ∀ x, (slV f).ownBlock = some x → w2.heap.size ≤ x) (hft : ∀ x, (slV (ta, tn, tc)).ownBlock = some x → w2.heap.size ≤ x) (hkp : Kp s0 (s0 + 1) w2 w) (hb1 : Below w.heap.size w W1)
    (hl : r.2.1 = d.2.length) (ho7 : W1.ownsRow b' 2 1 (slV r) r.2.1 (i64s d.2)) (hlt : ∀ i, i < RT.length → ∀ g, (rowV RT i).ownBlock = some g → g < b')
    (hg : W1.grownBy w' (slV (ta, tn, tc)).ownBlock) (ho : w'.ownsRow 0 96 2 (.slice sa (tn + 1) sc) (tn + 1) (KT.rows (tabsI k) RT ++ KT.row (d, r)))
    (hf : (Value.slice sa (tn + 1) sc).ownBlock = (slV (ta, tn, tc)).ownBlock ∨ ∀ g, (Value.slice sa (tn + 1) sc).ownBlock = some g → W1.heap.size ≤ g) (htb : tabsI (k + 1) = tabsI k ++ [d]) :
    StI s0 w2 (k + 1) g (w'.setCell ⟨s0, 4, none⟩ (.slice sa (tn + 1) sc)) := by
  have hbl : w'.heap[s0]? = some (.cells ⟨[slV c, slV f, slV sl0, .bool false, slV (ta, tn, tc)]⟩ 94 (0, 0)) := (hg.block s0 (Nat.lt_of_lt_of_le hq.lt hb1.size) (fun e => by
    obtain ⟨_, _, h⟩ := own_type ht.2.1 e.symm
    exact type_ne h hq.blk (by decide) rfl)).trans ((hb1.block s0 hq.lt).trans hq.blk)
  have hch : Ch (fun k => k = s0 ∨ (slV (ta, tn, tc)).ownBlock = some k) w (w'.setCell ⟨s0, 4, none⟩ (.slice sa (tn + 1) sc)) := ((Ch.of_below (S := fun k => k = s0 ∨ (slV (ta, tn, tc)).ownBlock = some k) hb1).grown hg (fun k hk => .inl (.inr hk))).set (p := ⟨s0, 4, none⟩) (.inl (.inl rfl)) _
  obtain ⟨A3, c3, e3, hr⟩ := (ht.below hb1).snoc (K := KT) hl ho7 (Nat.zero_le _) hlt hg ho
  injection e3 with e1 _ e2
  subst e1 e2
  have hs : Ch (fun k => k = s0) w' (w'.setCell ⟨s0, 4, none⟩ (.slice sa (tn + 1) sc)) := (Ch.refl (fun k => k = s0) w').set (p := ⟨s0, 4, none⟩) (.inl rfl) _
  have hns : ∀ {b m k : Nat} {E : TypeId} {v : Value} {xs : List Value}, w'.ownsRow b E k v m xs → E ≠ 94 → ∀ g, v.ownBlock = some g → ¬ g = s0 := fun h hE g hg e => by
    obtain ⟨_, _, ht'⟩ := own_type h hg
    exact type_ne ht' hbl hE e
  have hr2 := rowsT_ch hr hs (hns hr.2.1 (by decide)) (fun i hi => hns (hr.2.2.2.1 i hi).2 (by decide))
  have hsz := hkp.size
  refine ⟨c, f, (sa, tn + 1, sc), RC, RF, RT ++ [r], qat_tb (tb := (ta, tn, tc)) hq ht hch (blk_set hbl 4 _), by rw [htb]; exact hr2, hfc, hff, fun x hx => ?_, ?_⟩
  · rcases hf with h | h
    · exact hft x (h.symm.trans hx)
    · have := h x hx
      have := hb1.size
      omega
  · exact ⟨hch.os.trans hkp.os, hch.tape.trans hkp.tape, hch.output.trans hkp.output, Nat.le_trans hkp.size hch.size, fun j h1 h2 => (hch.block j (Nat.lt_of_lt_of_le h1 hkp.size) (fun e => by
      rcases e with e | e
      · omega
      · have := hft j e; omega)).trans (hkp.block j h1 h2)⟩
/-- What stands, in a block of its own. -/
def StandsPost (w : World) (e : Ending) (w' : World) : Prop :=
  e = .returned (.pointer (some ⟨w.heap.size, 0, none⟩)) ∧ Below w.heap.size w w' ∧ ∃ c f tb RC RF RT, Qat (slV tb) w' w.heap.size c f sl0 SL RL RC RF [] false ∧ RowsOwn KT w' 0 tb.1 tb.2.1 tb.2.2 (tabsI 5) RT ∧
    ∀ x, (slV c).ownBlock = some x ∨ (slV f).ownBlock = some x ∨ (slV tb).ownBlock = some x → w.heap.size ≤ x
theorem kp_below {w w2 W : World} (hb : Below w.heap.size w w2) (hk : Kp w.heap.size (w.heap.size + 1) w2 W) : Below w.heap.size w W :=
  ⟨hk.os.trans hb.os, hk.tape.trans hb.tape, hk.output.trans hb.output, Nat.le_trans hb.size hk.size, fun k h => (hk.block k (Nat.lt_of_lt_of_le h hb.size) (.inl h)).trans (hb.block k h)⟩
set_option maxRecDepth 100000 in
set_option maxHeartbeats 16000000 in
theorem refStands_any (w : World) : Calls Tryd.prog 31 #[] w (StandsPost w) := by
  go_enter Tryd.func31, Tryd.ntmps31
  have Q1 := Lib.hid (row_newS w)
  have B1 := Lib.hid (grows' w (.cells #[.slice none 0 0, .slice none 0 0, .slice none 0 0, .bool false, .slice none 0 0] 94))
  have hs1 : w.heap.size < (w.alloc (.cells #[.slice none 0 0, .slice none 0 0, .slice none 0 0, .bool false, .slice none 0 0] 94)).heap.size := by simp
  go_wp2_with fail
  generalize w.alloc (.cells #[.slice none 0 0, .slice none 0 0, .slice none 0 0, .bool false, .slice none 0 0] 94) = w1 at Q1 B1 hs1 ⊢
  refine (refAll_any w1).mono ?_
  rintro e w2 ⟨ga, rfl, hall, hga, hga2, hb2⟩
  have HALL := Lib.hid (fun k hk W hW => hall k hk w.heap.size W hs1 hW)
  have BW2 := Lib.hid (bt B1.out hb2)
  have SI2 : Hid (StI w.heap.size w2 0 0 w2) := Lib.hid ⟨sl0, sl0, sl0, [], [], [], Q1.out.below hb2, ⟨rfl, own_nilK _ _ _ _, InnOwn.nil _ _⟩, (fun x h => by cases h), (fun x h => by cases h), (fun x h => by cases h), Kp.refl _⟩
  have hs2 : w.heap.size < w2.heap.size := Nat.lt_of_lt_of_le hs1 hb2.size
  clear hall hb2 Q1 B1
  go_wp2_with fail
  go_loopw [3] (fun v3 wr => ∃ k : Nat, k ≤ 5 ∧ v3 = .int .i64 (k : Nat) ∧ StI w.heap.size w2 k (offK k) wr) (fun v3 _ => 5 - (RowKit.intOf v3).toNat)
  case atStart => exact ⟨0, by omega, rfl, SI2.out⟩
  case round =>
    clear SI2
    obtain ⟨k, hk, rfl, c, f, tb, RC, RF, RT, hq, hrt, hfc, hff, hft, hkp⟩ := hrel
    have QA := Lib.hid hq
    have RTB := Lib.hid hrt
    have FC := Lib.hid hfc
    have FF := Lib.hid hff
    have FT := Lib.hid hft
    have HK := Lib.hid hkp
    have hsz := hkp.size
    clear hq hrt hfc hff hft hkp
    by_cases hlt : k < 5
    · have i1 : (0 : Int) ≤ (k : Int) := by omega
      have i2 : (k : Int) < 5 := by omega
      obtain ⟨r, A, R, hfa, _⟩ := HALL.out k hlt wr HK.out
      have HFA := Lib.hid hfa
      have HCD := Lib.hid (cards_at (Nat.lt_of_lt_of_le hs1 hga) (fun W hW => HALL.out k hlt W hW) HK.out hfa)
      have HLA := Lib.hid (FM_at k hlt)
      have HAN : Hid (A.2.1 = (FM k).L.length) := Lib.hid hfa.an
      have e0 := hfa.row 0 _ rfl
      have e1 := hfa.row 1 _ rfl
      have e2 := hfa.row 2 _ rfl
      have e3 := hfa.row 3 _ rfl
      have e4 := hfa.row 4 _ rfl
      have e5 := hfa.row 5 _ rfl
      have e6 := hfa.row 6 _ rfl
      have e7 := hfa.row 7 _ rfl
      have e8 := hfa.row 8 _ rfl
      have e9 := hfa.row 9 _ rfl
      have e10 := hfa.row 10 _ rfl
      have e11 := hfa.row 11 _ rfl
      rw [Nat.add_zero] at e0
      have HOK := Lib.hid (FM_ok k hlt)
      have HOF := Lib.hid (FM_off k hlt)
      have HTB : Hid (tabsI (k + 1) = tabsI k ++ [((FM k).name, row2 (FM k) (tabsI k))]) := Lib.hid rfl
      clear hfa
      generalize FM k = F at HFA HOK HOF HTB HCD HLA HAN e0 e1 e2 e3 e4 e5 e6 e7 e8 e9 e10 e11
      obtain ⟨ra, rn, rc⟩ := r
      obtain ⟨ca, cn, cc⟩ := A
      simp only [slV] at e4 e11
      go_upto_region 7 with (fail)
      clear e0 e1 e2 e3 e4 e5 e6 e7 e8 e9 e10 e11
      have BXF := Lib.hid (heap_alloc_new wr (.cells #[.string (str F.name), .int .i64 (F.len : Int), .int .i64 F.base, .int .i64 F.step, .slice ra rn rc, .int .i64 (F.at0 : Int), .int .i64 (F.at1 : Int), .int .i64 F.by0, .int .i64 F.by1, .string (str F.g0), .string (str F.g1), .slice ca cn cc] 76))
      have BF := Lib.hid (grows' wr (.cells #[.string (str F.name), .int .i64 (F.len : Int), .int .i64 F.base, .int .i64 F.step, .slice ra rn rc, .int .i64 (F.at0 : Int), .int .i64 (F.at1 : Int), .int .i64 F.by0, .int .i64 F.by1, .string (str F.g0), .string (str F.g1), .slice ca cn cc] 76))
      have hbx : wr.heap.size < (wr.alloc (.cells #[.string (str F.name), .int .i64 (F.len : Int), .int .i64 F.base, .int .i64 F.step, .slice ra rn rc, .int .i64 (F.at0 : Int), .int .i64 (F.at1 : Int), .int .i64 F.by0, .int .i64 F.by1, .string (str F.g0), .string (str F.g1), .slice ca cn cc] 76)).heap.size := by simp
      generalize wr.alloc (.cells #[.string (str F.name), .int .i64 (F.len : Int), .int .i64 F.base, .int .i64 F.step, .slice ra rn rc, .int .i64 (F.at0 : Int), .int .i64 (F.at1 : Int), .int .i64 F.by0, .int .i64 F.by1, .string (str F.g0), .string (str F.g1), .slice ca cn cc] 76) = wF at BXF BF hbx ⊢
      have QF := Lib.hid (QA.out.below BF.out)
      have RTF := Lib.hid (RTB.out.below BF.out)
      have KF := Lib.hid (HK.out.below BF.out)
      have HRC := Lib.hid (fun W (hW : Below wF.heap.size wF W) => (HFA.out.rc.below BF.out).below hW)
      have HRN : Hid (rn = F.reads.length) := Lib.hid HFA.out.rn
      clear QA RTB HK HFA
      generalize wr.heap.size = bx at *
      have HBC : Hid (∀ W, Below wF.heap.size wF W → ∀ j u, [Value.string (str F.name), .int .i64 (F.len : Int), .int .i64 F.base, .int .i64 F.step, .slice ra rn rc, .int .i64 (F.at0 : Int), .int .i64 (F.at1 : Int), .int .i64 F.by0, .int .i64 F.by1, .string (str F.g0), .string (str F.g1), .slice ca cn cc][j]? = some u → W.cell? ⟨bx, j, none⟩ = some u) := Lib.hid (fun W hW j u hu => by
        rw [hW.cell (p := ⟨bx, j, none⟩) hbx, Lib.cell_of_heap BXF.out j]
        simpa using hu)
      have hrn : rn ≤ 2 := by rw [HRN.out]; exact HOK.out.2.2.2.2.1
      have HTK := Lib.hid (fun nm W (hW : Below wF.heap.size wF W) => refTable_any w.heap.size tb (tabsI k) RT nm W (qat_st (QF.out.below hW)) (RTF.out.below hW).rows (by rw [tabsI_len]; omega))
      go_wp2_with fail
      go_loopw [5, 6] (fun v5 v6 wz => ∃ (j : Nat) (A5 : Option Addr) (c5 : Nat), j ≤ rn ∧ v6 = .int .i64 (j : Nat) ∧ v5 = .slice A5 j c5 ∧ wz.ownsRow wF.heap.size 131 2 (.slice A5 j c5) j (KR.rows ((rts F (tabsI k)).take j) ((rrs F (tabsI k) RT).take j)) ∧ Below wF.heap.size wF wz) (fun _ v6 _ => rn - (RowKit.intOf v6).toNat)
      case atStart => exact ⟨0, none, 0, by omega, rfl, rfl, own_nilK wF _ _ _, Below.refl _ _⟩
      case round =>
        obtain ⟨j, A5, c5, hj, rfl, rfl, ho5, hb5⟩ := hrel
        have O5 := Lib.hid ho5
        have B5 := Lib.hid hb5
        clear ho5 hb5
        have b4 : wr.cell? ⟨bx, 4, none⟩ = some (.slice ra rn rc) := HBC.out wr B5.out 4 _ rfl
        by_cases hlj : j < rn
        · have j1 : (0 : Int) ≤ (j : Int) := by omega
          have j2 : (j : Int) < (rn : Int) := by omega
          have hjF : j < F.reads.length := by rw [← HRN.out]; exact hlj
          obtain ⟨rb, ro, rfl, hrb, hrc⟩ := (HRC.out wr B5.out).at (by omega)
          have HRV := Lib.hid (rdV_at F.reads j hjF)
          have f0 : wr.cell? ⟨rb, ro + (j * 2 + 0), none⟩ = some (.string (str (F.reads.getD j ([], 0)).1)) := hrc _ _ HRV.out.1
          have f1 : wr.cell? ⟨rb, ro + (j * 2 + 1), none⟩ = some (.int .i64 (F.reads.getD j ([], 0)).2) := hrc _ _ HRV.out.2
          have HRA := Lib.hid (rts_at F (tabsI k) j hjF)
          have HRQ := Lib.hid (rrs_at F (tabsI k) RT j hjF)
          have HT1 := Lib.hid (takeS (rts F (tabsI k)) (0, []) j (by rw [rts_len]; exact hjF))
          have HT2 := Lib.hid (takeS (rrs F (tabsI k) RT) sl0 j (by rw [rrs_len]; exact hjF))
          have HF2 := Lib.hid (fun W (hW : Below wF.heap.size wF W) => show W.cell? ⟨rb, ro + j * 2 + 1, none⟩ = some (.int .i64 (F.reads.getD j ([], 0)).2) ∧ W.cell? ⟨rb, ro + j * 2, none⟩ = some (.string (str (F.reads.getD j ([], 0)).1)) from by
            obtain ⟨rb', ro', e, _, hc⟩ := (HRC.out W hW).at (by omega)
            injection e with e
            injection e with e1 e2
            subst e1 e2
            exact ⟨hc _ _ HRV.out.2, hc _ _ HRV.out.1⟩)
          clear hrc f0 f1 HRV hjF
          rw [HRA.out] at HT1
          rw [HRQ.out] at HT2
          clear HRA HRQ
          generalize F.reads.getD j ([], 0) = rj at HF2 HT1 HT2
          obtain ⟨nj, fj⟩ := rj
          dsimp only at HF2 HT1 HT2
          have HTN := Lib.hid (fun W hW => HTK.out nj W hW)
          generalize str nj = NJ at HF2 HTN
          have HSX : Hid (∀ W, Below wF.heap.size wF W → (W.cell? ⟨bx, 4, none⟩ = some (.slice (some ⟨rb, ro, none⟩) rn rc) ∧ W.cell? ⟨rb, ro + j * 2 + 1, none⟩ = some (.int .i64 fj) ∧ W.cell? ⟨rb, ro + j * 2, none⟩ = some (.string NJ)) ∧ Below wF.heap.size wF W) := Lib.hid (fun W hW => ⟨⟨HBC.out W hW 4 _ rfl, (HF2.out W hW).1, (HF2.out W hW).2⟩, hW⟩)
          clear HF2
          go_upto_region 11 with (fail)
          have hbz := B5.out.size
          refine wp_region_noPanic ?_
          refine wp_region_held_drew (S := fun w' => (w'.cell? ⟨bx, 4, none⟩ = some (.slice (some ⟨rb, ro, none⟩) rn rc) ∧ w'.cell? ⟨rb, ro + j * 2 + 1, none⟩ = some (.int .i64 fj) ∧ w'.cell? ⟨rb, ro + j * 2, none⟩ = some (.string NJ)) ∧ Below wF.heap.size wF w') (by kernel_rfl) (HSX.out _ (below_dr B5.out 1)) (fun hHeld => ?_)
          first | (refine skipH (i := 0) (dst := some 33) rfl rfl (by kernel_rfl) (by kernel_rfl) (by kernel_rfl) (fun _ _ _ h => h) (by rfl) hHeld ?_) | (refine' takeH (i := 0) (dst := some 33) (v := _) rfl rfl (by kernel_rfl) (by kernel_rfl) (by kernel_rfl) (fun _ _ _ h => h) (by rfl) ?hy hHeld ?_; case hy => (intro w hSw; clear hSw; (first | done | go_simp); try with_reducible rfl)) | fail
          try simp only [Act.put, List.setIfInBounds_toArray, List.set_cons_zero, List.set_cons_succ]
          first | (refine skipH (i := 1) (dst := some 34) rfl rfl (by kernel_rfl) (by kernel_rfl) (by kernel_rfl) (fun _ _ _ h => h) (by rfl) hHeld ?_) | (refine' takeH (i := 1) (dst := some 34) (v := _) rfl rfl (by kernel_rfl) (by kernel_rfl) (by kernel_rfl) (fun _ _ _ h => h) (by rfl) ?hy hHeld ?_; case hy => (intro w hSw; clear hSw; (first | done | go_simp); try with_reducible rfl)) | fail
          try simp only [Act.put, List.setIfInBounds_toArray, List.set_cons_zero, List.set_cons_succ]
          first | (refine skipH (i := 2) (dst := some 35) rfl rfl (by kernel_rfl) (by kernel_rfl) (by kernel_rfl) (fun _ _ _ h => h) (by rfl) hHeld ?_) | (refine' takeH (i := 2) (dst := some 35) (v := _) rfl rfl (by kernel_rfl) (by kernel_rfl) (by kernel_rfl) (fun _ _ _ h => h) (by rfl) ?hy hHeld ?_; case hy => (intro w hSw; obtain ⟨⟨_, _, _⟩, _⟩ := hSw; (first | done | go_simp); try with_reducible rfl)) | fail
          try simp only [Act.put, List.setIfInBounds_toArray, List.set_cons_zero, List.set_cons_succ]
          first | (refine skipH (i := 3) (dst := some 36) rfl rfl (by kernel_rfl) (by kernel_rfl) (by kernel_rfl) (fun _ _ _ h => h) (by rfl) hHeld ?_) | (refine' takeH (i := 3) (dst := some 36) (v := _) rfl rfl (by kernel_rfl) (by kernel_rfl) (by kernel_rfl) (fun _ _ _ h => h) (by rfl) ?hy hHeld ?_; case hy => (intro w hSw; clear hSw; (first | done | go_simp); try with_reducible rfl)) | fail
          try simp only [Act.put, List.setIfInBounds_toArray, List.set_cons_zero, List.set_cons_succ]
          first | (refine skipH (i := 4) (dst := some 37) rfl rfl (by kernel_rfl) (by kernel_rfl) (by kernel_rfl) (fun _ _ _ h => h) (by rfl) hHeld ?_) | (refine' takeH (i := 4) (dst := some 37) (v := _) rfl rfl (by kernel_rfl) (by kernel_rfl) (by kernel_rfl) (fun _ _ _ h => h) (by rfl) ?hy hHeld ?_; case hy => (intro w hSw; clear hSw; (first | done | go_simp); try with_reducible rfl)) | fail
          try simp only [Act.put, List.setIfInBounds_toArray, List.set_cons_zero, List.set_cons_succ]
          first | (refine skipH (i := 5) (dst := some 38) rfl rfl (by kernel_rfl) (by kernel_rfl) (by kernel_rfl) (fun _ _ _ h => h) (by rfl) hHeld ?_) | (refine' takeH (i := 5) (dst := some 38) (v := _) rfl rfl (by kernel_rfl) (by kernel_rfl) (by kernel_rfl) (fun _ _ _ h => h) (by rfl) ?hy hHeld ?_; case hy => (intro w hSw; clear hSw; (first | done | go_simp); try with_reducible rfl)) | fail
          try simp only [Act.put, List.setIfInBounds_toArray, List.set_cons_zero, List.set_cons_succ]
          first | (refine skipH (i := 6) (dst := some 39) rfl rfl (by kernel_rfl) (by kernel_rfl) (by kernel_rfl) (fun _ _ _ h => h) (by rfl) hHeld ?_) | (refine' takeH (i := 6) (dst := some 39) (v := _) rfl rfl (by kernel_rfl) (by kernel_rfl) (by kernel_rfl) (fun _ _ _ h => h) (by rfl) ?hy hHeld ?_; case hy => (intro w hSw; obtain ⟨⟨_, _, _⟩, _⟩ := hSw; (first | done | go_simp); try with_reducible rfl)) | fail
          try simp only [Act.put, List.setIfInBounds_toArray, List.set_cons_zero, List.set_cons_succ]
          first | (refine skipH (i := 7) (dst := some 40) rfl rfl (by kernel_rfl) (by kernel_rfl) (by kernel_rfl) (fun _ _ _ h => h) (by rfl) hHeld ?_) | (refine' takeH (i := 7) (dst := some 40) (v := _) rfl rfl (by kernel_rfl) (by kernel_rfl) (by kernel_rfl) (fun _ _ _ h => h) (by rfl) ?hy hHeld ?_; case hy => (intro w hSw; clear hSw; (first | done | go_simp); try with_reducible rfl)) | fail
          try simp only [Act.put, List.setIfInBounds_toArray, List.set_cons_zero, List.set_cons_succ]
          first | (refine skipH (i := 8) (dst := some 41) rfl rfl (by kernel_rfl) (by kernel_rfl) (by kernel_rfl) (fun _ _ _ h => h) (by rfl) hHeld ?_) | (refine' takeH (i := 8) (dst := some 41) (v := _) rfl rfl (by kernel_rfl) (by kernel_rfl) (by kernel_rfl) (fun _ _ _ h => h) (by rfl) ?hy hHeld ?_; case hy => (intro w hSw; clear hSw; (first | done | go_simp); try with_reducible rfl)) | fail
          try simp only [Act.put, List.setIfInBounds_toArray, List.set_cons_zero, List.set_cons_succ]
          first | (refine skipH (i := 9) (dst := some 42) rfl rfl (by kernel_rfl) (by kernel_rfl) (by kernel_rfl) (fun _ _ _ h => h) (by rfl) hHeld ?_) | (refine' takeH (i := 9) (dst := some 42) (v := _) rfl rfl (by kernel_rfl) (by kernel_rfl) (by kernel_rfl) (fun _ _ _ h => h) (by rfl) ?hy hHeld ?_; case hy => (intro w hSw; obtain ⟨⟨_, _, _⟩, _⟩ := hSw; (first | done | go_simp); try with_reducible rfl)) | fail
          try simp only [Act.put, List.setIfInBounds_toArray, List.set_cons_zero, List.set_cons_succ]
          first | (refine skipH (i := 10) (dst := some 43) rfl rfl (by kernel_rfl) (by kernel_rfl) (by kernel_rfl) (fun _ _ _ h => h) (by rfl) hHeld ?_) | (refine' takeH (i := 10) (dst := some 43) (v := _) rfl rfl (by kernel_rfl) (by kernel_rfl) (by kernel_rfl) (fun _ _ _ h => h) (by rfl) ?hy hHeld ?_; case hy => (intro w hSw; clear hSw; (first | done | go_simp); try with_reducible rfl)) | fail
          try simp only [Act.put, List.setIfInBounds_toArray, List.set_cons_zero, List.set_cons_succ]
          first | (refine skipH (i := 11) (dst := some 44) rfl rfl (by kernel_rfl) (by kernel_rfl) (by kernel_rfl) (fun _ _ _ h => h) (by rfl) hHeld ?_) | (refine' takeH (i := 11) (dst := some 44) (v := _) rfl rfl (by kernel_rfl) (by kernel_rfl) (by kernel_rfl) (fun _ _ _ h => h) (by rfl) ?hy hHeld ?_; case hy => (intro w hSw; clear hSw; (first | done | go_simp); try with_reducible rfl)) | fail
          try simp only [Act.put, List.setIfInBounds_toArray, List.set_cons_zero, List.set_cons_succ]
          first | (refine skipH (i := 12) (dst := some 45) rfl rfl (by kernel_rfl) (by kernel_rfl) (by kernel_rfl) (fun _ _ _ h => h) (by rfl) hHeld ?_) | (refine' takeH (i := 12) (dst := some 45) (v := _) rfl rfl (by kernel_rfl) (by kernel_rfl) (by kernel_rfl) (fun _ _ _ h => h) (by rfl) ?hy hHeld ?_; case hy => (intro w hSw; clear hSw; (first | done | go_simp); try with_reducible rfl)) | fail
          try simp only [Act.put, List.setIfInBounds_toArray, List.set_cons_zero, List.set_cons_succ]
          first | (refine skipH (i := 13) (dst := some 46) rfl rfl (by kernel_rfl) (by kernel_rfl) (by kernel_rfl) (fun _ _ _ h => h) (by rfl) hHeld ?_) | (refine' takeH (i := 13) (dst := some 46) (v := _) rfl rfl (by kernel_rfl) (by kernel_rfl) (by kernel_rfl) (fun _ _ _ h => h) (by rfl) ?hy hHeld ?_; case hy => (intro w hSw; obtain ⟨⟨_, _, _⟩, _⟩ := hSw; (first | done | go_simp); try with_reducible rfl)) | fail
          try simp only [Act.put, List.setIfInBounds_toArray, List.set_cons_zero, List.set_cons_succ]
          refine wpAnyH_ready (rs := [14]) (by kernel_rfl) (by simp) ?_
          refine AllReadyH.cons (i := 14) (o := ⟨some 47, .call _, _, _, _, _⟩) rfl (fun K hK => ?_) AllReadyH.nil
          go_simp
          refine (HTN.out _ hHeld.2).mono ?_
          rintro e w5' ⟨rfl, rfl⟩
          have hHT : Hid (KR.rows ((rts F (tabsI k)).take j) ((rrs F (tabsI k) RT).take j) ++ [.int .i64 fj, slV (lookR (tabsI k) RT nj)] = KR.rows ((rts F (tabsI k)).take (j + 1)) ((rrs F (tabsI k) RT).take (j + 1))) := Lib.hid (by
            rw [HT1.out, HT2.out]
            exact rows_snoc KR _ _ (fj, lookT (tabsI k) nj) (lookR (tabsI k) RT nj) (by simp [rts_len, rrs_len]))
          generalize lookR (tabsI k) RT nj = lr at hHT ⊢
          obtain ⟨qa, qn, qc⟩ := lr
          simp only [slV] at hHT ⊢
          have hH := hHeld
          refine hK.out _ _ hH (fun _ => ?_)
          clear hK K hHeld
          have hHeld := hH
          clear hH
          try simp only [Act.put, List.setIfInBounds_toArray, List.set_cons_zero, List.set_cons_succ]
          first | (refine skipH (i := 15) (dst := some 48) rfl rfl (by kernel_rfl) (by kernel_rfl) (by kernel_rfl) (fun _ _ _ h => h) (by rfl) hHeld ?_) | (refine' takeH (i := 15) (dst := some 48) (v := _) rfl rfl (by kernel_rfl) (by kernel_rfl) (by kernel_rfl) (fun _ _ _ h => h) (by rfl) ?hy hHeld ?_; case hy => (intro w hSw; clear hSw; (first | done | go_simp); try with_reducible rfl)) | fail
          try simp only [Act.put, List.setIfInBounds_toArray, List.set_cons_zero, List.set_cons_succ]
          have ZB := Lib.hid (bal (below_dr (Below.refl wr.heap.size wr) 1) rfl (.cells #[.int .i64 fj, .slice qa qn qc] 131))
          have HNW : Hid (∀ i u, [Value.int .i64 fj, .slice qa qn qc][i]? = some u → ((wr.drewN 1).alloc (.cells #[.int .i64 fj, .slice qa qn qc] 131)).cell? ((⟨wr.heap.size, 0, none⟩ : Addr).add i) = some u) := Lib.hid (fun i u hu => by
            rw [Ro.add_plain, World.cell?_alloc_at _ _ _ _ (by simp), Nat.zero_add]
            simpa using hu)
          refine wpAnyH_ready (rs := [16]) (by kernel_rfl) (by simp) ?_
          refine AllReadyH.cons (i := 16) (o := ⟨some 49, .buildSlice _ _ _, _, _, _, _⟩) rfl (fun K hK => ?_) AllReadyH.nil
          go_simp
          have hH := HSX.out _ (bt B5.out ZB.out)
          refine hK.out _ _ hH (fun _ => ?_)
          clear hK K hHeld
          have hHeld := hH
          try simp only [Act.put, List.setIfInBounds_toArray, List.set_cons_zero, List.set_cons_succ]
          refine wpAnyH_ready (rs := [17]) (by kernel_rfl) (by simp) ?_
          refine AllReadyH.cons (i := 17) (o := ⟨some 50, .call _, _, _, _, _⟩) rfl (fun K hK => ?_) AllReadyH.nil
          refine step_appK (by first | rfl | simp [Region.wanted, yielded]) (.tmp 33) (.tmp 49) 128 (by rfl) wF.heap.size 131 (.agg #[.int .i64 0, .slice none 0 0]) 2 32 (by omega) Tryd.underlying128 info_rd rfl (.slice A5 j c5) j _ (by rfl) (own_belowK O5.out ZB.out) (some ⟨wr.heap.size, 0, none⟩) 1 1 [.int .i64 fj, .slice qa qn qc] (by rfl) (.inr ⟨_, rfl, rfl, HNW.out⟩) (by intro u hu; simp at hu; rcases hu with rfl | rfl <;> rfl) (by omega) (by omega) (bt B5.out ZB.out).size ?_
          intro v7 w7 ho7 hg7
          rw [hHT.out] at ho7
          obtain ⟨A7, c7, rfl, _⟩ := own_srcK ho7
          have HO7 := Lib.hid ho7
          have HB7 := Lib.hid ((bt B5.out ZB.out).grown hg7 (bt B5.out ZB.out).size (fun g hg => (O5.out.lt g hg).1))
          have hH := HSX.out w7 HB7.out
          clear ho7 hg7
          refine hK.out _ _ hH (fun _ => ?_)
          clear hK K hHeld
          have hHeld := hH
          clear hH
          try simp only [Act.put, List.setIfInBounds_toArray, List.set_cons_zero, List.set_cons_succ]
          first | (refine skipH (i := 18) (dst := some 5) rfl rfl (by kernel_rfl) (by kernel_rfl) (by kernel_rfl) (fun _ _ _ h => h) (by rfl) hHeld ?_) | (refine' takeH (i := 18) (dst := some 5) (v := _) rfl rfl (by kernel_rfl) (by kernel_rfl) (by kernel_rfl) (fun _ _ _ h => h) (by rfl) ?hy hHeld ?_; case hy => (intro w hSw; clear hSw; (first | done | go_simp); try with_reducible rfl)) | fail
          try simp only [Act.put, List.setIfInBounds_toArray, List.set_cons_zero, List.set_cons_succ]
          refine wpAnyH_done (by kernel_rfl) (NoPanic.normal ?_) _
          clear hHeld
          go_wp2_with fail
          go_roundw
          case rel => exact ⟨j + 1, A7, c7, by omega, by go_num, rfl, HO7.out, HB7.out⟩
          case measure => simp [RowKit.intOf]; omega
        · obtain rfl : j = rn := by omega
          have HKR : Hid (∀ W, Below wr.heap.size wr W → Ro.RowsIn KR W A5 j (rts F (tabsI k)) (rrs F (tabsI k) RT)) := Lib.hid (fun W hW => by
            have ho := own_belowK O5.out hW
            rw [HRN.out, List.take_of_length_le (by rw [rts_len]; omega), List.take_of_length_le (by rw [rrs_len]; omega)] at ho
            rw [HRN.out]
            refine ⟨(rts_len _ _).symm, by rw [rts_len, rrs_len], own_cells ho, fun i hi => ?_⟩
            rw [rrs_at F (tabsI k) RT i hi, show KR.z = (0, []) from rfl, rts_at F (tabsI k) i hi]
            have h := rows_look (RTF.out.below (bt B5.out hW)).rows (fun i => (RTF.out.neat i).1) (F.reads.getD i ([], 0)).1
            exact ⟨h.1, h.2.1⟩)
          obtain ⟨wa, rfl⟩ : ∃ wa : World, wa = wr := ⟨_, rfl⟩
          have BA := Lib.hid B5.out
          clear O5 B5 hlj HRC
          have hF1 := HOK.out.1
          have hsm := tabsI_small k hk
          have HSM := Lib.hid (rts_small F (tabsI k) hsm)
          clear hsm
          go_wp2_with fail
          go_loopw [7, 8] (fun v7 v8 wz => ∃ (i : Nat) (A7 : Option Addr) (c7 : Nat), i ≤ F.len ∧ v8 = .int .i64 (i : Nat) ∧ v7 = .slice A7 i c7 ∧ wz.ownsRow wa.heap.size 2 1 (.slice A7 i c7) i (i64s ((row0 F (tabsI k)).take i)) ∧ Below wa.heap.size wa wz) (fun _ v8 _ => F.len - (RowKit.intOf v8).toNat)
          case atStart => exact ⟨0, none, 0, by omega, rfl, rfl, own_nilK wa _ _ _, Below.refl _ _⟩
          case round =>
            obtain ⟨i, A7, c7, hi, rfl, rfl, ho7, hb7⟩ := hrel
            have O7 := Lib.hid ho7
            have B7 := Lib.hid hb7
            clear ho7 hb7
            have x1 : wr.cell? ⟨bx, 1, none⟩ = some (.int .i64 (F.len : Int)) := HBC.out wr (bt BA.out B7.out) 1 _ rfl
            by_cases hli : i < F.len
            · have x2 : wr.cell? ⟨bx, 2, none⟩ = some (.int .i64 F.base) := HBC.out wr (bt BA.out B7.out) 2 _ rfl
              have x3 : wr.cell? ⟨bx, 3, none⟩ = some (.int .i64 F.step) := HBC.out wr (bt BA.out B7.out) 3 _ rfl
              have i1 : (0 : Int) ≤ (i : Int) := by omega
              have i2 : (i : Int) < (F.len : Int) := by omega
              have HEN := Lib.hid (Ka.refEntry_any A5 c5 j (i : Int) F.base F.step (rts F (tabsI k)) (rrs F (tabsI k) RT) wr (by omega) (by omega) (fun k => by have := HSM.out k; omega) (HKR.out wr B7.out))
              have HTS : Hid (i64s ((row0 F (tabsI k)).take i) ++ [.int .i64 (entV (i : Int) F.base F.step (rts F (tabsI k)))] = i64s ((row0 F (tabsI k)).take (i + 1))) := Lib.hid (by
                rw [takeS (row0 F (tabsI k)) 0 i (by rw [row0_len]; exact hli), row0_at F (tabsI k) i hli]
                exact i64s_snoc _ _)
              generalize entV (i : Int) F.base F.step (rts F (tabsI k)) = ev at HEN HTS
              go_wp2_with fail
              refine HEN.out.mono ?_
              rintro e y0 ⟨rfl, hby⟩
              have BY := Lib.hid (bt B7.out hby)
              have O7y := Lib.hid (own_belowK O7.out hby)
              clear hby HEN O7 B7 x1 x2 x3
              go_wp2_with (at_builtin; (refine wpList_append_srcK (o := ⟨some 66, _, _, _, _, _⟩) rfl (.tmp 57) (.tmp 65) 32 rfl wa.heap.size 2 (.int .i64 0) 1 8 (by omega) Tryd.underlying32 info_i64' rfl _ i (i64s ((row0 F (tabsI k)).take i)) rfl (own_belowK O7y.out (grows' y0 _)) _ 1 1 [.int .i64 ev] rfl (src_new y0 _ _) (by intro u hu; simp at hu; subst hu; rfl) (by omega) (by omega) (by have := BY.out.size; simp; omega) ?_); intro v3 w3 ho3 hg3; rw [HTS.out] at ho3; obtain ⟨A3, c3, rfl, _⟩ := own_srcK ho3; have HO3 := Lib.hid ho3; have HB3 := Lib.hid ((bal BY.out rfl _).grown hg3 (bal BY.out rfl _).size (fun g hg => (O7y.out.lt g hg).1)); clear ho3 hg3)
              go_roundw
              case rel => exact ⟨i + 1, A3, c3, by omega, by go_num, rfl, HO3.out, HB3.out⟩
              case measure => simp [RowKit.intOf]; omega
            · obtain rfl : i = F.len := by omega
              have O0 : Hid (wr.ownsRow wa.heap.size 2 1 (.slice A7 F.len c7) F.len (i64s (row0 F (tabsI k)))) := Lib.hid (by
                have h := O7.out
                rw [List.take_of_length_le (by rw [row0_len]; omega)] at h
                exact h)
              obtain ⟨g7, rfl, hg7, hg7'⟩ := own_shapeK O0.out (by have := HOK.out.2.1; omega)
              have BB := Lib.hid (bt BA.out B7.out)
              have hawr : wa.heap.size ≤ wr.heap.size := B7.out.size
              obtain ⟨wb, rfl⟩ : ∃ wb : World, wb = wr := ⟨_, rfl⟩
              clear O7 B7 hli HKR HSM hi
              generalize hFl : F.len = fl at *
              go_wp2_with fail
              clear x1
              generalize (((fl : Nat) : Int)) = fli
              go_loopw [9] (fun v9 wz => ∃ n : Nat, n ≤ 2 ∧ v9 = .int .i64 (n : Nat) ∧ wz.ownsRow wa.heap.size 2 1 (.slice (some ⟨g7, 0, none⟩) fl c7) fl (i64s (if n = 0 then row0 F (tabsI k) else if n = 1 then row1 F (tabsI k) else row2 F (tabsI k))) ∧ Below wF.heap.size wF wz) (fun v9 _ => 2 - (RowKit.intOf v9).toNat)
              case atStart => exact ⟨0, by omega, rfl, O0.out, BB.out⟩
              case round =>
                clear O0 BB
                obtain ⟨n, hn, rfl, ho, hb⟩ := hrel
                have OR := Lib.hid ho
                have BR := Lib.hid hb
                clear ho hb
                have hn3 : n = 0 ∨ n = 1 ∨ n = 2 := by omega
                rcases hn3 with rfl | rfl | rfl
                · rw [if_pos rfl] at OR
                  have x5 : wr.cell? ⟨bx, 5, none⟩ = some (.int .i64 (F.at0 : Int)) := HBC.out wr BR.out 5 _ rfl
                  have x7 : wr.cell? ⟨bx, 7, none⟩ = some (.int .i64 F.by0) := HBC.out wr BR.out 7 _ rfl
                  have x9 : wr.cell? ⟨bx, 9, none⟩ = some (.string ⟨#[]⟩) := by
                    have := HBC.out wr BR.out 9 _ rfl
                    rw [HOK.out.2.2.2.2.2.1] at this
                    exact this
                  have ha0 : F.at0 < fl := by have := HOK.out.2.2.1; omega
                  have HFL := Lib.hid hFl
                  clear hFl
                  have hrow : (row0 F (tabsI k)).set F.at0 (wrap64 ((row0 F (tabsI k)).getD F.at0 0 + F.by0)) = row1 F (tabsI k) := by
                    unfold row1 byG
                    rw [if_pos HOK.out.2.2.2.2.2.1]
                  have y1 : (0 : Int) ≤ (F.at0 : Int) := by omega
                  have y2 : (F.at0 : Int) < (fl : Int) := by omega
                  have c0 : wr.cell? ⟨g7, F.at0, none⟩ = some (.int .i64 ((row0 F (tabsI k)).getD F.at0 0)) := by
                    rw [OR.out.cellAt F.at0 (by omega)]
                    exact i64s_at _ _ (by rw [row0_len, HFL.out]; exact ha0)
                  have z0 := OR.out.frozenAt F.at0
                  have HST : Hid ((wr.setCell ⟨g7, F.at0, none⟩ (.int .i64 (wrap64 ((row0 F (tabsI k)).getD F.at0 0 + F.by0)))).drew.ownsRow wa.heap.size 2 1 (.slice (some ⟨g7, 0, none⟩) fl c7) fl (i64s (row1 F (tabsI k)))) := Lib.hid (by
                    rw [← hrow, ← i64s_set]
                    exact own_belowK (OR.out.stored F.at0 (.int .i64 (wrap64 ((row0 F (tabsI k)).getD F.at0 0 + F.by0)))).1 (below_dr (Below.refl _ _) 1))
                  have HBN : Hid (Below wF.heap.size wF (wr.setCell ⟨g7, F.at0, none⟩ (.int .i64 (wrap64 ((row0 F (tabsI k)).getD F.at0 0 + F.by0)))).drew) := Lib.hid (below_dr (BR.out.grown (set_grown wr ⟨g7, F.at0, none⟩ _) BR.out.size (fun q hq => by injection hq with hq; have h9 : g7 = q := hq; have := BA.out.size; omega)) 1)
                  clear hrow ha0 hn
                  rw [show ((0 : Nat) : Int) = (0 : Int) from rfl]
                  generalize (row0 F (tabsI k)).getD F.at0 0 = old at c0 HST HBN
                  go_upto_region 24 with (fail)
                  go_region
                  all_goals
                    go_wp2_with fail
                    go_roundw
                    case rel => exact ⟨1, by omega, rfl, (by rw [if_neg (by omega), if_pos rfl]; exact HST.out), HBN.out⟩
                    case measure => simp [RowKit.intOf]
                · rw [if_neg (by omega), if_pos rfl] at OR
                  have HFL := Lib.hid hFl
                  have ha0 : F.at1 < fl := by have := HOK.out.2.2.2.1; omega
                  clear hFl
                  have x6 : wr.cell? ⟨bx, 6, none⟩ = some (.int .i64 (F.at1 : Int)) := HBC.out wr BR.out 6 _ rfl
                  have x8 : wr.cell? ⟨bx, 8, none⟩ = some (.int .i64 F.by1) := HBC.out wr BR.out 8 _ rfl
                  have x10 : wr.cell? ⟨bx, 10, none⟩ = some (.string (str F.g1)) := HBC.out wr BR.out 10 _ rfl
                  by_cases hg1 : F.g1 = []
                  · rw [hg1] at x10
                    replace x10 : wr.cell? ⟨bx, 10, none⟩ = some (.string ⟨#[]⟩) := x10
                    have hrow : (row1 F (tabsI k)).set F.at1 (wrap64 ((row1 F (tabsI k)).getD F.at1 0 + F.by1)) = row2 F (tabsI k) := by
                      unfold row2 byG
                      rw [if_pos hg1]
                    clear hg1
                    have y1 : (0 : Int) ≤ (F.at1 : Int) := by omega
                    have y2 : (F.at1 : Int) < (fl : Int) := by omega
                    have c0 : wr.cell? ⟨g7, F.at1, none⟩ = some (.int .i64 ((row1 F (tabsI k)).getD F.at1 0)) := by
                      rw [OR.out.cellAt F.at1 (by omega)]
                      exact i64s_at _ _ (by rw [row1_len, HFL.out]; exact ha0)
                    have z0 := OR.out.frozenAt F.at1
                    have HST : Hid ((wr.setCell ⟨g7, F.at1, none⟩ (.int .i64 (wrap64 ((row1 F (tabsI k)).getD F.at1 0 + F.by1)))).drew.ownsRow wa.heap.size 2 1 (.slice (some ⟨g7, 0, none⟩) fl c7) fl (i64s (row2 F (tabsI k)))) := Lib.hid (by
                      rw [← hrow, ← i64s_set]
                      exact own_belowK (OR.out.stored F.at1 (.int .i64 (wrap64 ((row1 F (tabsI k)).getD F.at1 0 + F.by1)))).1 (below_dr (Below.refl _ _) 1))
                    have HBN : Hid (Below wF.heap.size wF (wr.setCell ⟨g7, F.at1, none⟩ (.int .i64 (wrap64 ((row1 F (tabsI k)).getD F.at1 0 + F.by1)))).drew) := Lib.hid (below_dr (BR.out.grown (set_grown wr ⟨g7, F.at1, none⟩ _) BR.out.size (fun q hq => by injection hq with hq; have h9 : g7 = q := hq; have := BA.out.size; omega)) 1)
                    clear hrow ha0 hn
                    rw [show ((1 : Nat) : Int) = (1 : Int) from rfl]
                    generalize (row1 F (tabsI k)).getD F.at1 0 = old at c0 HST HBN
                    go_upto_region 24 with (fail)
                    go_region
                    all_goals
                      go_wp2_with fail
                      go_roundw
                      case rel => exact ⟨2, by omega, rfl, (by rw [if_neg (by omega), if_neg (by omega)]; exact HST.out), HBN.out⟩
                      case measure => simp [RowKit.intOf]
                  · obtain ⟨hk2, hgc, hat⟩ := HOK.out.2.2.2.2.2.2.1 hg1
                    have hlk : lookT (tabsI k) crystalN = Rm.Ct.tab := by rw [hk2]; exact look2
                    have hrow : (row1 F (tabsI k)).set 19 (wrap64 ((row1 F (tabsI k)).getD 19 0 + wrap64 (F.by1 * Rm.Ct.tab.getD 19 0))) = row2 F (tabsI k) := by
                      unfold row2 byG
                      rw [if_neg hg1, hgc, hlk, hat]
                      rfl
                    rw [hgc] at x10
                    replace x10 : wr.cell? ⟨bx, 10, none⟩ = some (.string ⟨#[99, 114, 121, 115, 116, 97, 108]⟩) := x10
                    rw [hat] at x6 ha0
                    replace x6 : wr.cell? ⟨bx, 6, none⟩ = some (.int .i64 19) := x6
                    have hlr := rows_look (RTF.out.below BR.out).rows (fun i => (RTF.out.neat i).1) crystalN
                    rw [hlk] at hlr
                    have HTN : Hid (Calls Tryd.prog 55 #[.pointer (some ⟨w.heap.size, 0, none⟩), .string ⟨#[99, 114, 121, 115, 116, 97, 108]⟩] wr (TableRes (tabsI k) RT crystalN wr)) := Lib.hid (HTK.out crystalN wr BR.out)
                    unfold TableRes at HTN
                    clear hg1 hgc hat hlk hk2
                    generalize lookR (tabsI k) RT crystalN = lr at HTN hlr
                    obtain ⟨la, ln, lc⟩ := lr
                    obtain ⟨hl1, hl2, _⟩ := hlr
                    dsimp only at hl1 hl2
                    obtain rfl : ln = 32 := hl1
                    obtain ⟨lb, lo, rfl, _, hlc⟩ := hl2.at (by omega)
                    have l19 : wr.cell? ⟨lb, lo + 19, none⟩ = some (.int .i64 (Rm.Ct.tab.getD 19 0)) := hlc 19 _ (i64s_at _ 19 (by decide))
                    clear hlc hl2
                    simp only [slV] at HTN
                    have y2 : (19 : Int) < (fl : Int) := by omega
                    have c0 : wr.cell? ⟨g7, 19, none⟩ = some (.int .i64 ((row1 F (tabsI k)).getD 19 0)) := by
                      rw [OR.out.cellAt 19 (by omega)]
                      exact i64s_at _ _ (by rw [row1_len, HFL.out]; exact ha0)
                    have z0 := OR.out.frozenAt 19
                    have HST : Hid ((wr.setCell ⟨g7, 19, none⟩ (.int .i64 (wrap64 ((row1 F (tabsI k)).getD 19 0 + wrap64 (F.by1 * Rm.Ct.tab.getD 19 0))))).drew.ownsRow wa.heap.size 2 1 (.slice (some ⟨g7, 0, none⟩) fl c7) fl (i64s (row2 F (tabsI k)))) := Lib.hid (by
                      rw [← hrow, ← i64s_set]
                      exact own_belowK (OR.out.stored 19 (.int .i64 (wrap64 ((row1 F (tabsI k)).getD 19 0 + wrap64 (F.by1 * Rm.Ct.tab.getD 19 0))))).1 (below_dr (Below.refl _ _) 1))
                    have HBN : Hid (Below wF.heap.size wF (wr.setCell ⟨g7, 19, none⟩ (.int .i64 (wrap64 ((row1 F (tabsI k)).getD 19 0 + wrap64 (F.by1 * Rm.Ct.tab.getD 19 0))))).drew) := Lib.hid (below_dr (BR.out.grown (set_grown wr ⟨g7, 19, none⟩ _) BR.out.size (fun q hq => by injection hq with hq; have h9 : g7 = q := hq; have := BA.out.size; omega)) 1)
                    clear hrow ha0 hn
                    rw [show ((1 : Nat) : Int) = (1 : Int) from rfl]
                    generalize (row1 F (tabsI k)).getD 19 0 = old at c0 HST HBN
                    generalize Rm.Ct.tab.getD 19 0 = vv at l19 HST HBN
                    go_wp2_with fail
                    refine HTN.out.mono ?_
                    rintro e y0 ⟨rfl, hw⟩
                    rw [hw]
                    clear hw y0 HTN
                    go_upto_region 24 with (fail)
                    go_region
                    all_goals
                      go_wp2_with fail
                      go_roundw
                      case rel => exact ⟨2, by omega, rfl, (by rw [if_neg (by omega), if_neg (by omega)]; exact HST.out), HBN.out⟩
                      case measure => simp [RowKit.intOf]
                · rw [if_neg (by omega), if_neg (by omega)] at OR
                  have HFL := Lib.hid hFl
                  clear hFl
                  have hcn : cn = F.L.length := HAN.out
                  have hc6 : cn ≤ 6 := by rw [hcn]; exact HOK.out.2.2.2.2.2.2.2.2
                  have HCN := Lib.hid hcn
                  have hszF : w2.heap.size ≤ wF.heap.size := by omega
                  have HLTB : Hid (∀ i, i < RT.length → ∀ g, (rowV RT i).ownBlock = some g → g < wa.heap.size) := Lib.hid (fun i hi g hg => Nat.lt_of_lt_of_le ((RTF.out.2.2.2.1 i hi).2.lt g hg).2 BA.out.size)
                  have HI0 : Hid (∃ (c' f' : Sl) (RC' RF' : List Sl), Qat (slV tb) wr w.heap.size c' f' sl0 (stI (offK k)) (rfI (offK k)) RC' RF' [] false ∧ RowsOwn KT wr 0 tb.1 tb.2.1 tb.2.2 (tabsI k) RT ∧ (∀ x, (slV c').ownBlock = some x → w2.heap.size ≤ x) ∧ (∀ x, (slV f').ownBlock = some x → w2.heap.size ≤ x) ∧ wr.ownsRow wa.heap.size 2 1 (.slice (some ⟨g7, 0, none⟩) fl c7) fl (i64s (row2 F (tabsI k))) ∧ wr.heap[bx]? = some (.cells #[.string (str F.name), .int .i64 (fl : Int), .int .i64 F.base, .int .i64 F.step, .slice ra j rc, .int .i64 (F.at0 : Int), .int .i64 (F.at1 : Int), .int .i64 F.by0, .int .i64 F.by1, .string (str F.g0), .string (str F.g1), .slice ca cn cc] 76 (0, 0)) ∧ Kp w.heap.size (w.heap.size + 1) w2 wr ∧ wF.heap.size ≤ wr.heap.size) := Lib.hid
                    ⟨c, f, RC, RF, QF.out.below BR.out, RTF.out.below BR.out, FC.out, FF.out, OR.out, (BR.out.block bx hbx).trans BXF.out, KF.out.below BR.out, BR.out.size⟩
                  clear hcn OR QF RTF KF BXF BF HBC HTK BA BR
                  go_wp2_with fail
                  go_loopw [12] (fun v12 wz => ∃ i : Nat, i ≤ cn ∧ v12 = .int .i64 (i : Nat) ∧ ∃ (c' f' : Sl) (RC' RF' : List Sl), Qat (slV tb) wz w.heap.size c' f' sl0 (stI (offK k + i)) (rfI (offK k + i)) RC' RF' [] false ∧ RowsOwn KT wz 0 tb.1 tb.2.1 tb.2.2 (tabsI k) RT ∧ (∀ x, (slV c').ownBlock = some x → w2.heap.size ≤ x) ∧ (∀ x, (slV f').ownBlock = some x → w2.heap.size ≤ x) ∧ wz.ownsRow wa.heap.size 2 1 (.slice (some ⟨g7, 0, none⟩) fl c7) fl (i64s (row2 F (tabsI k))) ∧ wz.heap[bx]? = some (.cells #[.string (str F.name), .int .i64 (fl : Int), .int .i64 F.base, .int .i64 F.step, .slice ra j rc, .int .i64 (F.at0 : Int), .int .i64 (F.at1 : Int), .int .i64 F.by0, .int .i64 F.by1, .string (str F.g0), .string (str F.g1), .slice ca cn cc] 76 (0, 0)) ∧ Kp w.heap.size (w.heap.size + 1) w2 wz ∧ wF.heap.size ≤ wz.heap.size) (fun v12 _ => cn - (RowKit.intOf v12).toNat)
                  case atStart => exact ⟨0, by omega, rfl, HI0.out⟩
                  case round =>
                    clear HI0
                    obtain ⟨i, hi, rfl, c', f', RC', RF', hq, hrt, hfc, hff, ho, hbz, hkp, hzs⟩ := hrel
                    have QZ := Lib.hid hq
                    have RTZ := Lib.hid hrt
                    have FCZ := Lib.hid hfc
                    have FFZ := Lib.hid hff
                    have OZ := Lib.hid ho
                    have BXZ := Lib.hid hbz
                    have KZ := Lib.hid hkp
                    clear hq hrt hfc hff ho
                    have x11 : wr.cell? ⟨bx, 11, none⟩ = some (.slice ca cn cc) := by rw [Lib.cell_of_heap hbz 11]; rfl
                    have x0 : wr.cell? ⟨bx, 0, none⟩ = some (.string (str F.name)) := by rw [Lib.cell_of_heap hbz 0]; rfl
                    clear hbz
                    by_cases hli : i < cn
                    · have i1' : (0 : Int) ≤ (i : Int) := by omega
                      have i2' : (i : Int) < (cn : Int) := by omega
                      obtain ⟨RQ, hRQ, hNQ⟩ := HCD.out.1 wr hkp
                      obtain ⟨b, o, rfl, hbs, hc, hlen, hin⟩ := hRQ.at hli
                      have hb1 := HCD.out.2 _ rfl
                      have hb2 := HCD.out.size (by show 0 < cn; omega) _ rfl
                      dsimp only at hb1 hb2
                      have hLA := HLA.out i (by rw [← HCN.out]; exact hli)
                      have e0 : wr.cell? ⟨b, o + i * 7, none⟩ = some (.string (str (F.L.getD i cd0).name)) := hc 0 _ rfl
                      have e1 : wr.cell? ⟨b, o + i * 7 + 1, none⟩ = some (.string (str (F.L.getD i cd0).fam)) := hc 1 _ rfl
                      have e2 : wr.cell? ⟨b, o + i * 7 + 2, none⟩ = some (.int .u8 (F.L.getD i cd0).level) := hc 2 _ rfl
                      have e3 : wr.cell? ⟨b, o + i * 7 + 3, none⟩ = some (slV (RQ.getD i sl0)) := hc 3 _ rfl
                      have e4 : wr.cell? ⟨b, o + i * 7 + 4, none⟩ = some (.int .i8 (F.L.getD i cd0).score) := hc 4 _ rfl
                      have e5 : wr.cell? ⟨b, o + i * 7 + 5, none⟩ = some (.string (str (F.L.getD i cd0).quirk)) := hc 5 _ rfl
                      have e6 : wr.cell? ⟨b, o + i * 7 + 6, none⟩ = some (.int .i16 (F.L.getD i cd0).entry) := hc 6 _ rfl
                      have hNi := hNQ i
                      have hmm := mild_AL (offK k + i)
                      rw [hLA.1] at hmm
                      have HMM : Hid (MildC 1099511627776 (F.L.getD i cd0)) := Lib.hid ⟨Nat.le_trans hmm.1 (by decide), Nat.le_trans hmm.2.1 (by decide), Nat.le_trans hmm.2.2.1 (by decide), Nat.le_trans hmm.2.2.2.1 (by decide), fun k => Nat.le_trans (hmm.2.2.2.2 k) (by decide)⟩
                      have HNI := Lib.hid hNi
                      have HLN : Hid ((RQ.getD i sl0).2.1 = (F.L.getD i cd0).compat.length) := Lib.hid hlen
                      have HIN : Hid (CellsIn wr 1 (RQ.getD i sl0).1 (RQ.getD i sl0).2.1 (strs (F.L.getD i cd0).compat)) := Lib.hid hin
                      clear hc hbs hNQ hRQ hNi hlen hin hmm
                      have HSTEP := Lib.hid (fun L' G' er (h : ERel (stI (offK k + i)) (rfI (offK k + i)) false (F.L.getD i cd0) L' G' er) => erel_step (g := offK k + i) hLA.2 (by rw [hLA.1]; exact h))
                      clear hLA
                      generalize F.L.getD i cd0 = d at e0 e1 e2 e4 e5 e6 HMM HLN HIN HSTEP
                      generalize RQ.getD i sl0 = rq at e3 HNI HLN HIN
                      have HEN := Lib.hid (fun W (hW : Below wr.heap.size wr W) => rEnter_any (X := slV tb) d rq W (QZ.out.below hW) HMM.out HLN.out HNI.out (HIN.out.below hW))
                      obtain ⟨da, df, dl, dc, ds, dq, de⟩ := d
                      obtain ⟨qa, qn, qc⟩ := rq
                      unfold cardV cells7 at HEN
                      simp only [slV] at e3 HEN
                      dsimp only at e0 e1 e2 e4 e5 e6 HEN
                      have HSX : Hid ((fun w' : World => w'.cell? ⟨bx, 11, none⟩ = some (.slice (some ⟨b, o, none⟩) cn cc) ∧ w'.cell? ⟨b, o + i * 7, none⟩ = some (.string (str da)) ∧ w'.cell? ⟨b, o + i * 7 + 1, none⟩ = some (.string (str df)) ∧ w'.cell? ⟨b, o + i * 7 + 2, none⟩ = some (.int .u8 dl) ∧ w'.cell? ⟨b, o + i * 7 + 3, none⟩ = some (.slice qa qn qc) ∧ w'.cell? ⟨b, o + i * 7 + 4, none⟩ = some (.int .i8 ds) ∧ w'.cell? ⟨b, o + i * 7 + 5, none⟩ = some (.string (str dq)) ∧ w'.cell? ⟨b, o + i * 7 + 6, none⟩ = some (.int .i16 de)) wr) := Lib.hid ⟨x11, e0, e1, e2, e3, e4, e5, e6⟩
                      clear e0 e1 e2 e3 e4 e5 e6
                      have HSW := Lib.hid (fun W (h1 : W.heap[bx]? = wr.heap[bx]?) (h2 : W.heap[b]? = wr.heap[b]?) => show (fun w' : World => w'.cell? ⟨bx, 11, none⟩ = some (.slice (some ⟨b, o, none⟩) cn cc) ∧ w'.cell? ⟨b, o + i * 7, none⟩ = some (.string (str da)) ∧ w'.cell? ⟨b, o + i * 7 + 1, none⟩ = some (.string (str df)) ∧ w'.cell? ⟨b, o + i * 7 + 2, none⟩ = some (.int .u8 dl) ∧ w'.cell? ⟨b, o + i * 7 + 3, none⟩ = some (.slice qa qn qc) ∧ w'.cell? ⟨b, o + i * 7 + 4, none⟩ = some (.int .i8 ds) ∧ w'.cell? ⟨b, o + i * 7 + 5, none⟩ = some (.string (str dq)) ∧ w'.cell? ⟨b, o + i * 7 + 6, none⟩ = some (.int .i16 de)) W from
                        ⟨(World.cell?_of_block h1).trans HSX.out.1, (World.cell?_of_block h2).trans HSX.out.2.1, (World.cell?_of_block h2).trans HSX.out.2.2.1, (World.cell?_of_block h2).trans HSX.out.2.2.2.1, (World.cell?_of_block h2).trans HSX.out.2.2.2.2.1, (World.cell?_of_block h2).trans HSX.out.2.2.2.2.2.1, (World.cell?_of_block h2).trans HSX.out.2.2.2.2.2.2.1, (World.cell?_of_block h2).trans HSX.out.2.2.2.2.2.2.2⟩)
                      clear HSX
                      have hbxr : bx < wr.heap.size := by omega
                      have hbr : b < wr.heap.size := by omega
                      go_upto_region 28 with (fail)
                      have bd := below_dr (Below.refl wr.heap.size wr) 1
                      have BD := Lib.hid bd
                      refine wp_region_noPanic ?_
                      refine wp_region_held_drew (S := fun w' : World => w'.cell? ⟨bx, 11, none⟩ = some (.slice (some ⟨b, o, none⟩) cn cc) ∧ w'.cell? ⟨b, o + i * 7, none⟩ = some (.string (str da)) ∧ w'.cell? ⟨b, o + i * 7 + 1, none⟩ = some (.string (str df)) ∧ w'.cell? ⟨b, o + i * 7 + 2, none⟩ = some (.int .u8 dl) ∧ w'.cell? ⟨b, o + i * 7 + 3, none⟩ = some (.slice qa qn qc) ∧ w'.cell? ⟨b, o + i * 7 + 4, none⟩ = some (.int .i8 ds) ∧ w'.cell? ⟨b, o + i * 7 + 5, none⟩ = some (.string (str dq)) ∧ w'.cell? ⟨b, o + i * 7 + 6, none⟩ = some (.int .i16 de)) (by kernel_rfl) (HSW.out _ (bd.block bx hbxr) (bd.block b hbr)) (fun hHeld => ?_)
                      clear bd
                      first | (refine skipH (i := 0) (dst := some 120) rfl rfl (by kernel_rfl) (by kernel_rfl) (by kernel_rfl) (fun _ _ _ h => h) (by rfl) hHeld ?_) | (refine' takeH (i := 0) (dst := some 120) (v := _) rfl rfl (by kernel_rfl) (by kernel_rfl) (by kernel_rfl) (fun _ _ _ h => h) (by rfl) ?hy hHeld ?_; case hy => (intro w hSw; clear hSw; (first | done | go_simp); try with_reducible rfl)) | fail
                      try simp only [Act.put, List.setIfInBounds_toArray, List.set_cons_zero, List.set_cons_succ]
                      first | (refine skipH (i := 1) (dst := some 121) rfl rfl (by kernel_rfl) (by kernel_rfl) (by kernel_rfl) (fun _ _ _ h => h) (by rfl) hHeld ?_) | (refine' takeH (i := 1) (dst := some 121) (v := _) rfl rfl (by kernel_rfl) (by kernel_rfl) (by kernel_rfl) (fun _ _ _ h => h) (by rfl) ?hy hHeld ?_; case hy => (intro w hSw; clear hSw; (first | done | go_simp); try with_reducible rfl)) | fail
                      try simp only [Act.put, List.setIfInBounds_toArray, List.set_cons_zero, List.set_cons_succ]
                      first | (refine skipH (i := 2) (dst := some 122) rfl rfl (by kernel_rfl) (by kernel_rfl) (by kernel_rfl) (fun _ _ _ h => h) (by rfl) hHeld ?_) | (refine' takeH (i := 2) (dst := some 122) (v := _) rfl rfl (by kernel_rfl) (by kernel_rfl) (by kernel_rfl) (fun _ _ _ h => h) (by rfl) ?hy hHeld ?_; case hy => (intro w hSw; clear hSw; (first | done | go_simp); try with_reducible rfl)) | fail
                      try simp only [Act.put, List.setIfInBounds_toArray, List.set_cons_zero, List.set_cons_succ]
                      first | (refine skipH (i := 3) (dst := some 123) rfl rfl (by kernel_rfl) (by kernel_rfl) (by kernel_rfl) (fun _ _ _ h => h) (by rfl) hHeld ?_) | (refine' takeH (i := 3) (dst := some 123) (v := _) rfl rfl (by kernel_rfl) (by kernel_rfl) (by kernel_rfl) (fun _ _ _ h => h) (by rfl) ?hy hHeld ?_; case hy => (intro w hSw; clear hSw; (first | done | go_simp); try with_reducible rfl)) | fail
                      try simp only [Act.put, List.setIfInBounds_toArray, List.set_cons_zero, List.set_cons_succ]
                      first | (refine skipH (i := 4) (dst := some 124) rfl rfl (by kernel_rfl) (by kernel_rfl) (by kernel_rfl) (fun _ _ _ h => h) (by rfl) hHeld ?_) | (refine' takeH (i := 4) (dst := some 124) (v := _) rfl rfl (by kernel_rfl) (by kernel_rfl) (by kernel_rfl) (fun _ _ _ h => h) (by rfl) ?hy hHeld ?_; case hy => (intro w hSw; obtain ⟨_, _⟩ := hSw; (first | done | go_simp); try with_reducible rfl)) | fail
                      try simp only [Act.put, List.setIfInBounds_toArray, List.set_cons_zero, List.set_cons_succ]
                      first | (refine skipH (i := 5) (dst := some 125) rfl rfl (by kernel_rfl) (by kernel_rfl) (by kernel_rfl) (fun _ _ _ h => h) (by rfl) hHeld ?_) | (refine' takeH (i := 5) (dst := some 125) (v := _) rfl rfl (by kernel_rfl) (by kernel_rfl) (by kernel_rfl) (fun _ _ _ h => h) (by rfl) ?hy hHeld ?_; case hy => (intro w hSw; clear hSw; (first | done | go_simp); try with_reducible rfl)) | fail
                      try simp only [Act.put, List.setIfInBounds_toArray, List.set_cons_zero, List.set_cons_succ]
                      first | (refine skipH (i := 6) (dst := some 126) rfl rfl (by kernel_rfl) (by kernel_rfl) (by kernel_rfl) (fun _ _ _ h => h) (by rfl) hHeld ?_) | (refine' takeH (i := 6) (dst := some 126) (v := _) rfl rfl (by kernel_rfl) (by kernel_rfl) (by kernel_rfl) (fun _ _ _ h => h) (by rfl) ?hy hHeld ?_; case hy => (intro w hSw; clear hSw; (first | done | go_simp); try with_reducible rfl)) | fail
                      try simp only [Act.put, List.setIfInBounds_toArray, List.set_cons_zero, List.set_cons_succ]
                      first | (refine skipH (i := 7) (dst := some 127) rfl rfl (by kernel_rfl) (by kernel_rfl) (by kernel_rfl) (fun _ _ _ h => h) (by rfl) hHeld ?_) | (refine' takeH (i := 7) (dst := some 127) (v := _) rfl rfl (by kernel_rfl) (by kernel_rfl) (by kernel_rfl) (fun _ _ _ h => h) (by rfl) ?hy hHeld ?_; case hy => (intro w hSw; obtain ⟨_, _, _, _, _, _, _, _⟩ := hSw; (first | done | go_simp); try with_reducible rfl)) | fail
                      try simp only [Act.put, List.setIfInBounds_toArray, List.set_cons_zero, List.set_cons_succ]
                      refine wpAnyH_ready (rs := [8]) (by kernel_rfl) (by simp) ?_
                      refine AllReadyH.cons (i := 8) (o := ⟨some 128, .call _, _, _, _, _⟩) rfl (fun K hK => ?_) AllReadyH.nil
                      go_simp
                      refine (HEN.out _ BD.out).mono ?_
                      rintro e w5 ⟨L', G', er, c2, f2, RC2, RF2, rfl, hq2, hch, her, hfr1, hfr2⟩
                      obtain ⟨rfl, rfl⟩ := HSTEP.out _ _ _ her
                      have QD := QZ.out.below BD.out
                      have hbd : b < wr.heap.size := hbr
                      have HH := Lib.hid (HSW.out w5 ((hch.block bx (Nat.lt_of_lt_of_le hbxr BD.out.size) (box_notsq QD ((BD.out.block bx hbxr).trans BXZ.out) (by decide) (by decide))).trans (BD.out.block bx hbxr)) ((hch.block b (Nat.lt_of_lt_of_le hbr BD.out.size) (fun e => by
                        rcases e with e | e | e | e
                        · omega
                        · have := FCZ.out b e; omega
                        · have := FFZ.out b e; omega
                        · cases e)).trans (BD.out.block b hbr)))
                      have HRL : Hid (∃ (c' f' : Sl) (RC' RF' : List Sl), Qat (slV tb) w5 w.heap.size c' f' sl0 (stI (offK k + (i + 1))) (rfI (offK k + (i + 1))) RC' RF' [] false ∧ RowsOwn KT w5 0 tb.1 tb.2.1 tb.2.2 (tabsI k) RT ∧ (∀ x, (slV c').ownBlock = some x → w2.heap.size ≤ x) ∧ (∀ x, (slV f').ownBlock = some x → w2.heap.size ≤ x) ∧ w5.ownsRow wa.heap.size 2 1 (.slice (some ⟨g7, 0, none⟩) fl c7) fl (i64s (row2 F (tabsI k))) ∧ w5.heap[bx]? = some (.cells #[.string (str F.name), .int .i64 (fl : Int), .int .i64 F.base, .int .i64 F.step, .slice ra j rc, .int .i64 (F.at0 : Int), .int .i64 (F.at1 : Int), .int .i64 F.by0, .int .i64 F.by1, .string (str F.g0), .string (str F.g1), .slice (some ⟨b, o, none⟩) cn cc] 76 (0, 0)) ∧ Kp w.heap.size (w.heap.size + 1) w2 w5 ∧ wF.heap.size ≤ w5.heap.size) := Lib.hid
                        ⟨c2, f2, RC2, RF2, hq2, tabs_enter QD hch (RTZ.out.below BD.out), fresh_kp hfr1 (Nat.le_trans hszF (Nat.le_trans hzs BD.out.size)) FCZ.out, fresh_kp hfr2 (Nat.le_trans hszF (Nat.le_trans hzs BD.out.size)) FFZ.out, own_ch (own_belowK OZ.out BD.out) hch (not_sq QD (own_belowK OZ.out BD.out) (by decide) (by decide)), heap_ch hch ((BD.out.block bx hbxr).trans BXZ.out) (box_notsq QD ((BD.out.block bx hbxr).trans BXZ.out) (by decide) (by decide)), ch_kp hch (KZ.out.below BD.out) FCZ.out FFZ.out, Nat.le_trans hzs (Nat.le_trans BD.out.size hch.size)⟩
                      clear QD hq2 hch her hfr1 hfr2 HEN HSTEP
                      have hH := HH.out
                      refine hK.out _ _ hH (fun _ => ?_)
                      clear hK K hHeld
                      have hHeld := hH
                      clear hH
                      try simp only [Act.put, List.setIfInBounds_toArray, List.set_cons_zero, List.set_cons_succ]
                      refine wpAnyH_done (by kernel_rfl) (NoPanic.normal ?_) _
                      clear hHeld HSW
                      go_wp2_with fail
                      go_roundw
                      case rel =>
                        obtain ⟨⟨a1, a2, a3⟩, ⟨b1, b2, b3⟩, RC', RF', h1, h2⟩ := HRL.out
                        exact ⟨i + 1, by omega, by go_num, a1, a2, a3, b1, b2, b3, ⟨RC', RF', h1⟩, h2⟩
                      case measure => simp [RowKit.intOf]; omega
                    · obtain rfl : i = cn := by omega
                      obtain ⟨ta, tn, tc⟩ := tb
                      dsimp only at RTZ
                      have htn : tn = k := by
                        have h := RTZ.out.1
                        rw [tabsI_len] at h
                        exact h
                      have htn5 : tn ≤ 5 := by omega
                      clear htn
                      have bd := below_dr (Below.refl wr.heap.size wr) 1
                      have BD := Lib.hid bd
                      have HB1 := Lib.hid (bal bd rfl (.cells #[.string (str F.name), .slice (some ⟨g7, 0, none⟩) fl c7] 96))
                      have HNEW : Hid (∀ j u, [Value.string (str F.name), .slice (some ⟨g7, 0, none⟩) fl c7][j]? = some u → ((wr.drewN 1).alloc (.cells #[.string (str F.name), .slice (some ⟨g7, 0, none⟩) fl c7] 96)).cell? ((⟨wr.heap.size, 0, none⟩ : Addr).add j) = some u) := Lib.hid (fun j u hu => by
                        rw [Ro.add_plain, World.cell?_alloc_at _ _ _ _ (by simp), Nat.zero_add]
                        simpa using hu)
                      have c4b : (wr.drew.alloc (.cells #[.string (str F.name), .slice (some ⟨g7, 0, none⟩) fl c7] 96)).cell? ⟨w.heap.size, 4, none⟩ = some (.slice ta tn tc) := (HB1.out.cell (p := ⟨w.heap.size, 4, none⟩) QZ.out.lt).trans (QZ.out.cell (j := 4) rfl)
                      have c4c : (wr.alloc (.cells #[.string (str F.name), .slice (some ⟨g7, 0, none⟩) fl c7] 96)).cell? ⟨w.heap.size, 4, none⟩ = some (.slice ta tn tc) := c4b
                      have c4 := QZ.out.cell (j := 4) rfl
                      simp only [slV] at c4
                      have hbxr : bx < wr.heap.size := by omega
                      have hHb : (wr.drew.alloc (.cells #[.string (str F.name), .slice (some ⟨g7, 0, none⟩) fl c7] 96)).cell? ⟨bx, 0, none⟩ = some (.string (str F.name)) := (HB1.out.cell (p := ⟨bx, 0, none⟩) hbxr).trans x0
                      have hF0 : F.len = fl := HFL.out
                      have HNM : Hid (KT.rows (tabsI k) RT ++ [.string (str F.name), .slice (some ⟨g7, 0, none⟩) fl c7] = KT.rows (tabsI k) RT ++ KT.row ((F.name, row2 F (tabsI k)), (some ⟨g7, 0, none⟩, fl, c7))) := Lib.hid rfl
                      have HNX := Lib.hid (fun sa sc w' hg ho hf => sti_next (g := offK (k + 1)) (d := (F.name, row2 F (tabsI k))) (r := (some ⟨g7, 0, none⟩, fl, c7)) (b' := wa.heap.size) (sa := sa) (sc := sc) (w' := w') (by
                        have h := QZ.out
                        rw [HCN.out, ← HOF.out.1] at h
                        exact h) RTZ.out FCZ.out FFZ.out FT.out KZ.out HB1.out (by show fl = (row2 F (tabsI k)).length; rw [row2_len, hF0]) (own_belowK OZ.out HB1.out) HLTB.out hg ho hf HTB.out)
                      have HOWN := Lib.hid (own_belowK RTZ.out.2.1 HB1.out)
                      have HBB := Lib.hid (bd.cell (p := ⟨bx, 0, none⟩) hbxr)
                      clear hF0 bd
                      go_upto_region 29 with (fail)
                      refine wp_region_noPanic ?_
                      refine wp_region_held_drew (S := fun w' : World => w'.cell? ⟨bx, 0, none⟩ = some (.string (str F.name))) (by kernel_rfl) (HBB.out.trans x0) (fun hHeld => ?_)
                      first | (refine skipH (i := 0) (dst := some 129) rfl rfl (by kernel_rfl) (by kernel_rfl) (by kernel_rfl) (fun _ _ _ h => h) (by rfl) hHeld ?_) | (refine' takeH (i := 0) (dst := some 129) (v := _) rfl rfl (by kernel_rfl) (by kernel_rfl) (by kernel_rfl) (fun _ _ _ h => h) (by rfl) ?hy hHeld ?_; case hy => (intro w hSw; clear hSw; (first | done | go_simp); try with_reducible rfl)) | fail
                      try simp only [Act.put, List.setIfInBounds_toArray, List.set_cons_zero, List.set_cons_succ]
                      first | (refine skipH (i := 1) (dst := some 130) rfl rfl (by kernel_rfl) (by kernel_rfl) (by kernel_rfl) (fun _ _ _ h => h) (by rfl) hHeld ?_) | (refine' takeH (i := 1) (dst := some 130) (v := _) rfl rfl (by kernel_rfl) (by kernel_rfl) (by kernel_rfl) (fun _ _ _ h => h) (by rfl) ?hy hHeld ?_; case hy => (intro w hSw; clear hSw; (first | done | go_simp); try with_reducible rfl)) | fail
                      try simp only [Act.put, List.setIfInBounds_toArray, List.set_cons_zero, List.set_cons_succ]
                      first | (refine skipH (i := 2) (dst := some 131) rfl rfl (by kernel_rfl) (by kernel_rfl) (by kernel_rfl) (fun _ _ _ h => h) (by rfl) hHeld ?_) | (refine' takeH (i := 2) (dst := some 131) (v := _) rfl rfl (by kernel_rfl) (by kernel_rfl) (by kernel_rfl) (fun _ _ _ h => h) (by rfl) ?hy hHeld ?_; case hy => (intro w hSw; clear hSw; (first | done | go_simp); try with_reducible rfl)) | fail
                      try simp only [Act.put, List.setIfInBounds_toArray, List.set_cons_zero, List.set_cons_succ]
                      first | (refine skipH (i := 3) (dst := some 132) rfl rfl (by kernel_rfl) (by kernel_rfl) (by kernel_rfl) (fun _ _ _ h => h) (by rfl) hHeld ?_) | (refine' takeH (i := 3) (dst := some 132) (v := _) rfl rfl (by kernel_rfl) (by kernel_rfl) (by kernel_rfl) (fun _ _ _ h => h) (by rfl) ?hy hHeld ?_; case hy => (intro w hSw; clear hSw; (first | done | go_simp); try with_reducible rfl)) | fail
                      try simp only [Act.put, List.setIfInBounds_toArray, List.set_cons_zero, List.set_cons_succ]
                      first | (refine skipH (i := 5) (dst := some 134) rfl rfl (by kernel_rfl) (by kernel_rfl) (by kernel_rfl) (fun _ _ _ h => h) (by rfl) hHeld ?_) | (refine' takeH (i := 5) (dst := some 134) (v := _) rfl rfl (by kernel_rfl) (by kernel_rfl) (by kernel_rfl) (fun _ _ _ h => h) (by rfl) ?hy hHeld ?_; case hy => (intro w hSw; clear hSw; (first | done | go_simp); try with_reducible rfl)) | fail
                      try simp only [Act.put, List.setIfInBounds_toArray, List.set_cons_zero, List.set_cons_succ]
                      first | (refine skipH (i := 6) (dst := some 135) rfl rfl (by kernel_rfl) (by kernel_rfl) (by kernel_rfl) (fun _ _ _ h => h) (by rfl) hHeld ?_) | (refine' takeH (i := 6) (dst := some 135) (v := _) rfl rfl (by kernel_rfl) (by kernel_rfl) (by kernel_rfl) (fun _ _ _ h => h) (by rfl) ?hy hHeld ?_; case hy => (intro w hSw; obtain _hx := hSw; (first | done | go_simp); try with_reducible rfl)) | fail
                      try simp only [Act.put, List.setIfInBounds_toArray, List.set_cons_zero, List.set_cons_succ]
                      first | (refine skipH (i := 7) (dst := some 136) rfl rfl (by kernel_rfl) (by kernel_rfl) (by kernel_rfl) (fun _ _ _ h => h) (by rfl) hHeld ?_) | (refine' takeH (i := 7) (dst := some 136) (v := _) rfl rfl (by kernel_rfl) (by kernel_rfl) (by kernel_rfl) (fun _ _ _ h => h) (by rfl) ?hy hHeld ?_; case hy => (intro w hSw; clear hSw; (first | done | go_simp); try with_reducible rfl)) | fail
                      try simp only [Act.put, List.setIfInBounds_toArray, List.set_cons_zero, List.set_cons_succ]
                      first | (refine skipH (i := 8) (dst := some 137) rfl rfl (by kernel_rfl) (by kernel_rfl) (by kernel_rfl) (fun _ _ _ h => h) (by rfl) hHeld ?_) | (refine' takeH (i := 8) (dst := some 137) (v := _) rfl rfl (by kernel_rfl) (by kernel_rfl) (by kernel_rfl) (fun _ _ _ h => h) (by rfl) ?hy hHeld ?_; case hy => (intro w hSw; clear hSw; (first | done | go_simp); try with_reducible rfl)) | fail
                      try simp only [Act.put, List.setIfInBounds_toArray, List.set_cons_zero, List.set_cons_succ]
                      refine wpAnyH_ready (rs := [4, 9]) (by kernel_rfl) (by simp) ?_
                      refine AllReadyH.cons (i := 4) (o := ⟨some 133, .load _ _, _, _, _, _⟩) rfl (fun K hK => ?_) (AllReadyH.cons (i := 9) (o := ⟨some 138, .buildSlice _ _ _, _, _, _, _⟩) rfl (fun K hK => ?_) AllReadyH.nil)
                      · go_simp
                        refine hK.out _ _ hHeld (fun _ => ?_)
                        clear hK K
                        try simp only [Act.put, List.setIfInBounds_toArray, List.set_cons_zero, List.set_cons_succ]
                        refine wpAnyH_ready (rs := [9]) (by kernel_rfl) (by simp) ?_
                        refine AllReadyH.cons (i := 9) (o := ⟨some 138, .buildSlice _ _ _, _, _, _, _⟩) rfl (fun K hK => ?_) AllReadyH.nil
                        go_simp
                        refine hK.out _ _ hHb (fun _ => ?_)
                        clear hK K hHeld
                        have hHeld := hHb
                        try simp only [Act.put, List.setIfInBounds_toArray, List.set_cons_zero, List.set_cons_succ]
                        refine wpAnyH_ready (rs := [10]) (by kernel_rfl) (by simp) ?_
                        refine AllReadyH.cons (i := 10) (o := ⟨some 139, .call _, _, _, _, _⟩) rfl (fun K hK => ?_) AllReadyH.nil
                        refine step_apartK (by first | rfl | simp [Region.wanted, yielded]) (.tmp 133) (.tmp 138) 92 (by rfl) 0 96 (.agg #[.string ⟨#[]⟩, .slice none 0 0]) 2 40 (by omega) Tryd.underlying92 info_tb rfl (.slice ta tn tc) tn (KT.rows (tabsI k) RT) (by rfl) HOWN.out ⟨wr.heap.size, 0, none⟩ 1 1 [.string (str F.name), .slice (some ⟨g7, 0, none⟩) fl c7] (by rfl) (by omega) rfl HNEW.out (by intro u hu; simp at hu; rcases hu with rfl | rfl <;> rfl) (by omega) (by omega) (by simp) ?_
                        intro v' w' ho hg hf
                        have hgq : w'.heap[w.heap.size]? = some (.cells ⟨[slV c', slV f', slV sl0, .bool false, slV (ta, tn, tc)]⟩ 94 (0, 0)) := (hg.block w.heap.size (Nat.lt_of_lt_of_le QZ.out.lt HB1.out.size) (fun e => by
                          obtain ⟨_, _, h⟩ := own_type RTZ.out.2.1 e.symm
                          exact type_ne h QZ.out.blk (by decide) rfl)).trans ((HB1.out.block w.heap.size QZ.out.lt).trans QZ.out.blk)
                        have hH : w'.cell? ⟨bx, 0, none⟩ = some (.string (str F.name)) := (World.cell?_of_block (hg.block bx (Nat.lt_of_lt_of_le hbxr HB1.out.size) (fun e => by
                          obtain ⟨_, _, h⟩ := own_type RTZ.out.2.1 e.symm
                          exact type_ne h BXZ.out (by decide) rfl))).trans hHeld
                        refine hK.out _ _ hH (fun _ => ?_)
                        clear hK K hHeld
                        have hHeld := hH
                        try simp only [Act.put, List.setIfInBounds_toArray, List.set_cons_zero, List.set_cons_succ]
                        first | (refine skipH (i := 11) (dst := some 140) rfl rfl (by kernel_rfl) (by kernel_rfl) (by kernel_rfl) (fun _ _ _ h => h) (by rfl) hHeld ?_) | (refine' takeH (i := 11) (dst := some 140) (v := _) rfl rfl (by kernel_rfl) (by kernel_rfl) (by kernel_rfl) (fun _ _ _ h => h) (by rfl) ?hy hHeld ?_; case hy => (intro w hSw; clear hSw; (first | done | go_simp); try with_reducible rfl)) | fail
                        try simp only [Act.put, List.setIfInBounds_toArray, List.set_cons_zero, List.set_cons_succ]
                        first | (refine skipH (i := 12) (dst := some 141) rfl rfl (by kernel_rfl) (by kernel_rfl) (by kernel_rfl) (fun _ _ _ h => h) (by rfl) hHeld ?_) | (refine' takeH (i := 12) (dst := some 141) (v := _) rfl rfl (by kernel_rfl) (by kernel_rfl) (by kernel_rfl) (fun _ _ _ h => h) (by rfl) ?hy hHeld ?_; case hy => (intro w hSw; clear hSw; (first | done | go_simp); try with_reducible rfl)) | fail
                        try simp only [Act.put, List.setIfInBounds_toArray, List.set_cons_zero, List.set_cons_succ]
                        refine wpAnyH_ready (rs := [13]) (by kernel_rfl) (by simp) ?_
                        refine AllReadyH.cons (i := 13) (o := ⟨none, .store _ _ _, _, _, _, _⟩) rfl (fun K hK => ?_) AllReadyH.nil
                        have s2 : w'.cell? ⟨w.heap.size, 4, none⟩ = some (.slice ta tn tc) := by rw [Lib.cell_of_heap hgq 4]; rfl
                        have s3 : w'.frozen? ⟨w.heap.size, 4, none⟩ = false := Lib.frozen_of_heap hgq 4
                        obtain ⟨sa, sc, rfl, _, _⟩ := own_srcK ho
                        go_simp
                        have hH2 : (w'.setCell ⟨w.heap.size, 4, none⟩ (.slice sa (tn + 1) sc)).cell? ⟨bx, 0, none⟩ = some (.string (str F.name)) := by rw [World.cell?_setCell_other _ _ _ _ (by simp)]; exact hHeld
                        refine hK.out _ _ hH2 (fun _ => ?_)
                        clear hK K hHeld hH
                        refine wpAnyH_done (by kernel_rfl) (NoPanic.normal ?_) _
                        have HST := Lib.hid (HNX.out sa sc w' hg (by rw [← HNM.out]; exact ho) hf)
                        clear ho hg hf hgq s2 s3 hH2
                        go_wp2_with fail
                        go_roundw
                        case rel => exact ⟨k + 1, by omega, by go_num, HST.out⟩
                        case measure => simp [RowKit.intOf]; omega
                      · go_simp
                        refine hK.out _ _ hHb (fun _ => ?_)
                        clear hK K hHeld
                        have hHeld := hHb
                        try simp only [Act.put, List.setIfInBounds_toArray, List.set_cons_zero, List.set_cons_succ]
                        refine wpAnyH_ready (rs := [4]) (by kernel_rfl) (by simp) ?_
                        refine AllReadyH.cons (i := 4) (o := ⟨some 133, .load _ _, _, _, _, _⟩) rfl (fun K hK => ?_) AllReadyH.nil
                        go_simp
                        refine hK.out _ _ hHeld (fun _ => ?_)
                        clear hK K
                        try simp only [Act.put, List.setIfInBounds_toArray, List.set_cons_zero, List.set_cons_succ]
                        refine wpAnyH_ready (rs := [10]) (by kernel_rfl) (by simp) ?_
                        refine AllReadyH.cons (i := 10) (o := ⟨some 139, .call _, _, _, _, _⟩) rfl (fun K hK => ?_) AllReadyH.nil
                        refine step_apartK (by first | rfl | simp [Region.wanted, yielded]) (.tmp 133) (.tmp 138) 92 (by rfl) 0 96 (.agg #[.string ⟨#[]⟩, .slice none 0 0]) 2 40 (by omega) Tryd.underlying92 info_tb rfl (.slice ta tn tc) tn (KT.rows (tabsI k) RT) (by rfl) HOWN.out ⟨wr.heap.size, 0, none⟩ 1 1 [.string (str F.name), .slice (some ⟨g7, 0, none⟩) fl c7] (by rfl) (by omega) rfl HNEW.out (by intro u hu; simp at hu; rcases hu with rfl | rfl <;> rfl) (by omega) (by omega) (by simp) ?_
                        intro v' w' ho hg hf
                        have hgq : w'.heap[w.heap.size]? = some (.cells ⟨[slV c', slV f', slV sl0, .bool false, slV (ta, tn, tc)]⟩ 94 (0, 0)) := (hg.block w.heap.size (Nat.lt_of_lt_of_le QZ.out.lt HB1.out.size) (fun e => by
                          obtain ⟨_, _, h⟩ := own_type RTZ.out.2.1 e.symm
                          exact type_ne h QZ.out.blk (by decide) rfl)).trans ((HB1.out.block w.heap.size QZ.out.lt).trans QZ.out.blk)
                        have hH : w'.cell? ⟨bx, 0, none⟩ = some (.string (str F.name)) := (World.cell?_of_block (hg.block bx (Nat.lt_of_lt_of_le hbxr HB1.out.size) (fun e => by
                          obtain ⟨_, _, h⟩ := own_type RTZ.out.2.1 e.symm
                          exact type_ne h BXZ.out (by decide) rfl))).trans hHeld
                        refine hK.out _ _ hH (fun _ => ?_)
                        clear hK K hHeld
                        have hHeld := hH
                        try simp only [Act.put, List.setIfInBounds_toArray, List.set_cons_zero, List.set_cons_succ]
                        first | (refine skipH (i := 11) (dst := some 140) rfl rfl (by kernel_rfl) (by kernel_rfl) (by kernel_rfl) (fun _ _ _ h => h) (by rfl) hHeld ?_) | (refine' takeH (i := 11) (dst := some 140) (v := _) rfl rfl (by kernel_rfl) (by kernel_rfl) (by kernel_rfl) (fun _ _ _ h => h) (by rfl) ?hy hHeld ?_; case hy => (intro w hSw; clear hSw; (first | done | go_simp); try with_reducible rfl)) | fail
                        try simp only [Act.put, List.setIfInBounds_toArray, List.set_cons_zero, List.set_cons_succ]
                        first | (refine skipH (i := 12) (dst := some 141) rfl rfl (by kernel_rfl) (by kernel_rfl) (by kernel_rfl) (fun _ _ _ h => h) (by rfl) hHeld ?_) | (refine' takeH (i := 12) (dst := some 141) (v := _) rfl rfl (by kernel_rfl) (by kernel_rfl) (by kernel_rfl) (fun _ _ _ h => h) (by rfl) ?hy hHeld ?_; case hy => (intro w hSw; clear hSw; (first | done | go_simp); try with_reducible rfl)) | fail
                        try simp only [Act.put, List.setIfInBounds_toArray, List.set_cons_zero, List.set_cons_succ]
                        refine wpAnyH_ready (rs := [13]) (by kernel_rfl) (by simp) ?_
                        refine AllReadyH.cons (i := 13) (o := ⟨none, .store _ _ _, _, _, _, _⟩) rfl (fun K hK => ?_) AllReadyH.nil
                        have s2 : w'.cell? ⟨w.heap.size, 4, none⟩ = some (.slice ta tn tc) := by rw [Lib.cell_of_heap hgq 4]; rfl
                        have s3 : w'.frozen? ⟨w.heap.size, 4, none⟩ = false := Lib.frozen_of_heap hgq 4
                        obtain ⟨sa, sc, rfl, _, _⟩ := own_srcK ho
                        go_simp
                        have hH2 : (w'.setCell ⟨w.heap.size, 4, none⟩ (.slice sa (tn + 1) sc)).cell? ⟨bx, 0, none⟩ = some (.string (str F.name)) := by rw [World.cell?_setCell_other _ _ _ _ (by simp)]; exact hHeld
                        refine hK.out _ _ hH2 (fun _ => ?_)
                        clear hK K hHeld hH
                        refine wpAnyH_done (by kernel_rfl) (NoPanic.normal ?_) _
                        have HST := Lib.hid (HNX.out sa sc w' hg (by rw [← HNM.out]; exact ho) hf)
                        clear ho hg hf hgq s2 s3 hH2
                        go_wp2_with fail
                        go_roundw
                        case rel => exact ⟨k + 1, by omega, by go_num, HST.out⟩
                        case measure => simp [RowKit.intOf]; omega
    · obtain rfl : k = 5 := by omega
      have HFIN : Hid (StandsPost w (.returned (.pointer (some ⟨w.heap.size, 0, none⟩))) wr) := Lib.hid ⟨rfl, kp_below BW2.out HK.out, c, f, tb, RC, RF, RT, QA.out, RTB.out, fun x h => Nat.le_trans (Nat.le_of_lt hs2) (h.elim (FC.out x) (fun h => h.elim (FF.out x) (FT.out x)))⟩
      go_wp2_with fail
      go_ret
      exact HFIN.out
end Go.Proofs.YtnnaoneegeenkaaDoor.Kq
