/- The card of a name: the program's Find. -/
import Derived.Test.YtnnaoneegeenkaaDoorRlQ
import Derived.Deep.MidRow
import Derived.Laws.ResultCell
namespace Go.Proofs.YtnnaoneegeenkaaDoor.Kc
open Go.ChangeShapes Go.WideShapes Go.ChangeAt Go.RowKit Own Ro Go.Maps Go.WideMaps

theorem results_row_num {P : Program} {fn : Func} {p u : Tmp} {ty : TypeId} (h : fn.results = #[.cell p ty, .tmp u]) (tmps : Array Value) (w : World) (g : Nat) (cs : List Value) (d : TypeDesc)
    (hp : tmps.getD p undef = .pointer (some ⟨g, 0, none⟩)) (hc : w.rangeAt g 0 cs)
    (hu : P.underlying ty = some d) (hd : d.isRow = true) (hi : (P.info? ty).map (·.size) = some cs.length) :
    (results fn tmps).run P w = .ok (.tuple #[.agg cs.toArray, tmps.getD u undef]) w := by
  rw [results_cell_tmp h, hp]
  simp [asAddr, run_loadVar_mid w g 0 ty cs d hc hu hd hi, Result.andThen]
/-- A card that is found under a name, or none. -/
def FindRel (nm : List UInt8) (d : Cd) (er : Int) : Prop := (d ∈ SL ∧ d.name = nm ∧ er = 0) ∨ ((∀ x ∈ SL, x.name ≠ nm) ∧ d = cd0 ∧ er = 6)
def FindPost (nm : List UInt8) (w : World) (e : Ending) (w' : World) : Prop :=
  ∃ d r er, e = .returned (.tuple #[cardV d r, .int .i64 er]) ∧ FindRel nm d er ∧ r.2.1 = d.compat.length ∧ (∃ b, w.heap.size ≤ b ∧ w'.ownsRow b 9 1 (slV r) r.2.1 (strs d.compat)) ∧ Below w.heap.size w w'
/-- A card's box. -/
def BoxAt (g : Nat) (cs : List Value) (w : World) : Prop := w.ownsRow g 30 7 (.slice (some ⟨g, 0, none⟩) 1 1) 1 cs
theorem BoxAt.range {g : Nat} {cs : List Value} {w : World} (h : BoxAt g cs w) : w.rangeAt g 0 cs := fun j v hv => by
  have := World.ownsRow.cells h (g := g) rfl j v hv
  rwa [Ro.add_plain] at this
theorem box_made (w : World) (cs : Array Value) (h : cs.size = 7) : BoxAt w.heap.size cs.toList (w.alloc (.cells cs 30)) :=
  World.ownsRow_lit w cs 1 (Nat.le_refl _) (by unfold maxLen; omega) (by rw [h])
theorem set7L (x0 x1 x2 x3 x4 x5 x6 : Value) (vs : List Value) (h : vs.length = 7) : setL [x0, x1, x2, x3, x4, x5, x6] 0 vs = vs := by
  match vs, h with
  | [a, b, c, d, e, f, g], _ => rfl
theorem below_sets {y : World} {g : Nat} (hg : y.heap.size ≤ g) (vs : List Value) : ∀ {w : World} (o : Nat), Below y.heap.size y w → Below y.heap.size y (w.setCells g o vs) := by
  induction vs with
  | nil => intro w o h; exact h
  | cons v vs ih => intro w o h; exact ih (o + 1) (h.grown (set_grown w ⟨g, o, none⟩ v) h.size (fun k hk => by injection hk with hk; have hk2 : g = k := hk; omega))
theorem SLd : ∀ i < 22, ∀ j < 22, (SL.getD i cd0).name = (SL.getD j cd0).name → i = j := by decide +kernel
theorem SL_mem (k : Nat) (h : k < 22) : SL.getD k cd0 ∈ SL := by
  rw [List.getD_eq_getElem?_getD, List.getElem?_eq_getElem (by rw [SL_len]; exact h)]
  exact List.getElem_mem _
theorem SL_at {d : Cd} (h : d ∈ SL) : ∃ k, k < 22 ∧ SL.getD k cd0 = d := by
  obtain ⟨k, hk, he⟩ := List.getElem_of_mem h
  exact ⟨k, by rw [SL_len] at hk; exact hk, by rw [List.getD_eq_getElem?_getD, List.getElem?_eq_getElem hk]; exact he⟩
theorem SL_small : ∀ i < 22, (SL.getD i cd0).name.length ≤ 31 ∧ (SL.getD i cd0).fam.length ≤ 31 ∧ (SL.getD i cd0).quirk.length ≤ 31 ∧ 1 ≤ (SL.getD i cd0).compat.length ∧ (SL.getD i cd0).compat.length ≤ 2 ∧ ∀ j < 3, ((SL.getD i cd0).compat.getD j []).length ≤ 63 := by decide +kernel
theorem SL_ok : ∀ i < 22, CardOk (SL.getD i cd0) := by
  unfold CardOk TextsOk okText
  decide +kernel
theorem mild_SL (k : Nat) : MildC 63 (SL.getD k cd0) := by
  by_cases h : k < 22
  · exact mild_small (SL_small k h)
  · rw [out_len cd0 (by rw [SL_len]; omega)]
    exact mild_zero _
set_option maxRecDepth 100000 in
set_option maxHeartbeats 8000000 in
theorem rFind_any (nm : List UInt8) (w : World) : Calls Tryd.prog 15 #[.string (str nm)] w (FindPost nm w) := by
  have HC := Lib.hid rCards_any
  have BX := Lib.hid (box_made w #[.string ⟨#[]⟩, .string ⟨#[]⟩, .int .u8 0, .slice none 0 0, .int .i8 0, .string ⟨#[]⟩, .int .i16 0] rfl)
  have BB := Lib.hid (grows' w (.cells #[.string ⟨#[]⟩, .string ⟨#[]⟩, .int .u8 0, .slice none 0 0, .int .i8 0, .string ⟨#[]⟩, .int .i16 0] 30))
  have HQN := Lib.hid (fun k => eq_lists (SL.getD k cd0).name nm)
  generalize str nm = X at HQN ⊢
  go_enter Tryd.func15, Tryd.ntmps15
  go_wp2_with fail
  refine (HC.out _).mono ?_
  rintro e w1 ⟨A, c, R, rfl, hr, hb⟩
  have HR := Lib.hid hr
  have HB := Lib.hid (bt BB.out hb)
  have BX1 := Lib.hid (own_belowK BX.out hb)
  have hs1 : w.heap.size + 1 ≤ w1.heap.size := by have := hb.size; simpa using this
  clear hr hb BX BB HC
  go_wp2_with fail
  go_loopw [8] (fun v8 wr => ∃ k : Nat, k ≤ 22 ∧ v8 = .int .i64 (k : Nat) ∧ (∀ i, i < k → (SL.getD i cd0).name ≠ nm) ∧ Below w1.heap.size w1 wr) (fun v8 _ => 22 - (RowKit.intOf v8).toNat)
  case atStart => exact ⟨0, by omega, rfl, fun i hi => absurd hi (by omega), Below.refl _ _⟩
  case round =>
    obtain ⟨k, hk, rfl, hall, hbw⟩ := hrel
    have HALL := Lib.hid hall
    have HBW := Lib.hid hbw
    clear hall hbw
    by_cases hlt : k < 22
    · have k1 : (0 : Int) ≤ (k : Int) := by omega
      have k2 : (k : Int) < 22 := by omega
      obtain ⟨b, o, rfl, hbs, hc, hlen, hin⟩ := (HR.out.below HBW.out).rows.at hlt
      have e0 : wr.cell? ⟨b, o + k * 7, none⟩ = some (.string (str (SL.getD k cd0).name)) := hc 0 _ rfl
      have e1 : wr.cell? ⟨b, o + k * 7 + 1, none⟩ = some (.string (str (SL.getD k cd0).fam)) := hc 1 _ rfl
      have e2 : wr.cell? ⟨b, o + k * 7 + 2, none⟩ = some (.int .u8 (SL.getD k cd0).level) := hc 2 _ rfl
      have e3 : wr.cell? ⟨b, o + k * 7 + 3, none⟩ = some (slV (R.getD k sl0)) := hc 3 _ rfl
      have e4 : wr.cell? ⟨b, o + k * 7 + 4, none⟩ = some (.int .i8 (SL.getD k cd0).score) := hc 4 _ rfl
      have e5 : wr.cell? ⟨b, o + k * 7 + 5, none⟩ = some (.string (str (SL.getD k cd0).quirk)) := hc 5 _ rfl
      have e6 : wr.cell? ⟨b, o + k * 7 + 6, none⟩ = some (.int .i16 (SL.getD k cd0).entry) := hc 6 _ rfl
      have HI : Hid ((R.getD k sl0).2.1 = (SL.getD k cd0).compat.length ∧ wr.ownsRow (w.alloc (.cells #[.string ⟨#[]⟩, .string ⟨#[]⟩, .int .u8 0, .slice none 0 0, .int .i8 0, .string ⟨#[]⟩, .int .i16 0] 30)).heap.size 9 1 (slV (R.getD k sl0)) (R.getD k sl0).2.1 (strs (SL.getD k cd0).compat)) := Lib.hid ((HR.out.below HBW.out).2.2.2.1 k (by rw [HR.out.2.2.1, SL_len]; exact hlt))
      have q0 := HQN.out k
      have HM := Lib.hid (SL_mem k hlt)
      clear hc hlen hin hbs
      generalize hsd : SL.getD k cd0 = d at e0 e1 e2 e3 e4 e5 e6 HI q0 HM
      generalize R.getD k sl0 = r at e3 HI
      obtain ⟨ra, rn, rc⟩ := r
      obtain ⟨dn, df, dl, dc, ds, dq, de⟩ := d
      simp only [slV] at e3 HI
      dsimp only at e0 e1 e2 e4 e5 e6 HI q0
      have hd : (dn = nm) ∨ (dn ≠ nm) := Classical.em _
      have HSD := Lib.hid hsd
      clear hsd
      rcases hd with rfl | hne
      · rw [decide_eq_true rfl] at q0
        have HRL : Hid (FindRel dn ⟨dn, df, dl, dc, ds, dq, de⟩ 0) := Lib.hid (.inl ⟨HM.out, rfl, rfl⟩)
        have BX2 := Lib.hid (own_belowK BX1.out (HBW.out.alloc HBW.out.size (.cells #[.string (str dn), .string (str df), .int .u8 dl, .slice ra rn rc, .int .i8 ds, .string (str dq), .int .i16 de] 30)))
        have B2 := Lib.hid (bt HB.out (HBW.out.alloc HBW.out.size (.cells #[.string (str dn), .string (str df), .int .u8 dl, .slice ra rn rc, .int .i8 ds, .string (str dq), .int .i16 de] 30)))
        have HI2 := Lib.hid (own_belowK HI.out.2 (grows' wr (.cells #[.string (str dn), .string (str df), .int .u8 dl, .slice ra rn rc, .int .i8 ds, .string (str dq), .int .i16 de] 30)))
        generalize hD0 : str dn = D0 at e0 q0 BX2 B2 HI2
        have HD0 := Lib.hid hD0
        clear hD0
        have HTH := Lib.hid (there_own (g := w.heap.size) BX2.out 0 (by omega))
        go_wp2_with (refine wpList_store_mid (op := ⟨none, .store 30 (.tmp 2) (.tmp 16), _, _, _, _⟩) rfl 30 (.tmp 2) (.tmp 16) rfl w.heap.size 0 #[.string D0, .string (str df), .int .u8 dl, .slice ra rn rc, .int .i8 ds, .string (str dq), .int .i16 de] rfl rfl HTH.out (by kernel_rfl) (by kernel_rfl) ?_)
        have BX3 := own_sets [.string D0, .string (str df), .int .u8 dl, .slice ra rn rc, .int .i8 ds, .string (str dq), .int .i16 de] 0 BX2.out
        rw [set7L _ _ _ _ _ _ _ _ rfl] at BX3
        have hb0 := (HI.out.2.lt)
        have HI3 := own_setsNe [.string D0, .string (str df), .int .u8 dl, .slice ra rn rc, .int .i8 ds, .string (str dq), .int .i16 de] 0 HI2.out (g := w.heap.size) (fun e => by have := (hb0 _ e).1; simp at this; omega)
        have B3 := below_sets (Nat.le_refl _) [.string D0, .string (str df), .int .u8 dl, .slice ra rn rc, .int .i8 ds, .string (str dq), .int .i16 de] 0 B2.out
        refine bodyPost_ret (results_row_num rfl _ _ w.heap.size _ _ rfl (BoxAt.range BX3) Tryd.underlying30 (by kernel_rfl) (by kernel_rfl)) rfl ?_
        exact ⟨_, (ra, rn, rc), 0, by rw [← HD0.out]; rfl, HRL.out, HI.out.1, ⟨_, (grows' w _).size, HI3⟩, B3⟩
      · rw [decide_eq_false hne] at q0
        have HA2 : Hid (∀ i, i < k + 1 → (SL.getD i cd0).name ≠ nm) := Lib.hid (fun i hi => if hik : i = k then by rw [hik, HSD.out]; exact hne else HALL.out i (by omega))
        have B2 := Lib.hid (HBW.out.alloc HBW.out.size (.cells #[.string (str dn), .string (str df), .int .u8 dl, .slice ra rn rc, .int .i8 ds, .string (str dq), .int .i16 de] 30))
        clear hne
        generalize str dn = D0 at e0 q0 B2
        go_wp2_with fail
        go_roundw
        case rel => exact ⟨k + 1, by omega, by go_num, HA2.out, B2.out⟩
        case measure => simp [RowKit.intOf]; omega
    · obtain rfl : k = 22 := by omega
      have HRL : Hid (FindRel nm cd0 6) := Lib.hid (.inr ⟨fun x hx => by
        obtain ⟨i, hi, he⟩ := SL_at hx
        rw [← he]
        exact HALL.out i hi, rfl, rfl⟩)
      have BX2 := Lib.hid (own_belowK BX1.out HBW.out)
      have B2 := Lib.hid (bt HB.out HBW.out)
      have HTH := Lib.hid (there_own (g := w.heap.size) BX2.out 0 (by omega))
      clear HALL
      go_wp2_with (refine wpList_store_mid (op := ⟨none, .store 30 (.tmp 2) (.tmp 18), _, _, _, _⟩) rfl 30 (.tmp 2) (.tmp 18) rfl w.heap.size 0 #[.string ⟨#[]⟩, .string ⟨#[]⟩, .int .u8 0, .slice none 0 0, .int .i8 0, .string ⟨#[]⟩, .int .i16 0] rfl rfl HTH.out (by kernel_rfl) (by kernel_rfl) ?_)
      have BX3 := own_sets [.string ⟨#[]⟩, .string ⟨#[]⟩, .int .u8 0, .slice none 0 0, .int .i8 0, .string ⟨#[]⟩, .int .i16 0] 0 BX2.out
      rw [set7L _ _ _ _ _ _ _ _ rfl] at BX3
      have B3 := below_sets (Nat.le_refl _) [.string ⟨#[]⟩, .string ⟨#[]⟩, .int .u8 0, .slice none 0 0, .int .i8 0, .string ⟨#[]⟩, .int .i16 0] 0 B2.out
      refine bodyPost_ret (results_row_num rfl _ _ w.heap.size _ _ rfl (BoxAt.range BX3) Tryd.underlying30 (by kernel_rfl) (by kernel_rfl)) rfl ?_
      exact ⟨cd0, sl0, 6, rfl, HRL.out, rfl, ⟨w.heap.size, Nat.le_refl _, rfl, .inl ⟨rfl, rfl⟩⟩, B3⟩
end Go.Proofs.YtnnaoneegeenkaaDoor.Kc
