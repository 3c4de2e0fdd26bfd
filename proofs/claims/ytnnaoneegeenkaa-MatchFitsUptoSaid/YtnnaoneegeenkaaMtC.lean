/- Which card fits some texts: the program's Fit. -/
import Derived.Test.YtnnaoneegeenkaaMtB
import Derived.Laws.ResultCell
import Derived.Deep.WholeRow
namespace Go.Proofs.Ytnnaoneegeenkaa.Mt
open Go.ChangeShapes Go.WideShapes Go.ChangeAt Go.RowKit Own Ro Kc wordsNames Go.Maps Go.WideMaps

/-- Two cells of a block of one's own. -/
def there2 (w : World) (g : Nat) : Prop := w.there g 0 2
def cells2 (w : World) (g : Nat) (x y : Value) : Prop := w.cell? ⟨g, 0, none⟩ = some x ∧ w.cell? ⟨g, 1, none⟩ = some y
theorem there2_new (w : World) (x y : Value) (t : TypeId) : there2 (w.alloc (.cells #[x, y] t)) w.heap.size := fun j hj => by
  rw [Nat.zero_add]
  refine ⟨?_, World.frozen?_alloc_new w _ _ _⟩
  rw [World.cell?_alloc_at _ _ _ _ rfl]
  rcases j with _ | _ | j
  · rfl
  · rfl
  · omega
theorem cells2_new (w : World) (x y : Value) (t : TypeId) : cells2 (w.alloc (.cells #[x, y] t)) w.heap.size x y :=
  ⟨by rw [World.cell?_alloc_at _ _ _ _ rfl]; rfl, by rw [World.cell?_alloc_at _ _ _ _ rfl]; rfl⟩
theorem there2_below {w w' : World} {g : Nat} (h : there2 w g) (hb : Below w.heap.size w w') : there2 w' g := fun j hj => by
  obtain ⟨h1, h2⟩ := h j hj
  obtain ⟨u, hu⟩ := Option.isSome_iff_exists.1 h1
  have hlt := cell_lt hu
  exact ⟨by rw [hb.cell hlt]; exact h1, by rw [hb.frozen hlt]; exact h2⟩
theorem cells2_below {w w' : World} {g : Nat} {x y : Value} (h : cells2 w g x y) (hb : Below w.heap.size w w') : cells2 w' g x y :=
  ⟨by rw [hb.cell (cell_lt h.1)]; exact h.1, by rw [hb.cell (cell_lt h.2)]; exact h.2⟩
theorem there2_set {w : World} {g g' : Nat} (h : there2 w g) (x y : Value) : there2 ((w.setCell ⟨g', 0, none⟩ x).setCell ⟨g', 1, none⟩ y) g :=
  World.there_setCells h g' 0 [x, y]
theorem cells2_set {w : World} {g : Nat} (h : there2 w g) (x y : Value) : cells2 ((w.setCell ⟨g, 0, none⟩ x).setCell ⟨g, 1, none⟩ y) g x y := by
  have := World.rangeAt_setCells_same w g 0 [x, y] h
  exact ⟨this 0 x rfl, this 1 y rfl⟩
theorem there2_z {w : World} {g : Nat} (h : there2 w g) : (w.frozen? ⟨g, 0, none⟩ = false ∧ w.frozen? ⟨g, 1, none⟩ = false) ∧ ∃ x y, cells2 w g x y := by
  obtain ⟨h1, h2⟩ := h 0 (by omega)
  obtain ⟨h3, h4⟩ := h 1 (by omega)
  obtain ⟨u, hu⟩ := Option.isSome_iff_exists.1 h1
  obtain ⟨v, hv⟩ := Option.isSome_iff_exists.1 h3
  exact ⟨⟨h2, h4⟩, u, v, hu, hv⟩
/-- A result that is a row of a block of one's own, and a number. -/
theorem results_row_tmp {P : Program} {fn : Func} {p u : Tmp} {ty : TypeId} (h : fn.results = #[.cell p ty, .tmp u]) (tmps : Array Value) (w : World) (g : Nat) (cs : List Value) (d : TypeDesc)
    (hp : tmps.getD p undef = .pointer (some ⟨g, 0, none⟩)) (hc : w.rangeAt g 0 cs)
    (hu : P.underlying ty = some d) (hd : d.isRow = true) (hi : (P.info? ty).map (·.size) = some cs.length) :
    (results fn tmps).run P w = .ok (.tuple #[.agg cs.toArray, tmps.getD u undef]) w := by
  rw [results_cell_tmp h, hp]
  simp [asAddr, run_loadVar_mid w g 0 ty cs d hc hu hd hi, Result.andThen]
theorem cells2_range {w : World} {g : Nat} {x y : Value} (h : cells2 w g x y) : w.rangeAt g 0 [x, y] := fun j v hv => by
  rcases j with _ | _ | j
  · injection hv with hv; subst hv; exact h.1
  · injection hv with hv; subst hv; exact h.2
  · simp at hv
/-- What a closure of the cards' texts knows: a cell that holds the map. -/
def Knows (W : World) (g p sz : Nat) (D : DataW Value) : Prop := W.cell? ⟨p, 0, none⟩ = some (.map (some g)) ∧ p < W.heap.size ∧ W.ownsMap Try.prog 9 rdH g sz D
theorem Knows.below {W V : World} {g p sz : Nat} {D : DataW Value} (h : Knows W g p sz D) (hb : Below W.heap.size W V) : Knows V g p sz D := ⟨(hb.cell (p := ⟨p, 0, none⟩) h.2.1).trans h.1, Nat.lt_of_lt_of_le h.2.1 hb.size, map_belowH h.2.2 hb⟩
/-- The first text that a card names, and that card. -/
def FitsR (f : Tx → Option Nat) (ls : List Tx) (cd tx : Int) : Prop :=
  ((∀ j, j < ls.length → f (ls.getD j []) = none) ∧ cd = -1 ∧ tx = 0) ∨ ∃ j k : Nat, j < ls.length ∧ (∀ i, i < j → f (ls.getD i []) = none) ∧ f (ls.getD j []) = some k ∧ cd = k ∧ tx = j
theorem fitsR_one {f : Tx → Option Nat} {ls : List Tx} {a b c d : Int} (h : FitsR f ls a b) (h' : FitsR f ls c d) : a = c ∧ b = d := by
  rcases h with ⟨h1, rfl, rfl⟩ | ⟨j, k, h1, h2, h3, rfl, rfl⟩ <;> rcases h' with ⟨g1, rfl, rfl⟩ | ⟨j', k', g1, g2, g3, rfl, rfl⟩
  · exact ⟨rfl, rfl⟩
  · rw [h1 j' g1] at g3; cases g3
  · rw [g1 j h1] at h3; cases h3
  · rcases Nat.lt_trichotomy j j' with h | h | h
    · rw [g2 j h] at h3; cases h3
    · subst h
      rw [h3] at g3
      cases g3
      exact ⟨rfl, rfl⟩
    · rw [h2 j' h] at g3; cases g3
theorem fitsR_ex (f : Tx → Option Nat) (ls : List Tx) : ∃ c t, FitsR f ls c t := by
  have key : ∀ n, n ≤ ls.length → (∀ j, j < n → f (ls.getD j []) = none) ∨ ∃ j k : Nat, j < n ∧ (∀ i, i < j → f (ls.getD i []) = none) ∧ f (ls.getD j []) = some k := by
    intro n
    induction n with
    | zero => exact fun _ => .inl fun j hj => absurd hj (Nat.not_lt_zero j)
    | succ n ih =>
      intro hn
      rcases ih (by omega) with h | ⟨j, k, h1, h2, h3⟩
      · cases hf : f (ls.getD n []) with
        | none =>
          refine .inl fun j hj => ?_
          by_cases hjn : j = n
          · rw [hjn]; exact hf
          · exact h j (by omega)
        | some k => exact .inr ⟨n, k, by omega, h, hf⟩
      · exact .inr ⟨j, k, by omega, h2, h3⟩
  rcases key ls.length (Nat.le_refl _) with h | ⟨j, k, h1, h2, h3⟩
  · exact ⟨-1, 0, .inl ⟨h, rfl, rfl⟩⟩
  · exact ⟨k, j, .inr ⟨j, k, h1, h2, h3, rfl, rfl⟩⟩
set_option maxRecDepth 100000 in
set_option maxHeartbeats 16000000 in
theorem fits_any (A : Option Addr) (c n g p sz : Nat) (ls : List Tx) (D : DataW Value) (f : Tx → Option Nat) (cd tx : Int) (w : World) (hk : Knows w g p sz D) (hv : View D f) (hn : n = ls.length) (hnb : n ≤ 1099511627776) (hm : ∀ j, (ls.getD j []).length ≤ maxLen) (hA : CellsIn w 1 A n (Kc.strs ls)) (hr : FitsR f ls cd tx) :
    Calls Try.prog 23 #[.slice A n c, .pointer (some ⟨p, 0, none⟩)] w fun e w' => e = .returned (.agg #[.int .i64 cd, .int .i64 tx]) ∧ Below w.heap.size w w' := by
  have HK := Lib.hid hk
  have HV := Lib.hid hv
  have HN := Lib.hid hn
  have HM := Lib.hid hm
  have GA := Lib.hid hA
  have HR := Lib.hid hr
  clear hk hv hn hm hA hr
  go_enter Try.func23, Try.ntmps23
  go_wp2_with fail
  go_loopw [10] (fun v10 wr => ∃ j : Nat, j ≤ n ∧ v10 = .int .i64 (j : Nat) ∧ (∀ i, i < j → f (ls.getD i []) = none) ∧ wr = w.alloc (.cells #[.int .i64 0, .int .i64 0] 30)) (fun v10 _ => n - (RowKit.intOf v10).toNat)
  case atStart => exact ⟨0, by omega, rfl, fun i hi => absurd hi (Nat.not_lt_zero i), rfl⟩
  case round =>
    obtain ⟨j, hj, rfl, hpre, rfl⟩ := hrel
    have HP := Lib.hid hpre
    clear hpre
    by_cases hlt : j < n
    · have j1 : (0 : Int) ≤ (j : Int) := by omega
      have j2 : (j : Int) < (n : Int) := by omega
      have G1 := Lib.hid (grows' w (.cells #[.int .i64 0, .int .i64 0] 30))
      obtain ⟨tb, to_, rfl, htb, htc⟩ := GA.out.at (by omega)
      have et : (w.alloc (.cells #[.int .i64 0, .int .i64 0] 30)).cell? ⟨tb, to_ + j, none⟩ = some (.string (str (ls.getD j []))) := (G1.out.cell (p := ⟨tb, to_ + j, none⟩) htb).trans (htc j _ (strs_at ls j (by rw [← HN.out]; exact hlt)))
      have ep := (G1.out.cell (p := ⟨p, 0, none⟩) HK.out.2.1).trans HK.out.1
      have MB := Lib.hid (map_belowH HK.out.2.2 G1.out)
      have HKEY := Lib.hid (show keyOf Try.prog 9 (.string (str (ls.getD j []))) = some (.string (ls.getD j [])) from keyOf_string_mk Try.underlying9 (by rw [str_size]; exact HM.out j))
      have HVX := Lib.hid (HV.out.2 (ls.getD j []))
      have HFX := Lib.hid (show f (ls.getD j []) = f (ls.getD j []) from rfl)
      clear htc
      generalize hx : ls.getD j [] = x at et HKEY HVX
      have HX := Lib.hid hx
      clear hx HFX
      generalize hs : str x = S at et HKEY
      clear hs
      cases hf : f x with
      | none =>
        have HAT := Lib.hid (HVX.out.2.2 hf)
        have HAS := Lib.hid (show Maps.has D (.string x) = false from by rw [HVX.out.1, hf]; rfl)
        have HF := Lib.hid hf
        clear hf HVX
        go_wp2_with (at_lookup; refine wpList_lookup_rd _ rfl _ _ 58 rfl 9 3 nameLaw Try.underlying58 (zeroI _) g sz D rfl MB.out _ _ rfl HKEY.out _ _ HAT.out HAS.out ?_)
        go_roundw
        case rel =>
          refine ⟨j + 1, by omega, by go_num, fun i hi => ?_, trivial⟩
          by_cases hij : i = j
          · rw [hij, HX.out]; exact HF.out
          · exact HP.out i (by omega)
        case measure => simp [RowKit.intOf]; omega
      | some k =>
        have HAT := Lib.hid (HVX.out.2.1 k hf)
        have HAS := Lib.hid (show Maps.has D (.string x) = true from by rw [HVX.out.1, hf]; rfl)
        have HRR := Lib.hid (fitsR_one HR.out (.inr ⟨j, k, by rw [← HN.out]; exact hlt, HP.out, by rw [HX.out]; exact hf, rfl, rfl⟩))
        clear hf HVX
        go_wp2_with (at_lookup; refine wpList_lookup_rd _ rfl _ _ 58 rfl 9 3 nameLaw Try.underlying58 (zeroI _) g sz D rfl MB.out _ _ rfl HKEY.out _ _ HAT.out HAS.out ?_)
        refine bodyPost_ret (results_cell_row rfl _ _ w.heap.size 30 #[.int .i64 (k : Nat), .int .i64 (j : Nat)] (0, 0) _ rfl (heap_alloc_last w _) Try.underlying30 rfl (by kernel_rfl)) rfl ?_
        exact ⟨by rw [HRR.out.1, HRR.out.2], grows' w _⟩
    · have HJ := Lib.hid (show j = n by omega)
      have zj : ¬ (j : Int) < (n : Int) := by omega
      have HRR := Lib.hid (fitsR_one HR.out (.inl ⟨fun i hi => HP.out i (by rw [HJ.out, HN.out]; exact hi), rfl, rfl⟩))
      go_wp2_with fail
      refine bodyPost_ret (results_cell_row rfl _ _ w.heap.size 30 #[.int .i64 (-1), .int .i64 0] (0, 0) _ rfl (heap_alloc_last w _) Try.underlying30 rfl (by kernel_rfl)) rfl ?_
      exact ⟨by rw [HRR.out.1, HRR.out.2], grows' w _⟩
theorem zeroMap (w : World) : (zeroValue 58).run Try.prog w = .ok (.map none) w := by kernel_rfl
set_option maxRecDepth 100000 in
set_option maxHeartbeats 8000000 in
theorem fitter_any (A : Option Addr) (c n : Nat) (L : List Cd) (R : List Sl) (w : World) (hok : AllOk L) (hs : Ro.RowsIn KC w A n L R) :
    Calls Try.prog 15 #[.slice A n c] w fun e w' => ∃ (p sz : Nat) (D : DataW Value), e = .returned (.func (.func 23) #[] #[.pointer (some ⟨p, 0, none⟩)]) ∧ Knows w' w.heap.size p sz D ∧ View D (best L L.length) ∧ Below w.heap.size w w' := by
  have HC := Lib.hid (closest_any A c n L R w hok hs)
  clear hok hs
  unfold ClosestPost at HC
  go_enter Try.func15, Try.ntmps15
  go_wp2_with fail
  refine HC.out.mono ?_
  rintro e w1 ⟨D, sz, rfl, hm, hz, hv, hg, hb⟩
  have HM := Lib.hid hm
  have HV := Lib.hid hv
  have HB := Lib.hid hb
  clear hm hv hb HC hz hg
  go_wp2_with fail
  go_ret
  have hb2 := grows' w1 (.cells #[.map (some w.heap.size)] 58)
  exact ⟨w1.heap.size, sz, D, rfl, ⟨by rw [World.cell?_alloc_at _ _ _ _ rfl]; rfl, by simp, map_belowH HM.out hb2⟩, HV.out, bt HB.out hb2⟩
/-- What Fit answers. -/
def FitRel (L : List Cd) (ls : List Tx) (cd tx er : Int) : Prop :=
  (¬ AllOk L ∧ cd = 0 ∧ tx = 0 ∧ er = 70) ∨ (AllOk L ∧ FitsR (best L L.length) ls (-1) 0 ∧ cd = 0 ∧ tx = 0 ∧ er = 6) ∨ (AllOk L ∧ FitsR (best L L.length) ls cd tx ∧ 0 ≤ cd ∧ er = 0)
theorem fitRel_ex (L : List Cd) (ls : List Tx) : ∃ c t e, FitRel L ls c t e := by
  by_cases h : AllOk L
  · obtain ⟨c, t, hf⟩ := fitsR_ex (best L L.length) ls
    rcases hf with ⟨h1, rfl, rfl⟩ | ⟨j, k, h1, h2, h3, rfl, rfl⟩
    · exact ⟨0, 0, 6, .inr (.inl ⟨h, .inl ⟨h1, rfl, rfl⟩, rfl, rfl, rfl⟩)⟩
    · exact ⟨k, j, 0, .inr (.inr ⟨h, .inr ⟨j, k, h1, h2, h3, rfl, rfl⟩, by omega, rfl⟩)⟩
  · exact ⟨0, 0, 70, .inl ⟨h, rfl, rfl, rfl⟩⟩
theorem heg87 : ∀ args W, (callFunc 23 args).run Try.prog W = .ok (.enter 23 args) W := enters_of Try.func23 (by kernel_rfl) rfl
set_option maxRecDepth 100000 in
set_option maxHeartbeats 16000000 in
theorem fit_any (A B : Option Addr) (c n d m : Nat) (L : List Cd) (R : List Sl) (ls : List Tx) (cd tx er : Int) (w : World) (hf : FitRel L ls cd tx er) (hm : MildL 1099511627776 L) (hcap : ∀ k, (R.getD k sl0).2.1 ≤ (R.getD k sl0).2.2) (hs : Ro.RowsIn KC w A n L R)
    (hmn : m = ls.length) (hmb : m ≤ 1099511627776) (hml : ∀ j, (ls.getD j []).length ≤ maxLen) (hB : CellsIn w 1 B m (Kc.strs ls)) :
    Calls Try.prog 7 #[.slice A n c, .slice B m d] w fun e w' => e = .returned (.tuple #[.agg #[.int .i64 cd, .int .i64 tx], .int .i64 er]) ∧ Below w.heap.size w w' := by
  have G1 := grows' w (.cells #[.int .i64 0, .int .i64 0] 30)
  obtain ⟨at0, er0, hC⟩ := chkC_ex L
  have HCK := Lib.hid (check_any A c n L R at0 er0 _ hC hm hcap (hs.below G1))
  have HS := Lib.hid (fun W (hW : Below w.heap.size w W) => hs.below hW)
  have HB := Lib.hid (fun W (hW : Below w.heap.size w W) => hB.below hW)
  have HT := Lib.hid (there2_new w (.int .i64 0) (.int .i64 0) 30)
  have HGT := Lib.hid G1
  have HML := Lib.hid hml
  have HMN := Lib.hid hmn
  have heg := heg87
  have hlt : w.heap.size < (w.alloc (.cells #[.int .i64 0, .int .i64 0] 30)).heap.size := by simp
  clear hm hcap hs hml hB G1 hmn
  rcases hC with ⟨hi, hbad, _, rfl⟩ | ⟨hall, rfl, rfl⟩
  · have hno : ¬ AllOk L := fun h => hbad (h at0 hi)
    have HR : Hid (cd = 0 ∧ tx = 0 ∧ er = 70) := Lib.hid (by
      rcases hf with ⟨_, h⟩ | ⟨h, _⟩ | ⟨h, _⟩
      · exact h
      · exact absurd h hno
      · exact absurd h hno)
    clear hf hno hbad
    go_enter Try.func7, Try.ntmps7
    go_upto_region 1 with (fail)
    generalize hw1 : w.alloc (.cells #[.int .i64 0, .int .i64 0] 30) = w1 at *
    go_wp2_with fail
    refine HCK.out.mono ?_
    rintro e w2 ⟨rfl, hb2⟩
    have B2 := Lib.hid (bt HGT.out hb2)
    have T2 := Lib.hid (there2_below HT.out hb2)
    clear hb2 HCK HGT HT hlt
    generalize hbe : w.heap.size = bx at *
    obtain ⟨⟨z0, z1⟩, u0, u1, y0, y1⟩ := there2_z T2.out
    go_wp2_with fail
    have HQ := Lib.hid (cells2_set T2.out (.int .i64 0) (.int .i64 0))
    have HB9 := Lib.hid ((B2.out.setCell (Nat.le_refl _) (p := ⟨bx, 0, none⟩) (.int .i64 0)).setCell (Nat.le_refl _) (p := ⟨bx, 1, none⟩) (.int .i64 0))
    refine bodyPost_ret (results_row_tmp rfl _ _ bx [.int .i64 0, .int .i64 0] _ rfl (cells2_range HQ.out) Try.underlying30 (by kernel_rfl) (by kernel_rfl)) rfl ?_
    exact ⟨by rw [HR.out.1, HR.out.2.1, HR.out.2.2]; rfl, hbe ▸ HB9.out⟩
  · have hok : AllOk L := fun k hk => hall k hk
    have HOK := Lib.hid hok
    have HF : Hid ((FitsR (best L L.length) ls (-1) 0 ∧ cd = 0 ∧ tx = 0 ∧ er = 6) ∨ (FitsR (best L L.length) ls cd tx ∧ 0 ≤ cd ∧ er = 0)) := Lib.hid (by
      rcases hf with ⟨h, _⟩ | ⟨_, h⟩ | ⟨_, h⟩
      · exact absurd hok h
      · exact .inl h
      · exact .inr h)
    clear hf hok hall
    go_enter Try.func7, Try.ntmps7
    go_upto_region 1 with (fail)
    generalize hw1 : w.alloc (.cells #[.int .i64 0, .int .i64 0] 30) = w1 at *
    go_wp2_with fail
    refine HCK.out.mono ?_
    rintro e w2 ⟨rfl, hb2⟩
    have B2 := Lib.hid (bt HGT.out hb2)
    have T2 := Lib.hid (there2_below HT.out hb2)
    have HFI := Lib.hid (fitter_any A c n L R w2 HOK.out (HS.out w2 B2.out))
    clear hb2 HCK HGT HT hlt
    generalize hbe : w.heap.size = bx at *
    have HBE := Lib.hid hbe
    clear hbe
    go_wp2_with fail
    refine HFI.out.mono ?_
    rintro e w3 ⟨p, sz, D, rfl, hkn, hvw, hb3⟩
    have T3 := Lib.hid (there2_below T2.out hb3)
    have B3 := Lib.hid (bt (HBE.out ▸ B2.out) hb3)
    have HFA := Lib.hid (fun c9 t9 hr => fits_any B d m w2.heap.size p sz ls D (best L L.length) c9 t9 w3 hkn hvw HMN.out hmb HML.out (HB.out w3 (HBE.out ▸ B3.out)) hr)
    clear hkn hvw hb3 HFI T2 B2
    rcases HF.out with ⟨hfr, rfl, rfl, rfl⟩ | ⟨hfr, hge, rfl⟩
    · have HFB := Lib.hid (HFA.out (-1) 0 hfr)
      clear hfr HFA HF
      go_wp2_with fail
      refine HFB.out.mono ?_
      rintro e w4 ⟨rfl, hb4⟩
      have T4 := Lib.hid (there2_below T3.out hb4)
      have B4 := Lib.hid (bt B3.out hb4)
      clear hb4 HFB
      have T5' := Lib.hid (there2_below T4.out (grows' w4 (.cells #[.int .i64 (-1), .int .i64 0] 30)))
      have B5' := Lib.hid (bt B4.out (grows' w4 (.cells #[.int .i64 (-1), .int .i64 0] 30)))
      go_upto_region 5 with (fail)
      have C5 := Lib.hid (cells2_new w4 (.int .i64 (-1)) (.int .i64 0) 30)
      generalize w4.alloc (.cells #[.int .i64 (-1), .int .i64 0] 30) = w5 at *
      generalize w4.heap.size = by_ at *
      obtain ⟨⟨z0, z1⟩, u0, u1, y0, y1⟩ := there2_z T5'.out
      have c0 := C5.out.1
      have c1 := C5.out.2
      go_wp2_with fail
      have HQ := Lib.hid (cells2_set T5'.out (.int .i64 0) (.int .i64 0))
      have HB9 := Lib.hid ((B5'.out.setCell (Nat.le_of_eq HBE.out) (p := ⟨bx, 0, none⟩) (.int .i64 0)).setCell (Nat.le_of_eq HBE.out) (p := ⟨bx, 1, none⟩) (.int .i64 0))
      refine bodyPost_ret (results_row_tmp rfl _ _ bx [.int .i64 0, .int .i64 0] _ rfl (cells2_range HQ.out) Try.underlying30 (by kernel_rfl) (by kernel_rfl)) rfl ?_
      exact ⟨rfl, HB9.out⟩
    · have HFB := Lib.hid (HFA.out cd tx hfr)
      have zn : (cd == -1) = false := by simp; omega
      clear hfr HFA HF hge
      go_wp2_with fail
      refine HFB.out.mono ?_
      rintro e w4 ⟨rfl, hb4⟩
      have T4 := Lib.hid (there2_below T3.out hb4)
      have B4 := Lib.hid (bt B3.out hb4)
      clear hb4 HFB
      have T5' := Lib.hid (there2_below T4.out (grows' w4 (.cells #[.int .i64 cd, .int .i64 tx] 30)))
      have B5' := Lib.hid (bt B4.out (grows' w4 (.cells #[.int .i64 cd, .int .i64 tx] 30)))
      go_upto_region 5 with (fail)
      have C5 := Lib.hid (cells2_new w4 (.int .i64 cd) (.int .i64 tx) 30)
      generalize w4.alloc (.cells #[.int .i64 cd, .int .i64 tx] 30) = w5 at *
      generalize w4.heap.size = by_ at *
      obtain ⟨⟨z0, z1⟩, u0, u1, y0, y1⟩ := there2_z T5'.out
      have c0 := C5.out.1
      have c1 := C5.out.2
      go_wp2_with fail
      have HQ := Lib.hid (cells2_set T5'.out (.int .i64 cd) (.int .i64 tx))
      have HB9 := Lib.hid ((B5'.out.setCell (Nat.le_of_eq HBE.out) (p := ⟨bx, 0, none⟩) (.int .i64 cd)).setCell (Nat.le_of_eq HBE.out) (p := ⟨bx, 1, none⟩) (.int .i64 tx))
      refine bodyPost_ret (results_row_tmp rfl _ _ bx [.int .i64 cd, .int .i64 tx] _ rfl (cells2_range HQ.out) Try.underlying30 (by kernel_rfl) (by kernel_rfl)) rfl ?_
      exact ⟨rfl, HB9.out⟩
end Go.Proofs.Ytnnaoneegeenkaa.Mt
