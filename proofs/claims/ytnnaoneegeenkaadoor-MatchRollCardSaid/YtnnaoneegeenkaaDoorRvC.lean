/- The document's registry as the head of a state: Enter. -/
import Derived.Test.YtnnaoneegeenkaaDoorRvA
namespace Go.Proofs.YtnnaoneegeenkaaDoor.Kq
open Go.ChangeShapes Go.WideShapes Go.ChangeAt Go.RowKit Own Ro wordsNames Kc
variable {X : Value}

theorem _root_.Go.RowKit.Below.size2 {w W : World} {o : Obj} (h : Below (w.heap.size + 1) (w.alloc o) W) : w.heap.size + 1 ≤ W.heap.size := by have := h.size; simpa using this
def DupL (L : List Cd) (x : List UInt8) : Prop := ∃ i, i < L.length ∧ (L.getD i cd0).name = x
/-- What entering a card turns, by the lists alone. -/
def ERel (L G : List Cd) (z : Bool) (d : Cd) (L' G' : List Cd) (er : Int) : Prop :=
  (z = true ∧ er = 5 ∧ L' = L ∧ G' = G) ∨ (z = false ∧ ¬ CardOk d ∧ er = 70 ∧ L' = L ∧ G' = G) ∨
  (z = false ∧ CardOk d ∧ DupL L d.name ∧ G.length = 64 ∧ er = 3 ∧ L' = L ∧ G' = G) ∨ (z = false ∧ CardOk d ∧ DupL L d.name ∧ G.length < 64 ∧ er = 71 ∧ L' = L ∧ G' = G ++ [d]) ∨
  (z = false ∧ CardOk d ∧ ¬ DupL L d.name ∧ L.length = 64 ∧ er = 3 ∧ L' = L ∧ G' = G) ∨ (z = false ∧ CardOk d ∧ ¬ DupL L d.name ∧ L.length < 64 ∧ er = 0 ∧ L' = L ++ [d] ∧ G' = G)
def Fresh (w : World) (v v' : Value) : Prop := v'.ownBlock = v.ownBlock ∨ ∀ g, v'.ownBlock = some g → w.heap.size ≤ g
def REnter (X : Value) (q : Nat) (c f n : Sl) (L G : List Cd) (_RC _RF : List Sl) (N : List Nt) (z : Bool) (d : Cd) (w : World) (e : Ending) (w' : World) : Prop :=
  ∃ L' G' er c' f' RC' RF', e = .returned (.int .i64 er) ∧ Qat X w' q c' f' n L' G' RC' RF' N z ∧ Ch (Sq q c f n) w w' ∧ ERel L G z d L' G' er ∧ Fresh w (slV c) (slV c') ∧ Fresh w (slV f) (slV f')
section
variable {w w2 : World} {q : Nat} {c f n : Sl} {L G : List Cd} {RC RF : List Sl} {N : List Nt} {z : Bool}
theorem Qat.below (h : Qat X w q c f n L G RC RF N z) (hb : Below w.heap.size w w2) : Qat X w2 q c f n L G RC RF N z :=
  ⟨(hb.block q h.lt).trans h.blk, h.cl.below hb, h.fl.below hb, own_belowK h.nl hb, h.nn, h.c64, h.f64, h.n256, h.cm, h.fm, h.ap⟩
theorem mildL_snoc {L : List Cd} {d : Cd} (h : MildL 1099511627776 L) (hd : MildC 1099511627776 d) (hl : L.length < 64) : MildL 1099511627776 (L ++ [d]) := by
  refine ⟨by simp; omega, fun k => ?_⟩
  by_cases hk : k < L.length
  · rw [getD_sn L d cd0 k hk]
    exact h.2 k
  · by_cases hk2 : k = L.length
    · rw [hk2, getD_la L d cd0]
      exact hd
    · have := h.2 k
      rw [List.getD_eq_getElem?_getD, List.getElem?_eq_none (by omega)] at this
      rw [List.getD_eq_getElem?_getD, List.getElem?_eq_none (by simp; omega)]
      exact this
theorem card_ne (h : Qat X w q c f n L G RC RF N z) : (∀ g, (slV c).ownBlock = some g → g ≠ q) ∧ ∀ g, (slV f).ownBlock = some g → g ≠ q := by
  refine ⟨fun g hg => ?_, fun g hg => ?_⟩
  · obtain ⟨_, _, ht⟩ := own_type h.cl.2.1 hg
    exact type_ne ht h.blk (by decide)
  · obtain ⟨_, _, ht⟩ := own_type h.fl.2.1 hg
    exact type_ne ht h.blk (by decide)
theorem qat_c {c' : Sl} {L' : List Cd} {RC' : List Sl} (h : Qat X w q c f n L G RC RF N z) (hc : Ch (fun k => k = q ∨ (slV c).ownBlock = some k) w w2) (hb : w2.heap[q]? = some (.cells ⟨[slV c', slV f, slV n, .bool z, X]⟩ 94 (0, 0)))
    (hr : RowsOwn KC w2 0 c'.1 c'.2.1 c'.2.2 L' RC') (h64 : L'.length ≤ 64) (hm : MildL 1099511627776 L') (hf : Fresh w (slV c) (slV c')) : Qat X w2 q c' f n L' G RC' RF N z := by
  obtain ⟨h1, h2, h3, h4, h5, h6, h7, h8, h9, h10, h11⟩ := h
  have key : ∀ {b m k : Nat} {E : TypeId} {v : Value} {xs : List Value}, w.ownsRow b E k v m xs → E ≠ 94 → E ≠ 30 → ∀ g, v.ownBlock = some g → ¬ (g = q ∨ (slV c).ownBlock = some g) := by
    intro b m k E v xs ho e1 e2 g hg e
    obtain ⟨_, _, ht⟩ := own_type ho hg
    rcases e with e | e
    · exact type_ne ht h1 e1 e
    · obtain ⟨_, _, ht2⟩ := own_type h2.2.1 e
      exact type_ne ht ht2 e2 rfl
  refine ⟨hb, hr, rows_ch h3 hc (fun g hg e => ?_) (fun i hi => key (h3.2.2.2.1 i hi).2 (by decide) (by decide)), own_ch h4 hc (key h4 (by decide) (by decide)), h5, h64, h7, h8, hm, h10, fun g hg e => ?_⟩
  · rcases e with e | e
    · obtain ⟨_, _, ht⟩ := own_type h3.2.1 hg
      exact type_ne ht h1 (by decide) e
    · exact h11 g e hg
  · rcases hf with h12 | h12
    · exact h11 g (h12 ▸ hg) e
    · have := h12 g hg
      have := (h3.2.1.lt g e).2
      omega
theorem qat_f {f' : Sl} {G' : List Cd} {RF' : List Sl} (h : Qat X w q c f n L G RC RF N z) (hc : Ch (fun k => k = q ∨ (slV f).ownBlock = some k) w w2) (hb : w2.heap[q]? = some (.cells ⟨[slV c, slV f', slV n, .bool z, X]⟩ 94 (0, 0)))
    (hr : RowsOwn KC w2 0 f'.1 f'.2.1 f'.2.2 G' RF') (h64 : G'.length ≤ 64) (hm : MildL 1099511627776 G') (hf : Fresh w (slV f) (slV f')) : Qat X w2 q c f' n L G' RC RF' N z := by
  obtain ⟨h1, h2, h3, h4, h5, h6, h7, h8, h9, h10, h11⟩ := h
  have key : ∀ {b m k : Nat} {E : TypeId} {v : Value} {xs : List Value}, w.ownsRow b E k v m xs → E ≠ 94 → E ≠ 30 → ∀ g, v.ownBlock = some g → ¬ (g = q ∨ (slV f).ownBlock = some g) := by
    intro b m k E v xs ho e1 e2 g hg e
    obtain ⟨_, _, ht⟩ := own_type ho hg
    rcases e with e | e
    · exact type_ne ht h1 e1 e
    · obtain ⟨_, _, ht2⟩ := own_type h3.2.1 e
      exact type_ne ht ht2 e2 rfl
  refine ⟨hb, rows_ch h2 hc (fun g hg e => ?_) (fun i hi => key (h2.2.2.2.1 i hi).2 (by decide) (by decide)), hr, own_ch h4 hc (key h4 (by decide) (by decide)), h5, h6, h64, h8, h9, hm, fun g hg e => ?_⟩
  · rcases e with e | e
    · obtain ⟨_, _, ht⟩ := own_type h2.2.1 hg
      exact type_ne ht h1 (by decide) e
    · exact h11 g hg e
  · rcases hf with h12 | h12
    · exact h11 g hg (h12 ▸ e)
    · have := h12 g e
      have := (h2.2.1.lt g hg).2
      omega
end
set_option maxRecDepth 100000 in
set_option maxHeartbeats 16000000 in
theorem rEnter_c {q : Nat} {c f n : Sl} {L G : List Cd} {RC RF : List Sl} {N : List Nt} (d : Cd) (r : Sl) (w : World) (h : Qat X w q c f n L G RC RF N false) (hm : MildC 1099511627776 d) (hr : r.2.1 = d.compat.length) (hne : Neat r) (hs : CellsIn w 1 r.1 r.2.1 (strs d.compat)) (hok : CardOk d) (hdup : ¬ DupL L d.name) (hl : L.length < 64) :
    Calls Tryd.prog 57 #[.pointer (some ⟨q, 0, none⟩), cardV d r] w (REnter X q c f n L G RC RF N false d w) := by
  have HQ := Lib.hid h
  have HOK := Lib.hid hok
  have HDUP := Lib.hid hdup
  have HM := Lib.hid hm
  have HL := Lib.hid hl
  have hqs := h.lt
  have hcl : c.2.1 = L.length := h.cl.1
  have hfl : f.2.1 = G.length := h.fl.1
  have hl64 := h.c64
  have hf64 := h.f64
  have HMAY := Lib.hid fun (W : World) (hW : Below w.heap.size w W) => may_any d r true W ⟨fun _ => hok, fun _ => rfl⟩ hm hr (hs.below hW)
  have HTW := Lib.hid fun (W : World) (hW : Below w.heap.size w W) => twin_any d r W hm hr hne (hs.below hW)
  have HNAM := Lib.hid fun (W : World) (hW : Below w.heap.size w W) => named_any c.1 c.2.2 c.2.1 L RC d.name false W (by simpa [DupL] using hdup) h.c64 (h.cl.below hW).rows
  have HBOX := Lib.hid fun (W : World) (hW : Below (w.heap.size + 1) (w.alloc (.cells (cells7 d r) 30)) W) (j : Nat) (u : Value) (hu : (cells7 d r)[j]? = some u) => show W.cell? ⟨w.heap.size, j, none⟩ = some u by rw [hW.cell (p := ⟨w.heap.size, j, none⟩) (by simp)]; exact box7s w d r 30 j u hu
  have B1 := Lib.hid (grows' w (.cells (cells7 d r) 30))
  have Q1 := Lib.hid (h.below B1.out)
  have HSN : Hid (∀ (r' : Sl) (V V2 w' : World) (v' : Value), Below w.heap.size w V → r'.2.1 = d.compat.length → V2.ownsRow V.heap.size 9 1 (slV r') r'.2.1 (strs d.compat) → Below V.heap.size V V2 → V2.grownBy w' (slV c).ownBlock → w'.ownsRow 0 30 7 v' (c.2.1 + 1) (KC.rows L RC ++ (cells7 d r').toList) → ∃ A3 c3, v' = .slice A3 (c.2.1 + 1) c3 ∧ RowsOwn KC w' 0 A3 (c.2.1 + 1) c3 (L ++ [d]) (RC ++ [r'])) := Lib.hid (fun r' V V2 w' v' hV h1 h2 h3 h4 h5 =>
    RowsOwn.snoc (K := KC) (h.cl.below (bt hV h3)) h1 h2 (Nat.zero_le _) (fun i hi g hg => Nat.lt_of_lt_of_le (h.cl.2.2.lt i hi g hg) hV.size) h4 h5)
  clear h hm hr hne hs hok hdup hl
  obtain ⟨ca, cn, cc⟩ := c
  obtain ⟨fa, fn, fc⟩ := f
  simp only at hcl hfl
  have hc64 : (cn : Int) ≤ 64 := by omega
  have hf64' : (fn : Int) ≤ 64 := by omega
  have hlt : decide ((64 : Int) ≤ (cn : Int)) = false := decide_eq_false (by have := HL.out; omega)
  have HCL := Lib.hid hcl
  have HFL := Lib.hid hfl
  clear hcl hfl
  unfold cardV at HMAY HTW ⊢
  unfold cells7 at HMAY HTW HBOX B1 Q1 ⊢
  go_enter Tryd.func57, Tryd.ntmps57
  have x3 := Q1.out.cell (j := 3) rfl
  have xb := HBOX.out _ (Below.refl _ _)
  have b0 := xb 0 _ rfl
  have b1 := xb 1 _ rfl
  have b2 := xb 2 _ rfl
  have b3 := xb 3 _ rfl
  have b4 := xb 4 _ rfl
  have b5 := xb 5 _ rfl
  have b6 := xb 6 _ rfl
  clear xb
  go_wp2_with fail
  refine (HMAY.out _ B1.out).mono ?_
  rintro e W2 ⟨rfl, hb2⟩
  have B2 := Lib.hid (bt B1.out hb2)
  have X2 := Lib.hid (hb2.mono (show w.heap.size + 1 ≤ _ by simp))
  have Q2 := Lib.hid (HQ.out.below B2.out)
  clear b0 b1 b2 b3 b4 b5 b6 x3 hb2 HMAY
  have b0 := HBOX.out W2 X2.out 0 _ rfl
  have x0 := Q2.out.cell (j := 0) rfl
  simp only [slV] at x0
  have HNM2 : Hid (Calls Tryd.prog 89 #[.slice ca cn cc, .string (str d.name)] W2.drew (fun e w' => e = .returned (.bool false) ∧ w' = W2.drew)) := Lib.hid (HNAM.out W2.drew (below_dr B2.out 1))
  go_wp2_with fail
  refine wp_region_noPanic ?_
  refine wp_region_held_drew (S := fun w' => w'.cell? ⟨q, 0, none⟩ = some (.slice ca cn cc) ∧ w'.cell? ⟨w.heap.size, 0, none⟩ = some (.string (str d.name))) (by kernel_rfl) ⟨x0, b0⟩ (fun hHeld => ?_)
  first | (refine skipH (i := 0) (dst := some 12) rfl rfl (by kernel_rfl) (by kernel_rfl) (by kernel_rfl) (fun _ _ _ h => h) (by rfl) hHeld ?_) | (refine' takeH (i := 0) (dst := some 12) (v := _) rfl rfl (by kernel_rfl) (by kernel_rfl) (by kernel_rfl) (fun _ _ _ h => h) (by rfl) ?hy hHeld ?_; case hy => (intro w hSw; clear hSw; (first | done | go_simp); try with_reducible rfl)) | fail
  try simp only [Act.put, List.setIfInBounds_toArray, List.set_cons_zero, List.set_cons_succ]
  first | (refine skipH (i := 1) (dst := some 13) rfl rfl (by kernel_rfl) (by kernel_rfl) (by kernel_rfl) (fun _ _ _ h => h) (by rfl) hHeld ?_) | (refine' takeH (i := 1) (dst := some 13) (v := _) rfl rfl (by kernel_rfl) (by kernel_rfl) (by kernel_rfl) (fun _ _ _ h => h) (by rfl) ?hy hHeld ?_; case hy => (intro w hSw; clear hSw; (first | done | go_simp); try with_reducible rfl)) | fail
  try simp only [Act.put, List.setIfInBounds_toArray, List.set_cons_zero, List.set_cons_succ]
  first | (refine skipH (i := 2) (dst := some 14) rfl rfl (by kernel_rfl) (by kernel_rfl) (by kernel_rfl) (fun _ _ _ h => h) (by rfl) hHeld ?_) | (refine' takeH (i := 2) (dst := some 14) (v := _) rfl rfl (by kernel_rfl) (by kernel_rfl) (by kernel_rfl) (fun _ _ _ h => h) (by rfl) ?hy hHeld ?_; case hy => (intro w hSw; clear hSw; (first | done | go_simp); try with_reducible rfl)) | fail
  try simp only [Act.put, List.setIfInBounds_toArray, List.set_cons_zero, List.set_cons_succ]
  first | (refine skipH (i := 3) (dst := some 15) rfl rfl (by kernel_rfl) (by kernel_rfl) (by kernel_rfl) (fun _ _ _ h => h) (by rfl) hHeld ?_) | (refine' takeH (i := 3) (dst := some 15) (v := _) rfl rfl (by kernel_rfl) (by kernel_rfl) (by kernel_rfl) (fun _ _ _ h => h) (by rfl) ?hy hHeld ?_; case hy => (intro w hSw; obtain ⟨_, _⟩ := hSw; (first | done | go_simp); try with_reducible rfl)) | fail
  try simp only [Act.put, List.setIfInBounds_toArray, List.set_cons_zero, List.set_cons_succ]
  first | (refine skipH (i := 4) (dst := some 16) rfl rfl (by kernel_rfl) (by kernel_rfl) (by kernel_rfl) (fun _ _ _ h => h) (by rfl) hHeld ?_) | (refine' takeH (i := 4) (dst := some 16) (v := _) rfl rfl (by kernel_rfl) (by kernel_rfl) (by kernel_rfl) (fun _ _ _ h => h) (by rfl) ?hy hHeld ?_; case hy => (intro w hSw; clear hSw; (first | done | go_simp); try with_reducible rfl)) | fail
  try simp only [Act.put, List.setIfInBounds_toArray, List.set_cons_zero, List.set_cons_succ]
  first | (refine skipH (i := 5) (dst := some 17) rfl rfl (by kernel_rfl) (by kernel_rfl) (by kernel_rfl) (fun _ _ _ h => h) (by rfl) hHeld ?_) | (refine' takeH (i := 5) (dst := some 17) (v := _) rfl rfl (by kernel_rfl) (by kernel_rfl) (by kernel_rfl) (fun _ _ _ h => h) (by rfl) ?hy hHeld ?_; case hy => (intro w hSw; obtain ⟨_, _⟩ := hSw; (first | done | go_simp); try with_reducible rfl)) | fail
  try simp only [Act.put, List.setIfInBounds_toArray, List.set_cons_zero, List.set_cons_succ]
  refine wpAnyH_ready (rs := [6]) (by kernel_rfl) (by simp) ?_
  refine AllReadyH.cons (i := 6) (o := ⟨some 18, .call _, _, _, _, _⟩) rfl (fun K hK => ?_) AllReadyH.nil
  go_simp
  refine HNM2.out.mono ?_
  rintro e w5 ⟨rfl, rfl⟩
  have hH := hHeld
  refine hK.out _ _ hH (fun _ => ?_)
  clear hK K hHeld
  have hHeld := hH
  clear hH
  try simp only [Act.put, List.setIfInBounds_toArray, List.set_cons_zero, List.set_cons_succ]
  refine wpAnyH_done (by kernel_rfl) (NoPanic.normal ?_) _
  clear hHeld b0 x0
  have B3 : Hid (Below w.heap.size w W2.drew) := Lib.hid (below_dr B2.out 1)
  have X3 : Hid (Below (w.heap.size + 1) (w.alloc (.cells #[.string (str d.name), .string (str d.fam), .int .u8 d.level, slV r, .int .i8 d.score, .string (str d.quirk), .int .i16 d.entry] 30)) W2.drew) := Lib.hid (below_dr X2.out 1)
  have Q3 : Hid (Qat X W2.drew q (ca, cn, cc) (fa, fn, fc) n L G RC RF N false) := Lib.hid (HQ.out.below B3.out)
  generalize W2.drew = W at B3 X3 Q3 ⊢
  clear B2 X2 Q2 B1 Q1
  have x0 := Q3.out.cell (j := 0) rfl
  simp only [slV] at x0
  go_wp2_with fail
  have B4 : Hid (Below w.heap.size w W.drew) := Lib.hid (below_dr B3.out 1)
  have HB7 := Lib.hid (fun (V : World) (hV : Below (w.heap.size + 1) (w.alloc (.cells #[.string (str d.name), .string (str d.fam), .int .u8 d.level, slV r, .int .i8 d.score, .string (str d.quirk), .int .i16 d.entry] 30)) V) => show (fun w' : World => w'.cell? ⟨w.heap.size, 0, none⟩ = some (.string (str d.name)) ∧ w'.cell? ⟨w.heap.size, 1, none⟩ = some (.string (str d.fam)) ∧ w'.cell? ⟨w.heap.size, 2, none⟩ = some (.int .u8 d.level) ∧ w'.cell? ⟨w.heap.size, 3, none⟩ = some (slV r) ∧ w'.cell? ⟨w.heap.size, 4, none⟩ = some (.int .i8 d.score) ∧ w'.cell? ⟨w.heap.size, 5, none⟩ = some (.string (str d.quirk)) ∧ w'.cell? ⟨w.heap.size, 6, none⟩ = some (.int .i16 d.entry)) V from ⟨HBOX.out V hV 0 _ rfl, HBOX.out V hV 1 _ rfl, HBOX.out V hV 2 _ rfl, HBOX.out V hV 3 _ rfl, HBOX.out V hV 4 _ rfl, HBOX.out V hV 5 _ rfl, HBOX.out V hV 6 _ rfl⟩)
  have X4 := Lib.hid (below_dr X3.out 1)
  clear HBOX HNAM
  refine wp_region_noPanic ?_
  refine wp_region_held_drew (S := fun w' => w'.cell? ⟨w.heap.size, 0, none⟩ = some (.string (str d.name)) ∧ w'.cell? ⟨w.heap.size, 1, none⟩ = some (.string (str d.fam)) ∧ w'.cell? ⟨w.heap.size, 2, none⟩ = some (.int .u8 d.level) ∧ w'.cell? ⟨w.heap.size, 3, none⟩ = some (slV r) ∧ w'.cell? ⟨w.heap.size, 4, none⟩ = some (.int .i8 d.score) ∧ w'.cell? ⟨w.heap.size, 5, none⟩ = some (.string (str d.quirk)) ∧ w'.cell? ⟨w.heap.size, 6, none⟩ = some (.int .i16 d.entry)) (by kernel_rfl) (HB7.out _ X4.out) (fun hHeld => ?_)
  first | (refine skipH (i := 0) (dst := some 42) rfl rfl (by kernel_rfl) (by kernel_rfl) (by kernel_rfl) (fun _ _ _ h => h) (by rfl) hHeld ?_) | (refine' takeH (i := 0) (dst := some 42) (v := _) rfl rfl (by kernel_rfl) (by kernel_rfl) (by kernel_rfl) (fun _ _ _ h => h) (by rfl) ?hy hHeld ?_; case hy => (intro w hSw; clear hSw; (first | done | go_simp); try with_reducible rfl)) | fail
  try simp only [Act.put, List.setIfInBounds_toArray, List.set_cons_zero, List.set_cons_succ]
  first | (refine skipH (i := 1) (dst := some 43) rfl rfl (by kernel_rfl) (by kernel_rfl) (by kernel_rfl) (fun _ _ _ h => h) (by rfl) hHeld ?_) | (refine' takeH (i := 1) (dst := some 43) (v := _) rfl rfl (by kernel_rfl) (by kernel_rfl) (by kernel_rfl) (fun _ _ _ h => h) (by rfl) ?hy hHeld ?_; case hy => (intro w hSw; clear hSw; (first | done | go_simp); try with_reducible rfl)) | fail
  try simp only [Act.put, List.setIfInBounds_toArray, List.set_cons_zero, List.set_cons_succ]
  first | (refine skipH (i := 2) (dst := some 44) rfl rfl (by kernel_rfl) (by kernel_rfl) (by kernel_rfl) (fun _ _ _ h => h) (by rfl) hHeld ?_) | (refine' takeH (i := 2) (dst := some 44) (v := _) rfl rfl (by kernel_rfl) (by kernel_rfl) (by kernel_rfl) (fun _ _ _ h => h) (by rfl) ?hy hHeld ?_; case hy => (intro w hSw; clear hSw; (first | done | go_simp); try with_reducible rfl)) | fail
  try simp only [Act.put, List.setIfInBounds_toArray, List.set_cons_zero, List.set_cons_succ]
  first | (refine skipH (i := 3) (dst := some 45) rfl rfl (by kernel_rfl) (by kernel_rfl) (by kernel_rfl) (fun _ _ _ h => h) (by rfl) hHeld ?_) | (refine' takeH (i := 3) (dst := some 45) (v := _) rfl rfl (by kernel_rfl) (by kernel_rfl) (by kernel_rfl) (fun _ _ _ h => h) (by rfl) ?hy hHeld ?_; case hy => (intro w hSw; clear hSw; (first | done | go_simp); try with_reducible rfl)) | fail
  try simp only [Act.put, List.setIfInBounds_toArray, List.set_cons_zero, List.set_cons_succ]
  first | (refine skipH (i := 5) (dst := some 47) rfl rfl (by kernel_rfl) (by kernel_rfl) (by kernel_rfl) (fun _ _ _ h => h) (by rfl) hHeld ?_) | (refine' takeH (i := 5) (dst := some 47) (v := _) rfl rfl (by kernel_rfl) (by kernel_rfl) (by kernel_rfl) (fun _ _ _ h => h) (by rfl) ?hy hHeld ?_; case hy => (intro w hSw; obtain ⟨_, _, _, _, _, _, _⟩ := hSw; (first | done | go_simp); try with_reducible rfl)) | fail
  try simp only [Act.put, List.setIfInBounds_toArray, List.set_cons_zero, List.set_cons_succ]
  have x4 := x0
  have HTW4 : Hid (Calls Tryd.prog 17 #[.agg #[.string (str d.name), .string (str d.fam), .int .u8 d.level, slV r, .int .i8 d.score, .string (str d.quirk), .int .i16 d.entry]] W.drew (MadeC d W.drew)) := Lib.hid (HTW.out W.drew B4.out)
  have HQW := Lib.hid fun (V : World) (hV : Below w.heap.size w V) => show V.cell? ⟨q, 0, none⟩ = some (.slice ca cn cc) from (HQ.out.below hV).cell (j := 0) rfl
  clear HTW
  refine wpAnyH_ready (rs := [4, 6]) (by kernel_rfl) (by simp) ?_
  refine AllReadyH.cons (i := 4) (o := ⟨some 46, .load _ _, _, _, _, _⟩) rfl (fun K hK => ?_) (AllReadyH.cons (i := 6) (o := ⟨some 48, .call _, _, _, _, _⟩) rfl (fun K hK => ?_) AllReadyH.nil)
  · skip
    go_simp
    refine hK.out _ _ hHeld (fun _ => ?_)
    clear hK K
    try simp only [Act.put, List.setIfInBounds_toArray, List.set_cons_zero, List.set_cons_succ]
    refine wpAnyH_ready (rs := [6]) (by kernel_rfl) (by simp) ?_
    refine AllReadyH.cons (i := 6) (o := ⟨some 48, .call _, _, _, _, _⟩) rfl (fun K hK => ?_) AllReadyH.nil
    go_simp
    refine HTW4.out.mono ?_
    rintro e V1 ⟨A7, c7, n7, rfl, hn7, ho7, hb7⟩
    have B5 := Lib.hid (bt B4.out hb7)
    have X5 := Lib.hid (X4.out.trans (hb7.mono (Nat.le_trans (Nat.le_refl _) X4.out.size2)))
    have O7 := Lib.hid ho7
    have N7 := Lib.hid hn7
    have D7 := Lib.hid hb7
    have hH := HB7.out V1 X5.out
    clear ho7 hn7 hb7
    refine hK.out _ _ hH (fun _ => ?_)
    clear hK K hHeld
    have hHeld := hH
    clear hH
    unfold cardV cells7
    simp only [slV]
    try simp only [Act.put, List.setIfInBounds_toArray, List.set_cons_zero, List.set_cons_succ]
    refine wpAnyH_ready (rs := [7]) (by kernel_rfl) (by simp) ?_
    refine AllReadyH.cons (i := 7) (o := ⟨some 49, .buildSlice _ _ _, _, _, _, _⟩) rfl (fun K hK => ?_) AllReadyH.nil
    go_simp
    have B6 := Lib.hid (bt B5.out (grows' V1 (.cells #[.string (str d.name), .string (str d.fam), .int .u8 d.level, .slice A7 n7 c7, .int .i8 d.score, .string (str d.quirk), .int .i16 d.entry] 30)))
    have X6 := Lib.hid (X5.out.trans ((grows' V1 (.cells #[.string (str d.name), .string (str d.fam), .int .u8 d.level, .slice A7 n7 c7, .int .i8 d.score, .string (str d.quirk), .int .i16 d.entry] 30)).mono X5.out.size2))
    have hH := HB7.out _ X6.out
    refine hK.out _ _ hH (fun _ => ?_)
    clear hK K hHeld
    have hHeld := hH
    clear hH
    try simp only [Act.put, List.setIfInBounds_toArray, List.set_cons_zero, List.set_cons_succ]
    have HOWN : Hid ((V1.alloc (.cells #[.string (str d.name), .string (str d.fam), .int .u8 d.level, .slice A7 n7 c7, .int .i8 d.score, .string (str d.quirk), .int .i16 d.entry] 30)).ownsRow 0 30 7 (.slice ca cn cc) cn (KC.rows L RC)) := Lib.hid (HQ.out.below B6.out).cl.2.1
    have HBLQ := Lib.hid ((B6.out.block q HQ.out.lt).trans HQ.out.blk)
    have HNEW : Hid (∀ j u, (cells7 d (A7, n7, c7)).toList[j]? = some u → (V1.alloc (.cells #[.string (str d.name), .string (str d.fam), .int .u8 d.level, .slice A7 n7 c7, .int .i8 d.score, .string (str d.quirk), .int .i16 d.entry] 30)).cell? ((⟨V1.heap.size, 0, none⟩ : Addr).add j) = some u) := Lib.hid (fun j u hu => by
      rw [Ro.add_plain, World.cell?_alloc_at _ _ _ _ rfl, Nat.zero_add]
      simpa [cells7, slV] using hu)
    have hn16 : cn ≤ 64 := by omega
    refine wpAnyH_ready (rs := [8]) (by kernel_rfl) (by simp) ?_
    refine AllReadyH.cons (i := 8) (o := ⟨some 50, .call _, _, _, _, _⟩) rfl (fun K hK => ?_) AllReadyH.nil
    refine step_apartK (by first | rfl | simp [Region.wanted, yielded]) (.tmp 46) (.tmp 49) 23 (by rfl) 0 30 (.agg #[.string ⟨#[]⟩, .string ⟨#[]⟩, .int .u8 0, .slice none 0 0, .int .i8 0, .string ⟨#[]⟩, .int .i16 0]) 7 96 (by omega) Tryd.underlying23 info_card rfl (.slice ca cn cc) cn (KC.rows L RC) (by rfl) HOWN.out ⟨V1.heap.size, 0, none⟩ 1 1 (cells7 d (A7, n7, c7)).toList (by rfl) (by omega) rfl HNEW.out (by intro u hu; simp [cells7, slV] at hu; rcases hu with rfl | rfl | rfl | rfl | rfl | rfl | rfl <;> rfl) (by omega) (by omega) (by omega) ?_
    intro v' w' ho hg hf
    have hsV : w.heap.size < (V1.alloc (.cells #[.string (str d.name), .string (str d.fam), .int .u8 d.level, .slice A7 n7 c7, .int .i8 d.score, .string (str d.quirk), .int .i16 d.entry] 30)).heap.size := by have := X6.out.size2; omega
    have hgq := (hg.block q (Nat.lt_trans hqs hsV) (fun e => (card_ne HQ.out).1 q e.symm rfl)).trans HBLQ.out
    have hbne : some w.heap.size ≠ (Value.slice ca cn cc).ownBlock := fun e => by have := (HQ.out.cl.2.1.lt _ e.symm).2; omega
    have kb : ∀ j, w'.cell? ⟨w.heap.size, j, none⟩ = (V1.alloc (.cells #[.string (str d.name), .string (str d.fam), .int .u8 d.level, .slice A7 n7 c7, .int .i8 d.score, .string (str d.quirk), .int .i16 d.entry] 30)).cell? ⟨w.heap.size, j, none⟩ := fun j => World.cell?_of_block (hg.block w.heap.size hsV hbne)
    obtain ⟨s0, s1, s2, s3, s4, s5, s6⟩ := hHeld
    have hH := show (fun w0 : World => w0.cell? ⟨w.heap.size, 0, none⟩ = some (.string (str d.name)) ∧ w0.cell? ⟨w.heap.size, 1, none⟩ = some (.string (str d.fam)) ∧ w0.cell? ⟨w.heap.size, 2, none⟩ = some (.int .u8 d.level) ∧ w0.cell? ⟨w.heap.size, 3, none⟩ = some (slV r) ∧ w0.cell? ⟨w.heap.size, 4, none⟩ = some (.int .i8 d.score) ∧ w0.cell? ⟨w.heap.size, 5, none⟩ = some (.string (str d.quirk)) ∧ w0.cell? ⟨w.heap.size, 6, none⟩ = some (.int .i16 d.entry)) w' from ⟨(kb 0).trans s0, (kb 1).trans s1, (kb 2).trans s2, (kb 3).trans s3, (kb 4).trans s4, (kb 5).trans s5, (kb 6).trans s6⟩
    obtain ⟨A3, c3, rfl, hrw⟩ := HSN.out (A7, n7, c7) W.drew (V1.alloc (.cells #[.string (str d.name), .string (str d.fam), .int .u8 d.level, .slice A7 n7 c7, .int .i8 d.score, .string (str d.quirk), .int .i16 d.entry] 30)) w' v' B4.out N7.out (own_belowK O7.out (grows' V1 _)) (bt D7.out (grows' V1 _)) hg ho
    clear kb s0 s1 s2 s3 s4 s5 s6
    refine hK.out _ _ hH (fun _ => ?_)
    clear hK K
    have hHeld := hH
    clear hH
    try simp only [Act.put, List.setIfInBounds_toArray, List.set_cons_zero, List.set_cons_succ]
    first | (refine skipH (i := 9) (dst := some 51) rfl rfl (by kernel_rfl) (by kernel_rfl) (by kernel_rfl) (fun _ _ _ h => h) (by rfl) hHeld ?_) | (refine' takeH (i := 9) (dst := some 51) (v := _) rfl rfl (by kernel_rfl) (by kernel_rfl) (by kernel_rfl) (fun _ _ _ h => h) (by rfl) ?hy hHeld ?_; case hy => (intro w hSw; clear hSw; (first | done | go_simp); try with_reducible rfl)) | fail
    try simp only [Act.put, List.setIfInBounds_toArray, List.set_cons_zero, List.set_cons_succ]
    first | (refine skipH (i := 10) (dst := some 52) rfl rfl (by kernel_rfl) (by kernel_rfl) (by kernel_rfl) (fun _ _ _ h => h) (by rfl) hHeld ?_) | (refine' takeH (i := 10) (dst := some 52) (v := _) rfl rfl (by kernel_rfl) (by kernel_rfl) (by kernel_rfl) (fun _ _ _ h => h) (by rfl) ?hy hHeld ?_; case hy => (intro w hSw; clear hSw; (first | done | go_simp); try with_reducible rfl)) | fail
    try simp only [Act.put, List.setIfInBounds_toArray, List.set_cons_zero, List.set_cons_succ]
    have y2 : w'.cell? ⟨q, 0, none⟩ = some (.slice ca cn cc) := by rw [Lib.cell_of_heap hgq 0]; rfl
    have y3 : w'.frozen? ⟨q, 0, none⟩ = false := Lib.frozen_of_heap hgq 0
    refine wpAnyH_ready (rs := [11]) (by kernel_rfl) (by simp) ?_
    refine AllReadyH.cons (i := 11) (o := ⟨none, .store _ _ _, _, _, _, _⟩) rfl (fun K hK => ?_) AllReadyH.nil
    go_simp
    obtain ⟨s0, s1, s2, s3, s4, s5, s6⟩ := hHeld
    have kb : ∀ j, (w'.setCell ⟨q, 0, none⟩ (.slice A3 (cn + 1) c3)).cell? ⟨w.heap.size, j, none⟩ = w'.cell? ⟨w.heap.size, j, none⟩ := fun j => World.cell?_setCell_other _ _ _ _ (by first | (simp; done) | (simp; intro e; omega))
    have hH := show (fun w0 : World => w0.cell? ⟨w.heap.size, 0, none⟩ = some (.string (str d.name)) ∧ w0.cell? ⟨w.heap.size, 1, none⟩ = some (.string (str d.fam)) ∧ w0.cell? ⟨w.heap.size, 2, none⟩ = some (.int .u8 d.level) ∧ w0.cell? ⟨w.heap.size, 3, none⟩ = some (slV r) ∧ w0.cell? ⟨w.heap.size, 4, none⟩ = some (.int .i8 d.score) ∧ w0.cell? ⟨w.heap.size, 5, none⟩ = some (.string (str d.quirk)) ∧ w0.cell? ⟨w.heap.size, 6, none⟩ = some (.int .i16 d.entry)) (w'.setCell ⟨q, 0, none⟩ (.slice A3 (cn + 1) c3)) from ⟨(kb 0).trans s0, (kb 1).trans s1, (kb 2).trans s2, (kb 3).trans s3, (kb 4).trans s4, (kb 5).trans s5, (kb 6).trans s6⟩
    refine hK.out _ _ hH (fun _ => ?_)
    clear hK K hH kb s0 s1 s2 s3 s4 s5 s6 y2 y3
    refine wpAnyH_done (by kernel_rfl) (NoPanic.normal ?_) _
    have hfr : Fresh w (slV (ca, cn, cc)) (slV (A3, cn + 1, c3)) := by
      rcases hf with h3 | h3
      · exact Or.inl h3
      · exact Or.inr fun g h => by have := h3 g h; omega
    have C1 := ((Ch.of_below (S := fun k => k = q ∨ (slV (ca, cn, cc)).ownBlock = some k) B6.out).grown hg (fun k hk => Or.inl (Or.inr hk))).set (p := ⟨q, 0, none⟩) (Or.inl (Or.inl rfl)) (.slice A3 (cn + 1) c3)
    have CQ : Ch (fun k => k = q) w' (w'.setCell ⟨q, 0, none⟩ (.slice A3 (cn + 1) c3)) := Ch.set (S := fun k => k = q) (Ch.refl _ w') (p := ⟨q, 0, none⟩) (Or.inl rfl) _
    have hrw2 : RowsOwn KC (w'.setCell ⟨q, 0, none⟩ (.slice A3 (cn + 1) c3)) 0 A3 (cn + 1) c3 (L ++ [d]) (RC ++ [(A7, n7, c7)]) := rows_ch hrw CQ (fun g h e => (by obtain ⟨_, _, ht⟩ := own_type hrw.2.1 h; exact type_ne ht hgq (by decide) e)) (fun i hi g h e => (by obtain ⟨_, _, ht⟩ := own_type (hrw.2.2.2.1 i hi).2 h; exact type_ne ht hgq (by decide) e))
    have HFIN : Hid (REnter X q (ca, cn, cc) (fa, fn, fc) n L G RC RF N false d w (.returned (.int .i64 0)) (w'.setCell ⟨q, 0, none⟩ (.slice A3 (cn + 1) c3))) := Lib.hid ⟨L ++ [d], G, 0, (A3, cn + 1, c3), (fa, fn, fc), RC ++ [(A7, n7, c7)], RF, rfl, qat_c HQ.out C1 (blk_set hgq 0 _) hrw2 (by rw [List.length_append]; have := HL.out; show L.length + 1 ≤ 64; omega) (mildL_snoc HQ.out.cm HM.out HL.out) hfr, C1.mono (fun k hk => hk.elim Or.inl (fun h => Or.inr (Or.inl h))), (by unfold ERel; exact Or.inr (Or.inr (Or.inr (Or.inr (Or.inr ⟨rfl, HOK.out, HDUP.out, HL.out, rfl, rfl, rfl⟩))))), hfr, Or.inl rfl⟩
    clear C1 CQ hrw2 hrw hfr ho hg hf hgq
    go_wp2_with fail
    go_ret
    exact HFIN.out
  · go_simp
    refine HTW4.out.mono ?_
    rintro e V1 ⟨A7, c7, n7, rfl, hn7, ho7, hb7⟩
    have B5 := Lib.hid (bt B4.out hb7)
    have X5 := Lib.hid (X4.out.trans (hb7.mono (Nat.le_trans (Nat.le_refl _) X4.out.size2)))
    have O7 := Lib.hid ho7
    have N7 := Lib.hid hn7
    have D7 := Lib.hid hb7
    have hH := HB7.out V1 X5.out
    clear ho7 hn7 hb7
    refine hK.out _ _ hH (fun _ => ?_)
    clear hK K hHeld
    have hHeld := hH
    clear hH
    unfold cardV cells7
    simp only [slV]
    try simp only [Act.put, List.setIfInBounds_toArray, List.set_cons_zero, List.set_cons_succ]
    have y1 := HQW.out V1 B5.out
    refine wpAnyH_ready (rs := [4, 7]) (by kernel_rfl) (by simp) ?_
    refine AllReadyH.cons (i := 4) (o := ⟨some 46, .load _ _, _, _, _, _⟩) rfl (fun K hK => ?_) (AllReadyH.cons (i := 7) (o := ⟨some 49, .buildSlice _ _ _, _, _, _, _⟩) rfl (fun K hK => ?_) AllReadyH.nil)
    · skip
      go_simp
      refine hK.out _ _ hHeld (fun _ => ?_)
      clear hK K
      try simp only [Act.put, List.setIfInBounds_toArray, List.set_cons_zero, List.set_cons_succ]
      refine wpAnyH_ready (rs := [7]) (by kernel_rfl) (by simp) ?_
      refine AllReadyH.cons (i := 7) (o := ⟨some 49, .buildSlice _ _ _, _, _, _, _⟩) rfl (fun K hK => ?_) AllReadyH.nil
      go_simp
      have B6 := Lib.hid (bt B5.out (grows' V1 (.cells #[.string (str d.name), .string (str d.fam), .int .u8 d.level, .slice A7 n7 c7, .int .i8 d.score, .string (str d.quirk), .int .i16 d.entry] 30)))
      have X6 := Lib.hid (X5.out.trans ((grows' V1 (.cells #[.string (str d.name), .string (str d.fam), .int .u8 d.level, .slice A7 n7 c7, .int .i8 d.score, .string (str d.quirk), .int .i16 d.entry] 30)).mono X5.out.size2))
      have hH := HB7.out _ X6.out
      refine hK.out _ _ hH (fun _ => ?_)
      clear hK K hHeld
      have hHeld := hH
      clear hH
      try simp only [Act.put, List.setIfInBounds_toArray, List.set_cons_zero, List.set_cons_succ]
      have HOWN : Hid ((V1.alloc (.cells #[.string (str d.name), .string (str d.fam), .int .u8 d.level, .slice A7 n7 c7, .int .i8 d.score, .string (str d.quirk), .int .i16 d.entry] 30)).ownsRow 0 30 7 (.slice ca cn cc) cn (KC.rows L RC)) := Lib.hid (HQ.out.below B6.out).cl.2.1
      have HBLQ := Lib.hid ((B6.out.block q HQ.out.lt).trans HQ.out.blk)
      have HNEW : Hid (∀ j u, (cells7 d (A7, n7, c7)).toList[j]? = some u → (V1.alloc (.cells #[.string (str d.name), .string (str d.fam), .int .u8 d.level, .slice A7 n7 c7, .int .i8 d.score, .string (str d.quirk), .int .i16 d.entry] 30)).cell? ((⟨V1.heap.size, 0, none⟩ : Addr).add j) = some u) := Lib.hid (fun j u hu => by
        rw [Ro.add_plain, World.cell?_alloc_at _ _ _ _ rfl, Nat.zero_add]
        simpa [cells7, slV] using hu)
      have hn16 : cn ≤ 64 := by omega
      refine wpAnyH_ready (rs := [8]) (by kernel_rfl) (by simp) ?_
      refine AllReadyH.cons (i := 8) (o := ⟨some 50, .call _, _, _, _, _⟩) rfl (fun K hK => ?_) AllReadyH.nil
      refine step_apartK (by first | rfl | simp [Region.wanted, yielded]) (.tmp 46) (.tmp 49) 23 (by rfl) 0 30 (.agg #[.string ⟨#[]⟩, .string ⟨#[]⟩, .int .u8 0, .slice none 0 0, .int .i8 0, .string ⟨#[]⟩, .int .i16 0]) 7 96 (by omega) Tryd.underlying23 info_card rfl (.slice ca cn cc) cn (KC.rows L RC) (by rfl) HOWN.out ⟨V1.heap.size, 0, none⟩ 1 1 (cells7 d (A7, n7, c7)).toList (by rfl) (by omega) rfl HNEW.out (by intro u hu; simp [cells7, slV] at hu; rcases hu with rfl | rfl | rfl | rfl | rfl | rfl | rfl <;> rfl) (by omega) (by omega) (by omega) ?_
      intro v' w' ho hg hf
      have hsV : w.heap.size < (V1.alloc (.cells #[.string (str d.name), .string (str d.fam), .int .u8 d.level, .slice A7 n7 c7, .int .i8 d.score, .string (str d.quirk), .int .i16 d.entry] 30)).heap.size := by have := X6.out.size2; omega
      have hgq := (hg.block q (Nat.lt_trans hqs hsV) (fun e => (card_ne HQ.out).1 q e.symm rfl)).trans HBLQ.out
      have hbne : some w.heap.size ≠ (Value.slice ca cn cc).ownBlock := fun e => by have := (HQ.out.cl.2.1.lt _ e.symm).2; omega
      have kb : ∀ j, w'.cell? ⟨w.heap.size, j, none⟩ = (V1.alloc (.cells #[.string (str d.name), .string (str d.fam), .int .u8 d.level, .slice A7 n7 c7, .int .i8 d.score, .string (str d.quirk), .int .i16 d.entry] 30)).cell? ⟨w.heap.size, j, none⟩ := fun j => World.cell?_of_block (hg.block w.heap.size hsV hbne)
      obtain ⟨s0, s1, s2, s3, s4, s5, s6⟩ := hHeld
      have hH := show (fun w0 : World => w0.cell? ⟨w.heap.size, 0, none⟩ = some (.string (str d.name)) ∧ w0.cell? ⟨w.heap.size, 1, none⟩ = some (.string (str d.fam)) ∧ w0.cell? ⟨w.heap.size, 2, none⟩ = some (.int .u8 d.level) ∧ w0.cell? ⟨w.heap.size, 3, none⟩ = some (slV r) ∧ w0.cell? ⟨w.heap.size, 4, none⟩ = some (.int .i8 d.score) ∧ w0.cell? ⟨w.heap.size, 5, none⟩ = some (.string (str d.quirk)) ∧ w0.cell? ⟨w.heap.size, 6, none⟩ = some (.int .i16 d.entry)) w' from ⟨(kb 0).trans s0, (kb 1).trans s1, (kb 2).trans s2, (kb 3).trans s3, (kb 4).trans s4, (kb 5).trans s5, (kb 6).trans s6⟩
      obtain ⟨A3, c3, rfl, hrw⟩ := HSN.out (A7, n7, c7) W.drew (V1.alloc (.cells #[.string (str d.name), .string (str d.fam), .int .u8 d.level, .slice A7 n7 c7, .int .i8 d.score, .string (str d.quirk), .int .i16 d.entry] 30)) w' v' B4.out N7.out (own_belowK O7.out (grows' V1 _)) (bt D7.out (grows' V1 _)) hg ho
      clear kb s0 s1 s2 s3 s4 s5 s6
      refine hK.out _ _ hH (fun _ => ?_)
      clear hK K
      have hHeld := hH
      clear hH
      try simp only [Act.put, List.setIfInBounds_toArray, List.set_cons_zero, List.set_cons_succ]
      first | (refine skipH (i := 9) (dst := some 51) rfl rfl (by kernel_rfl) (by kernel_rfl) (by kernel_rfl) (fun _ _ _ h => h) (by rfl) hHeld ?_) | (refine' takeH (i := 9) (dst := some 51) (v := _) rfl rfl (by kernel_rfl) (by kernel_rfl) (by kernel_rfl) (fun _ _ _ h => h) (by rfl) ?hy hHeld ?_; case hy => (intro w hSw; clear hSw; (first | done | go_simp); try with_reducible rfl)) | fail
      try simp only [Act.put, List.setIfInBounds_toArray, List.set_cons_zero, List.set_cons_succ]
      first | (refine skipH (i := 10) (dst := some 52) rfl rfl (by kernel_rfl) (by kernel_rfl) (by kernel_rfl) (fun _ _ _ h => h) (by rfl) hHeld ?_) | (refine' takeH (i := 10) (dst := some 52) (v := _) rfl rfl (by kernel_rfl) (by kernel_rfl) (by kernel_rfl) (fun _ _ _ h => h) (by rfl) ?hy hHeld ?_; case hy => (intro w hSw; clear hSw; (first | done | go_simp); try with_reducible rfl)) | fail
      try simp only [Act.put, List.setIfInBounds_toArray, List.set_cons_zero, List.set_cons_succ]
      have y2 : w'.cell? ⟨q, 0, none⟩ = some (.slice ca cn cc) := by rw [Lib.cell_of_heap hgq 0]; rfl
      have y3 : w'.frozen? ⟨q, 0, none⟩ = false := Lib.frozen_of_heap hgq 0
      refine wpAnyH_ready (rs := [11]) (by kernel_rfl) (by simp) ?_
      refine AllReadyH.cons (i := 11) (o := ⟨none, .store _ _ _, _, _, _, _⟩) rfl (fun K hK => ?_) AllReadyH.nil
      go_simp
      obtain ⟨s0, s1, s2, s3, s4, s5, s6⟩ := hHeld
      have kb : ∀ j, (w'.setCell ⟨q, 0, none⟩ (.slice A3 (cn + 1) c3)).cell? ⟨w.heap.size, j, none⟩ = w'.cell? ⟨w.heap.size, j, none⟩ := fun j => World.cell?_setCell_other _ _ _ _ (by first | (simp; done) | (simp; intro e; omega))
      have hH := show (fun w0 : World => w0.cell? ⟨w.heap.size, 0, none⟩ = some (.string (str d.name)) ∧ w0.cell? ⟨w.heap.size, 1, none⟩ = some (.string (str d.fam)) ∧ w0.cell? ⟨w.heap.size, 2, none⟩ = some (.int .u8 d.level) ∧ w0.cell? ⟨w.heap.size, 3, none⟩ = some (slV r) ∧ w0.cell? ⟨w.heap.size, 4, none⟩ = some (.int .i8 d.score) ∧ w0.cell? ⟨w.heap.size, 5, none⟩ = some (.string (str d.quirk)) ∧ w0.cell? ⟨w.heap.size, 6, none⟩ = some (.int .i16 d.entry)) (w'.setCell ⟨q, 0, none⟩ (.slice A3 (cn + 1) c3)) from ⟨(kb 0).trans s0, (kb 1).trans s1, (kb 2).trans s2, (kb 3).trans s3, (kb 4).trans s4, (kb 5).trans s5, (kb 6).trans s6⟩
      refine hK.out _ _ hH (fun _ => ?_)
      clear hK K hH kb s0 s1 s2 s3 s4 s5 s6 y2 y3
      refine wpAnyH_done (by kernel_rfl) (NoPanic.normal ?_) _
      have hfr : Fresh w (slV (ca, cn, cc)) (slV (A3, cn + 1, c3)) := by
        rcases hf with h3 | h3
        · exact Or.inl h3
        · exact Or.inr fun g h => by have := h3 g h; omega
      have C1 := ((Ch.of_below (S := fun k => k = q ∨ (slV (ca, cn, cc)).ownBlock = some k) B6.out).grown hg (fun k hk => Or.inl (Or.inr hk))).set (p := ⟨q, 0, none⟩) (Or.inl (Or.inl rfl)) (.slice A3 (cn + 1) c3)
      have CQ : Ch (fun k => k = q) w' (w'.setCell ⟨q, 0, none⟩ (.slice A3 (cn + 1) c3)) := Ch.set (S := fun k => k = q) (Ch.refl _ w') (p := ⟨q, 0, none⟩) (Or.inl rfl) _
      have hrw2 : RowsOwn KC (w'.setCell ⟨q, 0, none⟩ (.slice A3 (cn + 1) c3)) 0 A3 (cn + 1) c3 (L ++ [d]) (RC ++ [(A7, n7, c7)]) := rows_ch hrw CQ (fun g h e => (by obtain ⟨_, _, ht⟩ := own_type hrw.2.1 h; exact type_ne ht hgq (by decide) e)) (fun i hi g h e => (by obtain ⟨_, _, ht⟩ := own_type (hrw.2.2.2.1 i hi).2 h; exact type_ne ht hgq (by decide) e))
      have HFIN : Hid (REnter X q (ca, cn, cc) (fa, fn, fc) n L G RC RF N false d w (.returned (.int .i64 0)) (w'.setCell ⟨q, 0, none⟩ (.slice A3 (cn + 1) c3))) := Lib.hid ⟨L ++ [d], G, 0, (A3, cn + 1, c3), (fa, fn, fc), RC ++ [(A7, n7, c7)], RF, rfl, qat_c HQ.out C1 (blk_set hgq 0 _) hrw2 (by rw [List.length_append]; have := HL.out; show L.length + 1 ≤ 64; omega) (mildL_snoc HQ.out.cm HM.out HL.out) hfr, C1.mono (fun k hk => hk.elim Or.inl (fun h => Or.inr (Or.inl h))), (by unfold ERel; exact Or.inr (Or.inr (Or.inr (Or.inr (Or.inr ⟨rfl, HOK.out, HDUP.out, HL.out, rfl, rfl, rfl⟩))))), hfr, Or.inl rfl⟩
      clear C1 CQ hrw2 hrw hfr ho hg hf hgq
      go_wp2_with fail
      go_ret
      exact HFIN.out
    · go_simp
      have B6 := Lib.hid (bt B5.out (grows' V1 (.cells #[.string (str d.name), .string (str d.fam), .int .u8 d.level, .slice A7 n7 c7, .int .i8 d.score, .string (str d.quirk), .int .i16 d.entry] 30)))
      have X6 := Lib.hid (X5.out.trans ((grows' V1 (.cells #[.string (str d.name), .string (str d.fam), .int .u8 d.level, .slice A7 n7 c7, .int .i8 d.score, .string (str d.quirk), .int .i16 d.entry] 30)).mono X5.out.size2))
      have hH := HB7.out _ X6.out
      refine hK.out _ _ hH (fun _ => ?_)
      clear hK K hHeld
      have hHeld := hH
      clear hH
      try simp only [Act.put, List.setIfInBounds_toArray, List.set_cons_zero, List.set_cons_succ]
      have y2 := HQW.out _ B6.out
      refine wpAnyH_ready (rs := [4]) (by kernel_rfl) (by simp) ?_
      refine AllReadyH.cons (i := 4) (o := ⟨some 46, .load _ _, _, _, _, _⟩) rfl (fun K hK => ?_) AllReadyH.nil
      skip
      go_simp
      refine hK.out _ _ hHeld (fun _ => ?_)
      clear hK K
      try simp only [Act.put, List.setIfInBounds_toArray, List.set_cons_zero, List.set_cons_succ]
      have HOWN : Hid ((V1.alloc (.cells #[.string (str d.name), .string (str d.fam), .int .u8 d.level, .slice A7 n7 c7, .int .i8 d.score, .string (str d.quirk), .int .i16 d.entry] 30)).ownsRow 0 30 7 (.slice ca cn cc) cn (KC.rows L RC)) := Lib.hid (HQ.out.below B6.out).cl.2.1
      have HBLQ := Lib.hid ((B6.out.block q HQ.out.lt).trans HQ.out.blk)
      have HNEW : Hid (∀ j u, (cells7 d (A7, n7, c7)).toList[j]? = some u → (V1.alloc (.cells #[.string (str d.name), .string (str d.fam), .int .u8 d.level, .slice A7 n7 c7, .int .i8 d.score, .string (str d.quirk), .int .i16 d.entry] 30)).cell? ((⟨V1.heap.size, 0, none⟩ : Addr).add j) = some u) := Lib.hid (fun j u hu => by
        rw [Ro.add_plain, World.cell?_alloc_at _ _ _ _ rfl, Nat.zero_add]
        simpa [cells7, slV] using hu)
      have hn16 : cn ≤ 64 := by omega
      refine wpAnyH_ready (rs := [8]) (by kernel_rfl) (by simp) ?_
      refine AllReadyH.cons (i := 8) (o := ⟨some 50, .call _, _, _, _, _⟩) rfl (fun K hK => ?_) AllReadyH.nil
      refine step_apartK (by first | rfl | simp [Region.wanted, yielded]) (.tmp 46) (.tmp 49) 23 (by rfl) 0 30 (.agg #[.string ⟨#[]⟩, .string ⟨#[]⟩, .int .u8 0, .slice none 0 0, .int .i8 0, .string ⟨#[]⟩, .int .i16 0]) 7 96 (by omega) Tryd.underlying23 info_card rfl (.slice ca cn cc) cn (KC.rows L RC) (by rfl) HOWN.out ⟨V1.heap.size, 0, none⟩ 1 1 (cells7 d (A7, n7, c7)).toList (by rfl) (by omega) rfl HNEW.out (by intro u hu; simp [cells7, slV] at hu; rcases hu with rfl | rfl | rfl | rfl | rfl | rfl | rfl <;> rfl) (by omega) (by omega) (by omega) ?_
      intro v' w' ho hg hf
      have hsV : w.heap.size < (V1.alloc (.cells #[.string (str d.name), .string (str d.fam), .int .u8 d.level, .slice A7 n7 c7, .int .i8 d.score, .string (str d.quirk), .int .i16 d.entry] 30)).heap.size := by have := X6.out.size2; omega
      have hgq := (hg.block q (Nat.lt_trans hqs hsV) (fun e => (card_ne HQ.out).1 q e.symm rfl)).trans HBLQ.out
      have hbne : some w.heap.size ≠ (Value.slice ca cn cc).ownBlock := fun e => by have := (HQ.out.cl.2.1.lt _ e.symm).2; omega
      have kb : ∀ j, w'.cell? ⟨w.heap.size, j, none⟩ = (V1.alloc (.cells #[.string (str d.name), .string (str d.fam), .int .u8 d.level, .slice A7 n7 c7, .int .i8 d.score, .string (str d.quirk), .int .i16 d.entry] 30)).cell? ⟨w.heap.size, j, none⟩ := fun j => World.cell?_of_block (hg.block w.heap.size hsV hbne)
      obtain ⟨s0, s1, s2, s3, s4, s5, s6⟩ := hHeld
      have hH := show (fun w0 : World => w0.cell? ⟨w.heap.size, 0, none⟩ = some (.string (str d.name)) ∧ w0.cell? ⟨w.heap.size, 1, none⟩ = some (.string (str d.fam)) ∧ w0.cell? ⟨w.heap.size, 2, none⟩ = some (.int .u8 d.level) ∧ w0.cell? ⟨w.heap.size, 3, none⟩ = some (slV r) ∧ w0.cell? ⟨w.heap.size, 4, none⟩ = some (.int .i8 d.score) ∧ w0.cell? ⟨w.heap.size, 5, none⟩ = some (.string (str d.quirk)) ∧ w0.cell? ⟨w.heap.size, 6, none⟩ = some (.int .i16 d.entry)) w' from ⟨(kb 0).trans s0, (kb 1).trans s1, (kb 2).trans s2, (kb 3).trans s3, (kb 4).trans s4, (kb 5).trans s5, (kb 6).trans s6⟩
      obtain ⟨A3, c3, rfl, hrw⟩ := HSN.out (A7, n7, c7) W.drew (V1.alloc (.cells #[.string (str d.name), .string (str d.fam), .int .u8 d.level, .slice A7 n7 c7, .int .i8 d.score, .string (str d.quirk), .int .i16 d.entry] 30)) w' v' B4.out N7.out (own_belowK O7.out (grows' V1 _)) (bt D7.out (grows' V1 _)) hg ho
      clear kb s0 s1 s2 s3 s4 s5 s6
      refine hK.out _ _ hH (fun _ => ?_)
      clear hK K
      have hHeld := hH
      clear hH
      try simp only [Act.put, List.setIfInBounds_toArray, List.set_cons_zero, List.set_cons_succ]
      first | (refine skipH (i := 9) (dst := some 51) rfl rfl (by kernel_rfl) (by kernel_rfl) (by kernel_rfl) (fun _ _ _ h => h) (by rfl) hHeld ?_) | (refine' takeH (i := 9) (dst := some 51) (v := _) rfl rfl (by kernel_rfl) (by kernel_rfl) (by kernel_rfl) (fun _ _ _ h => h) (by rfl) ?hy hHeld ?_; case hy => (intro w hSw; clear hSw; (first | done | go_simp); try with_reducible rfl)) | fail
      try simp only [Act.put, List.setIfInBounds_toArray, List.set_cons_zero, List.set_cons_succ]
      first | (refine skipH (i := 10) (dst := some 52) rfl rfl (by kernel_rfl) (by kernel_rfl) (by kernel_rfl) (fun _ _ _ h => h) (by rfl) hHeld ?_) | (refine' takeH (i := 10) (dst := some 52) (v := _) rfl rfl (by kernel_rfl) (by kernel_rfl) (by kernel_rfl) (fun _ _ _ h => h) (by rfl) ?hy hHeld ?_; case hy => (intro w hSw; clear hSw; (first | done | go_simp); try with_reducible rfl)) | fail
      try simp only [Act.put, List.setIfInBounds_toArray, List.set_cons_zero, List.set_cons_succ]
      have y2 : w'.cell? ⟨q, 0, none⟩ = some (.slice ca cn cc) := by rw [Lib.cell_of_heap hgq 0]; rfl
      have y3 : w'.frozen? ⟨q, 0, none⟩ = false := Lib.frozen_of_heap hgq 0
      refine wpAnyH_ready (rs := [11]) (by kernel_rfl) (by simp) ?_
      refine AllReadyH.cons (i := 11) (o := ⟨none, .store _ _ _, _, _, _, _⟩) rfl (fun K hK => ?_) AllReadyH.nil
      go_simp
      obtain ⟨s0, s1, s2, s3, s4, s5, s6⟩ := hHeld
      have kb : ∀ j, (w'.setCell ⟨q, 0, none⟩ (.slice A3 (cn + 1) c3)).cell? ⟨w.heap.size, j, none⟩ = w'.cell? ⟨w.heap.size, j, none⟩ := fun j => World.cell?_setCell_other _ _ _ _ (by first | (simp; done) | (simp; intro e; omega))
      have hH := show (fun w0 : World => w0.cell? ⟨w.heap.size, 0, none⟩ = some (.string (str d.name)) ∧ w0.cell? ⟨w.heap.size, 1, none⟩ = some (.string (str d.fam)) ∧ w0.cell? ⟨w.heap.size, 2, none⟩ = some (.int .u8 d.level) ∧ w0.cell? ⟨w.heap.size, 3, none⟩ = some (slV r) ∧ w0.cell? ⟨w.heap.size, 4, none⟩ = some (.int .i8 d.score) ∧ w0.cell? ⟨w.heap.size, 5, none⟩ = some (.string (str d.quirk)) ∧ w0.cell? ⟨w.heap.size, 6, none⟩ = some (.int .i16 d.entry)) (w'.setCell ⟨q, 0, none⟩ (.slice A3 (cn + 1) c3)) from ⟨(kb 0).trans s0, (kb 1).trans s1, (kb 2).trans s2, (kb 3).trans s3, (kb 4).trans s4, (kb 5).trans s5, (kb 6).trans s6⟩
      refine hK.out _ _ hH (fun _ => ?_)
      clear hK K hH kb s0 s1 s2 s3 s4 s5 s6 y2 y3
      refine wpAnyH_done (by kernel_rfl) (NoPanic.normal ?_) _
      have hfr : Fresh w (slV (ca, cn, cc)) (slV (A3, cn + 1, c3)) := by
        rcases hf with h3 | h3
        · exact Or.inl h3
        · exact Or.inr fun g h => by have := h3 g h; omega
      have C1 := ((Ch.of_below (S := fun k => k = q ∨ (slV (ca, cn, cc)).ownBlock = some k) B6.out).grown hg (fun k hk => Or.inl (Or.inr hk))).set (p := ⟨q, 0, none⟩) (Or.inl (Or.inl rfl)) (.slice A3 (cn + 1) c3)
      have CQ : Ch (fun k => k = q) w' (w'.setCell ⟨q, 0, none⟩ (.slice A3 (cn + 1) c3)) := Ch.set (S := fun k => k = q) (Ch.refl _ w') (p := ⟨q, 0, none⟩) (Or.inl rfl) _
      have hrw2 : RowsOwn KC (w'.setCell ⟨q, 0, none⟩ (.slice A3 (cn + 1) c3)) 0 A3 (cn + 1) c3 (L ++ [d]) (RC ++ [(A7, n7, c7)]) := rows_ch hrw CQ (fun g h e => (by obtain ⟨_, _, ht⟩ := own_type hrw.2.1 h; exact type_ne ht hgq (by decide) e)) (fun i hi g h e => (by obtain ⟨_, _, ht⟩ := own_type (hrw.2.2.2.1 i hi).2 h; exact type_ne ht hgq (by decide) e))
      have HFIN : Hid (REnter X q (ca, cn, cc) (fa, fn, fc) n L G RC RF N false d w (.returned (.int .i64 0)) (w'.setCell ⟨q, 0, none⟩ (.slice A3 (cn + 1) c3))) := Lib.hid ⟨L ++ [d], G, 0, (A3, cn + 1, c3), (fa, fn, fc), RC ++ [(A7, n7, c7)], RF, rfl, qat_c HQ.out C1 (blk_set hgq 0 _) hrw2 (by rw [List.length_append]; have := HL.out; show L.length + 1 ≤ 64; omega) (mildL_snoc HQ.out.cm HM.out HL.out) hfr, C1.mono (fun k hk => hk.elim Or.inl (fun h => Or.inr (Or.inl h))), (by unfold ERel; exact Or.inr (Or.inr (Or.inr (Or.inr (Or.inr ⟨rfl, HOK.out, HDUP.out, HL.out, rfl, rfl, rfl⟩))))), hfr, Or.inl rfl⟩
      clear C1 CQ hrw2 hrw hfr ho hg hf hgq
      go_wp2_with fail
      go_ret
      exact HFIN.out
set_option maxRecDepth 100000 in
set_option maxHeartbeats 16000000 in
theorem rEnter_f {q : Nat} {c f n : Sl} {L G : List Cd} {RC RF : List Sl} {N : List Nt} (d : Cd) (r : Sl) (w : World) (h : Qat X w q c f n L G RC RF N false) (hm : MildC 1099511627776 d) (hr : r.2.1 = d.compat.length) (hne : Neat r) (hs : CellsIn w 1 r.1 r.2.1 (strs d.compat)) (hok : CardOk d) (hdup : DupL L d.name) (hl : G.length < 64) :
    Calls Tryd.prog 57 #[.pointer (some ⟨q, 0, none⟩), cardV d r] w (REnter X q c f n L G RC RF N false d w) := by
  have HQ := Lib.hid h
  have HOK := Lib.hid hok
  have HDUP := Lib.hid hdup
  have HM := Lib.hid hm
  have HL := Lib.hid hl
  have hqs := h.lt
  have hcl : c.2.1 = L.length := h.cl.1
  have hfl : f.2.1 = G.length := h.fl.1
  have hl64 := h.c64
  have hf64 := h.f64
  have HMAY := Lib.hid fun (W : World) (hW : Below w.heap.size w W) => may_any d r true W ⟨fun _ => hok, fun _ => rfl⟩ hm hr (hs.below hW)
  have HTW := Lib.hid fun (W : World) (hW : Below w.heap.size w W) => twin_any d r W hm hr hne (hs.below hW)
  have HNAM := Lib.hid fun (W : World) (hW : Below w.heap.size w W) => named_any c.1 c.2.2 c.2.1 L RC d.name true W (by simpa [DupL] using hdup) h.c64 (h.cl.below hW).rows
  have HBOX := Lib.hid fun (W : World) (hW : Below (w.heap.size + 1) (w.alloc (.cells (cells7 d r) 30)) W) (j : Nat) (u : Value) (hu : (cells7 d r)[j]? = some u) => show W.cell? ⟨w.heap.size, j, none⟩ = some u by rw [hW.cell (p := ⟨w.heap.size, j, none⟩) (by simp)]; exact box7s w d r 30 j u hu
  have B1 := Lib.hid (grows' w (.cells (cells7 d r) 30))
  have Q1 := Lib.hid (h.below B1.out)
  have HSN : Hid (∀ (r' : Sl) (V V2 w' : World) (v' : Value), Below w.heap.size w V → r'.2.1 = d.compat.length → V2.ownsRow V.heap.size 9 1 (slV r') r'.2.1 (strs d.compat) → Below V.heap.size V V2 → V2.grownBy w' (slV f).ownBlock → w'.ownsRow 0 30 7 v' (f.2.1 + 1) (KC.rows G RF ++ (cells7 d r').toList) → ∃ A3 c3, v' = .slice A3 (f.2.1 + 1) c3 ∧ RowsOwn KC w' 0 A3 (f.2.1 + 1) c3 (G ++ [d]) (RF ++ [r'])) := Lib.hid (fun r' V V2 w' v' hV h1 h2 h3 h4 h5 =>
    RowsOwn.snoc (K := KC) (h.fl.below (bt hV h3)) h1 h2 (Nat.zero_le _) (fun i hi g hg => Nat.lt_of_lt_of_le (h.fl.2.2.lt i hi g hg) hV.size) h4 h5)
  clear h hm hr hne hs hok hdup hl
  obtain ⟨ca, cn, cc⟩ := c
  obtain ⟨fa, fn, fc⟩ := f
  simp only at hcl hfl
  have hc64 : (cn : Int) ≤ 64 := by omega
  have hf64' : (fn : Int) ≤ 64 := by omega
  have hlt : decide ((64 : Int) ≤ (fn : Int)) = false := decide_eq_false (by have := HL.out; omega)
  have HCL := Lib.hid hcl
  have HFL := Lib.hid hfl
  clear hcl hfl
  unfold cardV at HMAY HTW ⊢
  unfold cells7 at HMAY HTW HBOX B1 Q1 ⊢
  go_enter Tryd.func57, Tryd.ntmps57
  have x3 := Q1.out.cell (j := 3) rfl
  have xb := HBOX.out _ (Below.refl _ _)
  have b0 := xb 0 _ rfl
  have b1 := xb 1 _ rfl
  have b2 := xb 2 _ rfl
  have b3 := xb 3 _ rfl
  have b4 := xb 4 _ rfl
  have b5 := xb 5 _ rfl
  have b6 := xb 6 _ rfl
  clear xb
  go_wp2_with fail
  refine (HMAY.out _ B1.out).mono ?_
  rintro e W2 ⟨rfl, hb2⟩
  have B2 := Lib.hid (bt B1.out hb2)
  have X2 := Lib.hid (hb2.mono (show w.heap.size + 1 ≤ _ by simp))
  have Q2 := Lib.hid (HQ.out.below B2.out)
  clear b0 b1 b2 b3 b4 b5 b6 x3 hb2 HMAY
  have b0 := HBOX.out W2 X2.out 0 _ rfl
  have x0 := Q2.out.cell (j := 0) rfl
  simp only [slV] at x0
  have HNM2 : Hid (Calls Tryd.prog 89 #[.slice ca cn cc, .string (str d.name)] W2.drew (fun e w' => e = .returned (.bool true) ∧ w' = W2.drew)) := Lib.hid (HNAM.out W2.drew (below_dr B2.out 1))
  go_wp2_with fail
  refine wp_region_noPanic ?_
  refine wp_region_held_drew (S := fun w' => w'.cell? ⟨q, 0, none⟩ = some (.slice ca cn cc) ∧ w'.cell? ⟨w.heap.size, 0, none⟩ = some (.string (str d.name))) (by kernel_rfl) ⟨x0, b0⟩ (fun hHeld => ?_)
  first | (refine skipH (i := 0) (dst := some 12) rfl rfl (by kernel_rfl) (by kernel_rfl) (by kernel_rfl) (fun _ _ _ h => h) (by rfl) hHeld ?_) | (refine' takeH (i := 0) (dst := some 12) (v := _) rfl rfl (by kernel_rfl) (by kernel_rfl) (by kernel_rfl) (fun _ _ _ h => h) (by rfl) ?hy hHeld ?_; case hy => (intro w hSw; clear hSw; (first | done | go_simp); try with_reducible rfl)) | fail
  try simp only [Act.put, List.setIfInBounds_toArray, List.set_cons_zero, List.set_cons_succ]
  first | (refine skipH (i := 1) (dst := some 13) rfl rfl (by kernel_rfl) (by kernel_rfl) (by kernel_rfl) (fun _ _ _ h => h) (by rfl) hHeld ?_) | (refine' takeH (i := 1) (dst := some 13) (v := _) rfl rfl (by kernel_rfl) (by kernel_rfl) (by kernel_rfl) (fun _ _ _ h => h) (by rfl) ?hy hHeld ?_; case hy => (intro w hSw; clear hSw; (first | done | go_simp); try with_reducible rfl)) | fail
  try simp only [Act.put, List.setIfInBounds_toArray, List.set_cons_zero, List.set_cons_succ]
  first | (refine skipH (i := 2) (dst := some 14) rfl rfl (by kernel_rfl) (by kernel_rfl) (by kernel_rfl) (fun _ _ _ h => h) (by rfl) hHeld ?_) | (refine' takeH (i := 2) (dst := some 14) (v := _) rfl rfl (by kernel_rfl) (by kernel_rfl) (by kernel_rfl) (fun _ _ _ h => h) (by rfl) ?hy hHeld ?_; case hy => (intro w hSw; clear hSw; (first | done | go_simp); try with_reducible rfl)) | fail
  try simp only [Act.put, List.setIfInBounds_toArray, List.set_cons_zero, List.set_cons_succ]
  first | (refine skipH (i := 3) (dst := some 15) rfl rfl (by kernel_rfl) (by kernel_rfl) (by kernel_rfl) (fun _ _ _ h => h) (by rfl) hHeld ?_) | (refine' takeH (i := 3) (dst := some 15) (v := _) rfl rfl (by kernel_rfl) (by kernel_rfl) (by kernel_rfl) (fun _ _ _ h => h) (by rfl) ?hy hHeld ?_; case hy => (intro w hSw; obtain ⟨_, _⟩ := hSw; (first | done | go_simp); try with_reducible rfl)) | fail
  try simp only [Act.put, List.setIfInBounds_toArray, List.set_cons_zero, List.set_cons_succ]
  first | (refine skipH (i := 4) (dst := some 16) rfl rfl (by kernel_rfl) (by kernel_rfl) (by kernel_rfl) (fun _ _ _ h => h) (by rfl) hHeld ?_) | (refine' takeH (i := 4) (dst := some 16) (v := _) rfl rfl (by kernel_rfl) (by kernel_rfl) (by kernel_rfl) (fun _ _ _ h => h) (by rfl) ?hy hHeld ?_; case hy => (intro w hSw; clear hSw; (first | done | go_simp); try with_reducible rfl)) | fail
  try simp only [Act.put, List.setIfInBounds_toArray, List.set_cons_zero, List.set_cons_succ]
  first | (refine skipH (i := 5) (dst := some 17) rfl rfl (by kernel_rfl) (by kernel_rfl) (by kernel_rfl) (fun _ _ _ h => h) (by rfl) hHeld ?_) | (refine' takeH (i := 5) (dst := some 17) (v := _) rfl rfl (by kernel_rfl) (by kernel_rfl) (by kernel_rfl) (fun _ _ _ h => h) (by rfl) ?hy hHeld ?_; case hy => (intro w hSw; obtain ⟨_, _⟩ := hSw; (first | done | go_simp); try with_reducible rfl)) | fail
  try simp only [Act.put, List.setIfInBounds_toArray, List.set_cons_zero, List.set_cons_succ]
  refine wpAnyH_ready (rs := [6]) (by kernel_rfl) (by simp) ?_
  refine AllReadyH.cons (i := 6) (o := ⟨some 18, .call _, _, _, _, _⟩) rfl (fun K hK => ?_) AllReadyH.nil
  go_simp
  refine HNM2.out.mono ?_
  rintro e w5 ⟨rfl, rfl⟩
  have hH := hHeld
  refine hK.out _ _ hH (fun _ => ?_)
  clear hK K hHeld
  have hHeld := hH
  clear hH
  try simp only [Act.put, List.setIfInBounds_toArray, List.set_cons_zero, List.set_cons_succ]
  refine wpAnyH_done (by kernel_rfl) (NoPanic.normal ?_) _
  clear hHeld b0 x0
  have B3 : Hid (Below w.heap.size w W2.drew) := Lib.hid (below_dr B2.out 1)
  have X3 : Hid (Below (w.heap.size + 1) (w.alloc (.cells #[.string (str d.name), .string (str d.fam), .int .u8 d.level, slV r, .int .i8 d.score, .string (str d.quirk), .int .i16 d.entry] 30)) W2.drew) := Lib.hid (below_dr X2.out 1)
  have Q3 : Hid (Qat X W2.drew q (ca, cn, cc) (fa, fn, fc) n L G RC RF N false) := Lib.hid (HQ.out.below B3.out)
  generalize W2.drew = W at B3 X3 Q3 ⊢
  clear B2 X2 Q2 B1 Q1
  have x0 := Q3.out.cell (j := 1) rfl
  simp only [slV] at x0
  go_wp2_with fail
  have B4 : Hid (Below w.heap.size w W.drew) := Lib.hid (below_dr B3.out 1)
  have HB7 := Lib.hid (fun (V : World) (hV : Below (w.heap.size + 1) (w.alloc (.cells #[.string (str d.name), .string (str d.fam), .int .u8 d.level, slV r, .int .i8 d.score, .string (str d.quirk), .int .i16 d.entry] 30)) V) => show (fun w' : World => w'.cell? ⟨w.heap.size, 0, none⟩ = some (.string (str d.name)) ∧ w'.cell? ⟨w.heap.size, 1, none⟩ = some (.string (str d.fam)) ∧ w'.cell? ⟨w.heap.size, 2, none⟩ = some (.int .u8 d.level) ∧ w'.cell? ⟨w.heap.size, 3, none⟩ = some (slV r) ∧ w'.cell? ⟨w.heap.size, 4, none⟩ = some (.int .i8 d.score) ∧ w'.cell? ⟨w.heap.size, 5, none⟩ = some (.string (str d.quirk)) ∧ w'.cell? ⟨w.heap.size, 6, none⟩ = some (.int .i16 d.entry)) V from ⟨HBOX.out V hV 0 _ rfl, HBOX.out V hV 1 _ rfl, HBOX.out V hV 2 _ rfl, HBOX.out V hV 3 _ rfl, HBOX.out V hV 4 _ rfl, HBOX.out V hV 5 _ rfl, HBOX.out V hV 6 _ rfl⟩)
  have X4 := Lib.hid (below_dr X3.out 1)
  clear HBOX HNAM
  refine wp_region_noPanic ?_
  refine wp_region_held_drew (S := fun w' => w'.cell? ⟨w.heap.size, 0, none⟩ = some (.string (str d.name)) ∧ w'.cell? ⟨w.heap.size, 1, none⟩ = some (.string (str d.fam)) ∧ w'.cell? ⟨w.heap.size, 2, none⟩ = some (.int .u8 d.level) ∧ w'.cell? ⟨w.heap.size, 3, none⟩ = some (slV r) ∧ w'.cell? ⟨w.heap.size, 4, none⟩ = some (.int .i8 d.score) ∧ w'.cell? ⟨w.heap.size, 5, none⟩ = some (.string (str d.quirk)) ∧ w'.cell? ⟨w.heap.size, 6, none⟩ = some (.int .i16 d.entry)) (by kernel_rfl) (HB7.out _ X4.out) (fun hHeld => ?_)
  first | (refine skipH (i := 0) (dst := some 25) rfl rfl (by kernel_rfl) (by kernel_rfl) (by kernel_rfl) (fun _ _ _ h => h) (by rfl) hHeld ?_) | (refine' takeH (i := 0) (dst := some 25) (v := _) rfl rfl (by kernel_rfl) (by kernel_rfl) (by kernel_rfl) (fun _ _ _ h => h) (by rfl) ?hy hHeld ?_; case hy => (intro w hSw; clear hSw; (first | done | go_simp); try with_reducible rfl)) | fail
  try simp only [Act.put, List.setIfInBounds_toArray, List.set_cons_zero, List.set_cons_succ]
  first | (refine skipH (i := 1) (dst := some 26) rfl rfl (by kernel_rfl) (by kernel_rfl) (by kernel_rfl) (fun _ _ _ h => h) (by rfl) hHeld ?_) | (refine' takeH (i := 1) (dst := some 26) (v := _) rfl rfl (by kernel_rfl) (by kernel_rfl) (by kernel_rfl) (fun _ _ _ h => h) (by rfl) ?hy hHeld ?_; case hy => (intro w hSw; clear hSw; (first | done | go_simp); try with_reducible rfl)) | fail
  try simp only [Act.put, List.setIfInBounds_toArray, List.set_cons_zero, List.set_cons_succ]
  first | (refine skipH (i := 2) (dst := some 27) rfl rfl (by kernel_rfl) (by kernel_rfl) (by kernel_rfl) (fun _ _ _ h => h) (by rfl) hHeld ?_) | (refine' takeH (i := 2) (dst := some 27) (v := _) rfl rfl (by kernel_rfl) (by kernel_rfl) (by kernel_rfl) (fun _ _ _ h => h) (by rfl) ?hy hHeld ?_; case hy => (intro w hSw; clear hSw; (first | done | go_simp); try with_reducible rfl)) | fail
  try simp only [Act.put, List.setIfInBounds_toArray, List.set_cons_zero, List.set_cons_succ]
  first | (refine skipH (i := 3) (dst := some 28) rfl rfl (by kernel_rfl) (by kernel_rfl) (by kernel_rfl) (fun _ _ _ h => h) (by rfl) hHeld ?_) | (refine' takeH (i := 3) (dst := some 28) (v := _) rfl rfl (by kernel_rfl) (by kernel_rfl) (by kernel_rfl) (fun _ _ _ h => h) (by rfl) ?hy hHeld ?_; case hy => (intro w hSw; clear hSw; (first | done | go_simp); try with_reducible rfl)) | fail
  try simp only [Act.put, List.setIfInBounds_toArray, List.set_cons_zero, List.set_cons_succ]
  first | (refine skipH (i := 5) (dst := some 30) rfl rfl (by kernel_rfl) (by kernel_rfl) (by kernel_rfl) (fun _ _ _ h => h) (by rfl) hHeld ?_) | (refine' takeH (i := 5) (dst := some 30) (v := _) rfl rfl (by kernel_rfl) (by kernel_rfl) (by kernel_rfl) (fun _ _ _ h => h) (by rfl) ?hy hHeld ?_; case hy => (intro w hSw; obtain ⟨_, _, _, _, _, _, _⟩ := hSw; (first | done | go_simp); try with_reducible rfl)) | fail
  try simp only [Act.put, List.setIfInBounds_toArray, List.set_cons_zero, List.set_cons_succ]
  have x4 := x0
  have HTW4 : Hid (Calls Tryd.prog 17 #[.agg #[.string (str d.name), .string (str d.fam), .int .u8 d.level, slV r, .int .i8 d.score, .string (str d.quirk), .int .i16 d.entry]] W.drew (MadeC d W.drew)) := Lib.hid (HTW.out W.drew B4.out)
  have HQW := Lib.hid fun (V : World) (hV : Below w.heap.size w V) => show V.cell? ⟨q, 1, none⟩ = some (.slice fa fn fc) from (HQ.out.below hV).cell (j := 1) rfl
  clear HTW
  refine wpAnyH_ready (rs := [4, 6]) (by kernel_rfl) (by simp) ?_
  refine AllReadyH.cons (i := 4) (o := ⟨some 29, .load _ _, _, _, _, _⟩) rfl (fun K hK => ?_) (AllReadyH.cons (i := 6) (o := ⟨some 31, .call _, _, _, _, _⟩) rfl (fun K hK => ?_) AllReadyH.nil)
  · skip
    go_simp
    refine hK.out _ _ hHeld (fun _ => ?_)
    clear hK K
    try simp only [Act.put, List.setIfInBounds_toArray, List.set_cons_zero, List.set_cons_succ]
    refine wpAnyH_ready (rs := [6]) (by kernel_rfl) (by simp) ?_
    refine AllReadyH.cons (i := 6) (o := ⟨some 31, .call _, _, _, _, _⟩) rfl (fun K hK => ?_) AllReadyH.nil
    go_simp
    refine HTW4.out.mono ?_
    rintro e V1 ⟨A7, c7, n7, rfl, hn7, ho7, hb7⟩
    have B5 := Lib.hid (bt B4.out hb7)
    have X5 := Lib.hid (X4.out.trans (hb7.mono (Nat.le_trans (Nat.le_refl _) X4.out.size2)))
    have O7 := Lib.hid ho7
    have N7 := Lib.hid hn7
    have D7 := Lib.hid hb7
    have hH := HB7.out V1 X5.out
    clear ho7 hn7 hb7
    refine hK.out _ _ hH (fun _ => ?_)
    clear hK K hHeld
    have hHeld := hH
    clear hH
    unfold cardV cells7
    simp only [slV]
    try simp only [Act.put, List.setIfInBounds_toArray, List.set_cons_zero, List.set_cons_succ]
    refine wpAnyH_ready (rs := [7]) (by kernel_rfl) (by simp) ?_
    refine AllReadyH.cons (i := 7) (o := ⟨some 32, .buildSlice _ _ _, _, _, _, _⟩) rfl (fun K hK => ?_) AllReadyH.nil
    go_simp
    have B6 := Lib.hid (bt B5.out (grows' V1 (.cells #[.string (str d.name), .string (str d.fam), .int .u8 d.level, .slice A7 n7 c7, .int .i8 d.score, .string (str d.quirk), .int .i16 d.entry] 30)))
    have X6 := Lib.hid (X5.out.trans ((grows' V1 (.cells #[.string (str d.name), .string (str d.fam), .int .u8 d.level, .slice A7 n7 c7, .int .i8 d.score, .string (str d.quirk), .int .i16 d.entry] 30)).mono X5.out.size2))
    have hH := HB7.out _ X6.out
    refine hK.out _ _ hH (fun _ => ?_)
    clear hK K hHeld
    have hHeld := hH
    clear hH
    try simp only [Act.put, List.setIfInBounds_toArray, List.set_cons_zero, List.set_cons_succ]
    have HOWN : Hid ((V1.alloc (.cells #[.string (str d.name), .string (str d.fam), .int .u8 d.level, .slice A7 n7 c7, .int .i8 d.score, .string (str d.quirk), .int .i16 d.entry] 30)).ownsRow 0 30 7 (.slice fa fn fc) fn (KC.rows G RF)) := Lib.hid (HQ.out.below B6.out).fl.2.1
    have HBLQ := Lib.hid ((B6.out.block q HQ.out.lt).trans HQ.out.blk)
    have HNEW : Hid (∀ j u, (cells7 d (A7, n7, c7)).toList[j]? = some u → (V1.alloc (.cells #[.string (str d.name), .string (str d.fam), .int .u8 d.level, .slice A7 n7 c7, .int .i8 d.score, .string (str d.quirk), .int .i16 d.entry] 30)).cell? ((⟨V1.heap.size, 0, none⟩ : Addr).add j) = some u) := Lib.hid (fun j u hu => by
      rw [Ro.add_plain, World.cell?_alloc_at _ _ _ _ rfl, Nat.zero_add]
      simpa [cells7, slV] using hu)
    have hn16 : fn ≤ 64 := by omega
    refine wpAnyH_ready (rs := [8]) (by kernel_rfl) (by simp) ?_
    refine AllReadyH.cons (i := 8) (o := ⟨some 33, .call _, _, _, _, _⟩) rfl (fun K hK => ?_) AllReadyH.nil
    refine step_apartK (by first | rfl | simp [Region.wanted, yielded]) (.tmp 29) (.tmp 32) 23 (by rfl) 0 30 (.agg #[.string ⟨#[]⟩, .string ⟨#[]⟩, .int .u8 0, .slice none 0 0, .int .i8 0, .string ⟨#[]⟩, .int .i16 0]) 7 96 (by omega) Tryd.underlying23 info_card rfl (.slice fa fn fc) fn (KC.rows G RF) (by rfl) HOWN.out ⟨V1.heap.size, 0, none⟩ 1 1 (cells7 d (A7, n7, c7)).toList (by rfl) (by omega) rfl HNEW.out (by intro u hu; simp [cells7, slV] at hu; rcases hu with rfl | rfl | rfl | rfl | rfl | rfl | rfl <;> rfl) (by omega) (by omega) (by omega) ?_
    intro v' w' ho hg hf
    have hsV : w.heap.size < (V1.alloc (.cells #[.string (str d.name), .string (str d.fam), .int .u8 d.level, .slice A7 n7 c7, .int .i8 d.score, .string (str d.quirk), .int .i16 d.entry] 30)).heap.size := by have := X6.out.size2; omega
    have hgq := (hg.block q (Nat.lt_trans hqs hsV) (fun e => (card_ne HQ.out).2 q e.symm rfl)).trans HBLQ.out
    have hbne : some w.heap.size ≠ (Value.slice fa fn fc).ownBlock := fun e => by have := (HQ.out.fl.2.1.lt _ e.symm).2; omega
    have kb : ∀ j, w'.cell? ⟨w.heap.size, j, none⟩ = (V1.alloc (.cells #[.string (str d.name), .string (str d.fam), .int .u8 d.level, .slice A7 n7 c7, .int .i8 d.score, .string (str d.quirk), .int .i16 d.entry] 30)).cell? ⟨w.heap.size, j, none⟩ := fun j => World.cell?_of_block (hg.block w.heap.size hsV hbne)
    obtain ⟨s0, s1, s2, s3, s4, s5, s6⟩ := hHeld
    have hH := show (fun w0 : World => w0.cell? ⟨w.heap.size, 0, none⟩ = some (.string (str d.name)) ∧ w0.cell? ⟨w.heap.size, 1, none⟩ = some (.string (str d.fam)) ∧ w0.cell? ⟨w.heap.size, 2, none⟩ = some (.int .u8 d.level) ∧ w0.cell? ⟨w.heap.size, 3, none⟩ = some (slV r) ∧ w0.cell? ⟨w.heap.size, 4, none⟩ = some (.int .i8 d.score) ∧ w0.cell? ⟨w.heap.size, 5, none⟩ = some (.string (str d.quirk)) ∧ w0.cell? ⟨w.heap.size, 6, none⟩ = some (.int .i16 d.entry)) w' from ⟨(kb 0).trans s0, (kb 1).trans s1, (kb 2).trans s2, (kb 3).trans s3, (kb 4).trans s4, (kb 5).trans s5, (kb 6).trans s6⟩
    obtain ⟨A3, c3, rfl, hrw⟩ := HSN.out (A7, n7, c7) W.drew (V1.alloc (.cells #[.string (str d.name), .string (str d.fam), .int .u8 d.level, .slice A7 n7 c7, .int .i8 d.score, .string (str d.quirk), .int .i16 d.entry] 30)) w' v' B4.out N7.out (own_belowK O7.out (grows' V1 _)) (bt D7.out (grows' V1 _)) hg ho
    clear kb s0 s1 s2 s3 s4 s5 s6
    refine hK.out _ _ hH (fun _ => ?_)
    clear hK K
    have hHeld := hH
    clear hH
    try simp only [Act.put, List.setIfInBounds_toArray, List.set_cons_zero, List.set_cons_succ]
    first | (refine skipH (i := 9) (dst := some 34) rfl rfl (by kernel_rfl) (by kernel_rfl) (by kernel_rfl) (fun _ _ _ h => h) (by rfl) hHeld ?_) | (refine' takeH (i := 9) (dst := some 34) (v := _) rfl rfl (by kernel_rfl) (by kernel_rfl) (by kernel_rfl) (fun _ _ _ h => h) (by rfl) ?hy hHeld ?_; case hy => (intro w hSw; clear hSw; (first | done | go_simp); try with_reducible rfl)) | fail
    try simp only [Act.put, List.setIfInBounds_toArray, List.set_cons_zero, List.set_cons_succ]
    first | (refine skipH (i := 10) (dst := some 35) rfl rfl (by kernel_rfl) (by kernel_rfl) (by kernel_rfl) (fun _ _ _ h => h) (by rfl) hHeld ?_) | (refine' takeH (i := 10) (dst := some 35) (v := _) rfl rfl (by kernel_rfl) (by kernel_rfl) (by kernel_rfl) (fun _ _ _ h => h) (by rfl) ?hy hHeld ?_; case hy => (intro w hSw; clear hSw; (first | done | go_simp); try with_reducible rfl)) | fail
    try simp only [Act.put, List.setIfInBounds_toArray, List.set_cons_zero, List.set_cons_succ]
    have y2 : w'.cell? ⟨q, 1, none⟩ = some (.slice fa fn fc) := by rw [Lib.cell_of_heap hgq 1]; rfl
    have y3 : w'.frozen? ⟨q, 1, none⟩ = false := Lib.frozen_of_heap hgq 1
    refine wpAnyH_ready (rs := [11]) (by kernel_rfl) (by simp) ?_
    refine AllReadyH.cons (i := 11) (o := ⟨none, .store _ _ _, _, _, _, _⟩) rfl (fun K hK => ?_) AllReadyH.nil
    go_simp
    obtain ⟨s0, s1, s2, s3, s4, s5, s6⟩ := hHeld
    have kb : ∀ j, (w'.setCell ⟨q, 1, none⟩ (.slice A3 (fn + 1) c3)).cell? ⟨w.heap.size, j, none⟩ = w'.cell? ⟨w.heap.size, j, none⟩ := fun j => World.cell?_setCell_other _ _ _ _ (by first | (simp; done) | (simp; intro e; omega))
    have hH := show (fun w0 : World => w0.cell? ⟨w.heap.size, 0, none⟩ = some (.string (str d.name)) ∧ w0.cell? ⟨w.heap.size, 1, none⟩ = some (.string (str d.fam)) ∧ w0.cell? ⟨w.heap.size, 2, none⟩ = some (.int .u8 d.level) ∧ w0.cell? ⟨w.heap.size, 3, none⟩ = some (slV r) ∧ w0.cell? ⟨w.heap.size, 4, none⟩ = some (.int .i8 d.score) ∧ w0.cell? ⟨w.heap.size, 5, none⟩ = some (.string (str d.quirk)) ∧ w0.cell? ⟨w.heap.size, 6, none⟩ = some (.int .i16 d.entry)) (w'.setCell ⟨q, 1, none⟩ (.slice A3 (fn + 1) c3)) from ⟨(kb 0).trans s0, (kb 1).trans s1, (kb 2).trans s2, (kb 3).trans s3, (kb 4).trans s4, (kb 5).trans s5, (kb 6).trans s6⟩
    refine hK.out _ _ hH (fun _ => ?_)
    clear hK K hH kb s0 s1 s2 s3 s4 s5 s6 y2 y3
    refine wpAnyH_done (by kernel_rfl) (NoPanic.normal ?_) _
    have hfr : Fresh w (slV (fa, fn, fc)) (slV (A3, fn + 1, c3)) := by
      rcases hf with h3 | h3
      · exact Or.inl h3
      · exact Or.inr fun g h => by have := h3 g h; omega
    have C1 := ((Ch.of_below (S := fun k => k = q ∨ (slV (fa, fn, fc)).ownBlock = some k) B6.out).grown hg (fun k hk => Or.inl (Or.inr hk))).set (p := ⟨q, 1, none⟩) (Or.inl (Or.inl rfl)) (.slice A3 (fn + 1) c3)
    have CQ : Ch (fun k => k = q) w' (w'.setCell ⟨q, 1, none⟩ (.slice A3 (fn + 1) c3)) := Ch.set (S := fun k => k = q) (Ch.refl _ w') (p := ⟨q, 1, none⟩) (Or.inl rfl) _
    have hrw2 : RowsOwn KC (w'.setCell ⟨q, 1, none⟩ (.slice A3 (fn + 1) c3)) 0 A3 (fn + 1) c3 (G ++ [d]) (RF ++ [(A7, n7, c7)]) := rows_ch hrw CQ (fun g h e => (by obtain ⟨_, _, ht⟩ := own_type hrw.2.1 h; exact type_ne ht hgq (by decide) e)) (fun i hi g h e => (by obtain ⟨_, _, ht⟩ := own_type (hrw.2.2.2.1 i hi).2 h; exact type_ne ht hgq (by decide) e))
    have HFIN : Hid (REnter X q (ca, cn, cc) (fa, fn, fc) n L G RC RF N false d w (.returned (.int .i64 71)) (w'.setCell ⟨q, 1, none⟩ (.slice A3 (fn + 1) c3))) := Lib.hid ⟨L, G ++ [d], 71, (ca, cn, cc), (A3, fn + 1, c3), RC, RF ++ [(A7, n7, c7)], rfl, qat_f HQ.out C1 (blk_set hgq 1 _) hrw2 (by rw [List.length_append]; have := HL.out; show G.length + 1 ≤ 64; omega) (mildL_snoc HQ.out.fm HM.out HL.out) hfr, C1.mono (fun k hk => hk.elim Or.inl (fun h => Or.inr (Or.inr (Or.inl h)))), (by unfold ERel; exact Or.inr (Or.inr (Or.inr (Or.inl ⟨rfl, HOK.out, HDUP.out, HL.out, rfl, rfl, rfl⟩)))), Or.inl rfl, hfr⟩
    clear C1 CQ hrw2 hrw hfr ho hg hf hgq
    go_wp2_with fail
    go_ret
    exact HFIN.out
  · go_simp
    refine HTW4.out.mono ?_
    rintro e V1 ⟨A7, c7, n7, rfl, hn7, ho7, hb7⟩
    have B5 := Lib.hid (bt B4.out hb7)
    have X5 := Lib.hid (X4.out.trans (hb7.mono (Nat.le_trans (Nat.le_refl _) X4.out.size2)))
    have O7 := Lib.hid ho7
    have N7 := Lib.hid hn7
    have D7 := Lib.hid hb7
    have hH := HB7.out V1 X5.out
    clear ho7 hn7 hb7
    refine hK.out _ _ hH (fun _ => ?_)
    clear hK K hHeld
    have hHeld := hH
    clear hH
    unfold cardV cells7
    simp only [slV]
    try simp only [Act.put, List.setIfInBounds_toArray, List.set_cons_zero, List.set_cons_succ]
    have y1 := HQW.out V1 B5.out
    refine wpAnyH_ready (rs := [4, 7]) (by kernel_rfl) (by simp) ?_
    refine AllReadyH.cons (i := 4) (o := ⟨some 29, .load _ _, _, _, _, _⟩) rfl (fun K hK => ?_) (AllReadyH.cons (i := 7) (o := ⟨some 32, .buildSlice _ _ _, _, _, _, _⟩) rfl (fun K hK => ?_) AllReadyH.nil)
    · skip
      go_simp
      refine hK.out _ _ hHeld (fun _ => ?_)
      clear hK K
      try simp only [Act.put, List.setIfInBounds_toArray, List.set_cons_zero, List.set_cons_succ]
      refine wpAnyH_ready (rs := [7]) (by kernel_rfl) (by simp) ?_
      refine AllReadyH.cons (i := 7) (o := ⟨some 32, .buildSlice _ _ _, _, _, _, _⟩) rfl (fun K hK => ?_) AllReadyH.nil
      go_simp
      have B6 := Lib.hid (bt B5.out (grows' V1 (.cells #[.string (str d.name), .string (str d.fam), .int .u8 d.level, .slice A7 n7 c7, .int .i8 d.score, .string (str d.quirk), .int .i16 d.entry] 30)))
      have X6 := Lib.hid (X5.out.trans ((grows' V1 (.cells #[.string (str d.name), .string (str d.fam), .int .u8 d.level, .slice A7 n7 c7, .int .i8 d.score, .string (str d.quirk), .int .i16 d.entry] 30)).mono X5.out.size2))
      have hH := HB7.out _ X6.out
      refine hK.out _ _ hH (fun _ => ?_)
      clear hK K hHeld
      have hHeld := hH
      clear hH
      try simp only [Act.put, List.setIfInBounds_toArray, List.set_cons_zero, List.set_cons_succ]
      have HOWN : Hid ((V1.alloc (.cells #[.string (str d.name), .string (str d.fam), .int .u8 d.level, .slice A7 n7 c7, .int .i8 d.score, .string (str d.quirk), .int .i16 d.entry] 30)).ownsRow 0 30 7 (.slice fa fn fc) fn (KC.rows G RF)) := Lib.hid (HQ.out.below B6.out).fl.2.1
      have HBLQ := Lib.hid ((B6.out.block q HQ.out.lt).trans HQ.out.blk)
      have HNEW : Hid (∀ j u, (cells7 d (A7, n7, c7)).toList[j]? = some u → (V1.alloc (.cells #[.string (str d.name), .string (str d.fam), .int .u8 d.level, .slice A7 n7 c7, .int .i8 d.score, .string (str d.quirk), .int .i16 d.entry] 30)).cell? ((⟨V1.heap.size, 0, none⟩ : Addr).add j) = some u) := Lib.hid (fun j u hu => by
        rw [Ro.add_plain, World.cell?_alloc_at _ _ _ _ rfl, Nat.zero_add]
        simpa [cells7, slV] using hu)
      have hn16 : fn ≤ 64 := by omega
      refine wpAnyH_ready (rs := [8]) (by kernel_rfl) (by simp) ?_
      refine AllReadyH.cons (i := 8) (o := ⟨some 33, .call _, _, _, _, _⟩) rfl (fun K hK => ?_) AllReadyH.nil
      refine step_apartK (by first | rfl | simp [Region.wanted, yielded]) (.tmp 29) (.tmp 32) 23 (by rfl) 0 30 (.agg #[.string ⟨#[]⟩, .string ⟨#[]⟩, .int .u8 0, .slice none 0 0, .int .i8 0, .string ⟨#[]⟩, .int .i16 0]) 7 96 (by omega) Tryd.underlying23 info_card rfl (.slice fa fn fc) fn (KC.rows G RF) (by rfl) HOWN.out ⟨V1.heap.size, 0, none⟩ 1 1 (cells7 d (A7, n7, c7)).toList (by rfl) (by omega) rfl HNEW.out (by intro u hu; simp [cells7, slV] at hu; rcases hu with rfl | rfl | rfl | rfl | rfl | rfl | rfl <;> rfl) (by omega) (by omega) (by omega) ?_
      intro v' w' ho hg hf
      have hsV : w.heap.size < (V1.alloc (.cells #[.string (str d.name), .string (str d.fam), .int .u8 d.level, .slice A7 n7 c7, .int .i8 d.score, .string (str d.quirk), .int .i16 d.entry] 30)).heap.size := by have := X6.out.size2; omega
      have hgq := (hg.block q (Nat.lt_trans hqs hsV) (fun e => (card_ne HQ.out).2 q e.symm rfl)).trans HBLQ.out
      have hbne : some w.heap.size ≠ (Value.slice fa fn fc).ownBlock := fun e => by have := (HQ.out.fl.2.1.lt _ e.symm).2; omega
      have kb : ∀ j, w'.cell? ⟨w.heap.size, j, none⟩ = (V1.alloc (.cells #[.string (str d.name), .string (str d.fam), .int .u8 d.level, .slice A7 n7 c7, .int .i8 d.score, .string (str d.quirk), .int .i16 d.entry] 30)).cell? ⟨w.heap.size, j, none⟩ := fun j => World.cell?_of_block (hg.block w.heap.size hsV hbne)
      obtain ⟨s0, s1, s2, s3, s4, s5, s6⟩ := hHeld
      have hH := show (fun w0 : World => w0.cell? ⟨w.heap.size, 0, none⟩ = some (.string (str d.name)) ∧ w0.cell? ⟨w.heap.size, 1, none⟩ = some (.string (str d.fam)) ∧ w0.cell? ⟨w.heap.size, 2, none⟩ = some (.int .u8 d.level) ∧ w0.cell? ⟨w.heap.size, 3, none⟩ = some (slV r) ∧ w0.cell? ⟨w.heap.size, 4, none⟩ = some (.int .i8 d.score) ∧ w0.cell? ⟨w.heap.size, 5, none⟩ = some (.string (str d.quirk)) ∧ w0.cell? ⟨w.heap.size, 6, none⟩ = some (.int .i16 d.entry)) w' from ⟨(kb 0).trans s0, (kb 1).trans s1, (kb 2).trans s2, (kb 3).trans s3, (kb 4).trans s4, (kb 5).trans s5, (kb 6).trans s6⟩
      obtain ⟨A3, c3, rfl, hrw⟩ := HSN.out (A7, n7, c7) W.drew (V1.alloc (.cells #[.string (str d.name), .string (str d.fam), .int .u8 d.level, .slice A7 n7 c7, .int .i8 d.score, .string (str d.quirk), .int .i16 d.entry] 30)) w' v' B4.out N7.out (own_belowK O7.out (grows' V1 _)) (bt D7.out (grows' V1 _)) hg ho
      clear kb s0 s1 s2 s3 s4 s5 s6
      refine hK.out _ _ hH (fun _ => ?_)
      clear hK K
      have hHeld := hH
      clear hH
      try simp only [Act.put, List.setIfInBounds_toArray, List.set_cons_zero, List.set_cons_succ]
      first | (refine skipH (i := 9) (dst := some 34) rfl rfl (by kernel_rfl) (by kernel_rfl) (by kernel_rfl) (fun _ _ _ h => h) (by rfl) hHeld ?_) | (refine' takeH (i := 9) (dst := some 34) (v := _) rfl rfl (by kernel_rfl) (by kernel_rfl) (by kernel_rfl) (fun _ _ _ h => h) (by rfl) ?hy hHeld ?_; case hy => (intro w hSw; clear hSw; (first | done | go_simp); try with_reducible rfl)) | fail
      try simp only [Act.put, List.setIfInBounds_toArray, List.set_cons_zero, List.set_cons_succ]
      first | (refine skipH (i := 10) (dst := some 35) rfl rfl (by kernel_rfl) (by kernel_rfl) (by kernel_rfl) (fun _ _ _ h => h) (by rfl) hHeld ?_) | (refine' takeH (i := 10) (dst := some 35) (v := _) rfl rfl (by kernel_rfl) (by kernel_rfl) (by kernel_rfl) (fun _ _ _ h => h) (by rfl) ?hy hHeld ?_; case hy => (intro w hSw; clear hSw; (first | done | go_simp); try with_reducible rfl)) | fail
      try simp only [Act.put, List.setIfInBounds_toArray, List.set_cons_zero, List.set_cons_succ]
      have y2 : w'.cell? ⟨q, 1, none⟩ = some (.slice fa fn fc) := by rw [Lib.cell_of_heap hgq 1]; rfl
      have y3 : w'.frozen? ⟨q, 1, none⟩ = false := Lib.frozen_of_heap hgq 1
      refine wpAnyH_ready (rs := [11]) (by kernel_rfl) (by simp) ?_
      refine AllReadyH.cons (i := 11) (o := ⟨none, .store _ _ _, _, _, _, _⟩) rfl (fun K hK => ?_) AllReadyH.nil
      go_simp
      obtain ⟨s0, s1, s2, s3, s4, s5, s6⟩ := hHeld
      have kb : ∀ j, (w'.setCell ⟨q, 1, none⟩ (.slice A3 (fn + 1) c3)).cell? ⟨w.heap.size, j, none⟩ = w'.cell? ⟨w.heap.size, j, none⟩ := fun j => World.cell?_setCell_other _ _ _ _ (by first | (simp; done) | (simp; intro e; omega))
      have hH := show (fun w0 : World => w0.cell? ⟨w.heap.size, 0, none⟩ = some (.string (str d.name)) ∧ w0.cell? ⟨w.heap.size, 1, none⟩ = some (.string (str d.fam)) ∧ w0.cell? ⟨w.heap.size, 2, none⟩ = some (.int .u8 d.level) ∧ w0.cell? ⟨w.heap.size, 3, none⟩ = some (slV r) ∧ w0.cell? ⟨w.heap.size, 4, none⟩ = some (.int .i8 d.score) ∧ w0.cell? ⟨w.heap.size, 5, none⟩ = some (.string (str d.quirk)) ∧ w0.cell? ⟨w.heap.size, 6, none⟩ = some (.int .i16 d.entry)) (w'.setCell ⟨q, 1, none⟩ (.slice A3 (fn + 1) c3)) from ⟨(kb 0).trans s0, (kb 1).trans s1, (kb 2).trans s2, (kb 3).trans s3, (kb 4).trans s4, (kb 5).trans s5, (kb 6).trans s6⟩
      refine hK.out _ _ hH (fun _ => ?_)
      clear hK K hH kb s0 s1 s2 s3 s4 s5 s6 y2 y3
      refine wpAnyH_done (by kernel_rfl) (NoPanic.normal ?_) _
      have hfr : Fresh w (slV (fa, fn, fc)) (slV (A3, fn + 1, c3)) := by
        rcases hf with h3 | h3
        · exact Or.inl h3
        · exact Or.inr fun g h => by have := h3 g h; omega
      have C1 := ((Ch.of_below (S := fun k => k = q ∨ (slV (fa, fn, fc)).ownBlock = some k) B6.out).grown hg (fun k hk => Or.inl (Or.inr hk))).set (p := ⟨q, 1, none⟩) (Or.inl (Or.inl rfl)) (.slice A3 (fn + 1) c3)
      have CQ : Ch (fun k => k = q) w' (w'.setCell ⟨q, 1, none⟩ (.slice A3 (fn + 1) c3)) := Ch.set (S := fun k => k = q) (Ch.refl _ w') (p := ⟨q, 1, none⟩) (Or.inl rfl) _
      have hrw2 : RowsOwn KC (w'.setCell ⟨q, 1, none⟩ (.slice A3 (fn + 1) c3)) 0 A3 (fn + 1) c3 (G ++ [d]) (RF ++ [(A7, n7, c7)]) := rows_ch hrw CQ (fun g h e => (by obtain ⟨_, _, ht⟩ := own_type hrw.2.1 h; exact type_ne ht hgq (by decide) e)) (fun i hi g h e => (by obtain ⟨_, _, ht⟩ := own_type (hrw.2.2.2.1 i hi).2 h; exact type_ne ht hgq (by decide) e))
      have HFIN : Hid (REnter X q (ca, cn, cc) (fa, fn, fc) n L G RC RF N false d w (.returned (.int .i64 71)) (w'.setCell ⟨q, 1, none⟩ (.slice A3 (fn + 1) c3))) := Lib.hid ⟨L, G ++ [d], 71, (ca, cn, cc), (A3, fn + 1, c3), RC, RF ++ [(A7, n7, c7)], rfl, qat_f HQ.out C1 (blk_set hgq 1 _) hrw2 (by rw [List.length_append]; have := HL.out; show G.length + 1 ≤ 64; omega) (mildL_snoc HQ.out.fm HM.out HL.out) hfr, C1.mono (fun k hk => hk.elim Or.inl (fun h => Or.inr (Or.inr (Or.inl h)))), (by unfold ERel; exact Or.inr (Or.inr (Or.inr (Or.inl ⟨rfl, HOK.out, HDUP.out, HL.out, rfl, rfl, rfl⟩)))), Or.inl rfl, hfr⟩
      clear C1 CQ hrw2 hrw hfr ho hg hf hgq
      go_wp2_with fail
      go_ret
      exact HFIN.out
    · go_simp
      have B6 := Lib.hid (bt B5.out (grows' V1 (.cells #[.string (str d.name), .string (str d.fam), .int .u8 d.level, .slice A7 n7 c7, .int .i8 d.score, .string (str d.quirk), .int .i16 d.entry] 30)))
      have X6 := Lib.hid (X5.out.trans ((grows' V1 (.cells #[.string (str d.name), .string (str d.fam), .int .u8 d.level, .slice A7 n7 c7, .int .i8 d.score, .string (str d.quirk), .int .i16 d.entry] 30)).mono X5.out.size2))
      have hH := HB7.out _ X6.out
      refine hK.out _ _ hH (fun _ => ?_)
      clear hK K hHeld
      have hHeld := hH
      clear hH
      try simp only [Act.put, List.setIfInBounds_toArray, List.set_cons_zero, List.set_cons_succ]
      have y2 := HQW.out _ B6.out
      refine wpAnyH_ready (rs := [4]) (by kernel_rfl) (by simp) ?_
      refine AllReadyH.cons (i := 4) (o := ⟨some 29, .load _ _, _, _, _, _⟩) rfl (fun K hK => ?_) AllReadyH.nil
      skip
      go_simp
      refine hK.out _ _ hHeld (fun _ => ?_)
      clear hK K
      try simp only [Act.put, List.setIfInBounds_toArray, List.set_cons_zero, List.set_cons_succ]
      have HOWN : Hid ((V1.alloc (.cells #[.string (str d.name), .string (str d.fam), .int .u8 d.level, .slice A7 n7 c7, .int .i8 d.score, .string (str d.quirk), .int .i16 d.entry] 30)).ownsRow 0 30 7 (.slice fa fn fc) fn (KC.rows G RF)) := Lib.hid (HQ.out.below B6.out).fl.2.1
      have HBLQ := Lib.hid ((B6.out.block q HQ.out.lt).trans HQ.out.blk)
      have HNEW : Hid (∀ j u, (cells7 d (A7, n7, c7)).toList[j]? = some u → (V1.alloc (.cells #[.string (str d.name), .string (str d.fam), .int .u8 d.level, .slice A7 n7 c7, .int .i8 d.score, .string (str d.quirk), .int .i16 d.entry] 30)).cell? ((⟨V1.heap.size, 0, none⟩ : Addr).add j) = some u) := Lib.hid (fun j u hu => by
        rw [Ro.add_plain, World.cell?_alloc_at _ _ _ _ rfl, Nat.zero_add]
        simpa [cells7, slV] using hu)
      have hn16 : fn ≤ 64 := by omega
      refine wpAnyH_ready (rs := [8]) (by kernel_rfl) (by simp) ?_
      refine AllReadyH.cons (i := 8) (o := ⟨some 33, .call _, _, _, _, _⟩) rfl (fun K hK => ?_) AllReadyH.nil
      refine step_apartK (by first | rfl | simp [Region.wanted, yielded]) (.tmp 29) (.tmp 32) 23 (by rfl) 0 30 (.agg #[.string ⟨#[]⟩, .string ⟨#[]⟩, .int .u8 0, .slice none 0 0, .int .i8 0, .string ⟨#[]⟩, .int .i16 0]) 7 96 (by omega) Tryd.underlying23 info_card rfl (.slice fa fn fc) fn (KC.rows G RF) (by rfl) HOWN.out ⟨V1.heap.size, 0, none⟩ 1 1 (cells7 d (A7, n7, c7)).toList (by rfl) (by omega) rfl HNEW.out (by intro u hu; simp [cells7, slV] at hu; rcases hu with rfl | rfl | rfl | rfl | rfl | rfl | rfl <;> rfl) (by omega) (by omega) (by omega) ?_
      intro v' w' ho hg hf
      have hsV : w.heap.size < (V1.alloc (.cells #[.string (str d.name), .string (str d.fam), .int .u8 d.level, .slice A7 n7 c7, .int .i8 d.score, .string (str d.quirk), .int .i16 d.entry] 30)).heap.size := by have := X6.out.size2; omega
      have hgq := (hg.block q (Nat.lt_trans hqs hsV) (fun e => (card_ne HQ.out).2 q e.symm rfl)).trans HBLQ.out
      have hbne : some w.heap.size ≠ (Value.slice fa fn fc).ownBlock := fun e => by have := (HQ.out.fl.2.1.lt _ e.symm).2; omega
      have kb : ∀ j, w'.cell? ⟨w.heap.size, j, none⟩ = (V1.alloc (.cells #[.string (str d.name), .string (str d.fam), .int .u8 d.level, .slice A7 n7 c7, .int .i8 d.score, .string (str d.quirk), .int .i16 d.entry] 30)).cell? ⟨w.heap.size, j, none⟩ := fun j => World.cell?_of_block (hg.block w.heap.size hsV hbne)
      obtain ⟨s0, s1, s2, s3, s4, s5, s6⟩ := hHeld
      have hH := show (fun w0 : World => w0.cell? ⟨w.heap.size, 0, none⟩ = some (.string (str d.name)) ∧ w0.cell? ⟨w.heap.size, 1, none⟩ = some (.string (str d.fam)) ∧ w0.cell? ⟨w.heap.size, 2, none⟩ = some (.int .u8 d.level) ∧ w0.cell? ⟨w.heap.size, 3, none⟩ = some (slV r) ∧ w0.cell? ⟨w.heap.size, 4, none⟩ = some (.int .i8 d.score) ∧ w0.cell? ⟨w.heap.size, 5, none⟩ = some (.string (str d.quirk)) ∧ w0.cell? ⟨w.heap.size, 6, none⟩ = some (.int .i16 d.entry)) w' from ⟨(kb 0).trans s0, (kb 1).trans s1, (kb 2).trans s2, (kb 3).trans s3, (kb 4).trans s4, (kb 5).trans s5, (kb 6).trans s6⟩
      obtain ⟨A3, c3, rfl, hrw⟩ := HSN.out (A7, n7, c7) W.drew (V1.alloc (.cells #[.string (str d.name), .string (str d.fam), .int .u8 d.level, .slice A7 n7 c7, .int .i8 d.score, .string (str d.quirk), .int .i16 d.entry] 30)) w' v' B4.out N7.out (own_belowK O7.out (grows' V1 _)) (bt D7.out (grows' V1 _)) hg ho
      clear kb s0 s1 s2 s3 s4 s5 s6
      refine hK.out _ _ hH (fun _ => ?_)
      clear hK K
      have hHeld := hH
      clear hH
      try simp only [Act.put, List.setIfInBounds_toArray, List.set_cons_zero, List.set_cons_succ]
      first | (refine skipH (i := 9) (dst := some 34) rfl rfl (by kernel_rfl) (by kernel_rfl) (by kernel_rfl) (fun _ _ _ h => h) (by rfl) hHeld ?_) | (refine' takeH (i := 9) (dst := some 34) (v := _) rfl rfl (by kernel_rfl) (by kernel_rfl) (by kernel_rfl) (fun _ _ _ h => h) (by rfl) ?hy hHeld ?_; case hy => (intro w hSw; clear hSw; (first | done | go_simp); try with_reducible rfl)) | fail
      try simp only [Act.put, List.setIfInBounds_toArray, List.set_cons_zero, List.set_cons_succ]
      first | (refine skipH (i := 10) (dst := some 35) rfl rfl (by kernel_rfl) (by kernel_rfl) (by kernel_rfl) (fun _ _ _ h => h) (by rfl) hHeld ?_) | (refine' takeH (i := 10) (dst := some 35) (v := _) rfl rfl (by kernel_rfl) (by kernel_rfl) (by kernel_rfl) (fun _ _ _ h => h) (by rfl) ?hy hHeld ?_; case hy => (intro w hSw; clear hSw; (first | done | go_simp); try with_reducible rfl)) | fail
      try simp only [Act.put, List.setIfInBounds_toArray, List.set_cons_zero, List.set_cons_succ]
      have y2 : w'.cell? ⟨q, 1, none⟩ = some (.slice fa fn fc) := by rw [Lib.cell_of_heap hgq 1]; rfl
      have y3 : w'.frozen? ⟨q, 1, none⟩ = false := Lib.frozen_of_heap hgq 1
      refine wpAnyH_ready (rs := [11]) (by kernel_rfl) (by simp) ?_
      refine AllReadyH.cons (i := 11) (o := ⟨none, .store _ _ _, _, _, _, _⟩) rfl (fun K hK => ?_) AllReadyH.nil
      go_simp
      obtain ⟨s0, s1, s2, s3, s4, s5, s6⟩ := hHeld
      have kb : ∀ j, (w'.setCell ⟨q, 1, none⟩ (.slice A3 (fn + 1) c3)).cell? ⟨w.heap.size, j, none⟩ = w'.cell? ⟨w.heap.size, j, none⟩ := fun j => World.cell?_setCell_other _ _ _ _ (by first | (simp; done) | (simp; intro e; omega))
      have hH := show (fun w0 : World => w0.cell? ⟨w.heap.size, 0, none⟩ = some (.string (str d.name)) ∧ w0.cell? ⟨w.heap.size, 1, none⟩ = some (.string (str d.fam)) ∧ w0.cell? ⟨w.heap.size, 2, none⟩ = some (.int .u8 d.level) ∧ w0.cell? ⟨w.heap.size, 3, none⟩ = some (slV r) ∧ w0.cell? ⟨w.heap.size, 4, none⟩ = some (.int .i8 d.score) ∧ w0.cell? ⟨w.heap.size, 5, none⟩ = some (.string (str d.quirk)) ∧ w0.cell? ⟨w.heap.size, 6, none⟩ = some (.int .i16 d.entry)) (w'.setCell ⟨q, 1, none⟩ (.slice A3 (fn + 1) c3)) from ⟨(kb 0).trans s0, (kb 1).trans s1, (kb 2).trans s2, (kb 3).trans s3, (kb 4).trans s4, (kb 5).trans s5, (kb 6).trans s6⟩
      refine hK.out _ _ hH (fun _ => ?_)
      clear hK K hH kb s0 s1 s2 s3 s4 s5 s6 y2 y3
      refine wpAnyH_done (by kernel_rfl) (NoPanic.normal ?_) _
      have hfr : Fresh w (slV (fa, fn, fc)) (slV (A3, fn + 1, c3)) := by
        rcases hf with h3 | h3
        · exact Or.inl h3
        · exact Or.inr fun g h => by have := h3 g h; omega
      have C1 := ((Ch.of_below (S := fun k => k = q ∨ (slV (fa, fn, fc)).ownBlock = some k) B6.out).grown hg (fun k hk => Or.inl (Or.inr hk))).set (p := ⟨q, 1, none⟩) (Or.inl (Or.inl rfl)) (.slice A3 (fn + 1) c3)
      have CQ : Ch (fun k => k = q) w' (w'.setCell ⟨q, 1, none⟩ (.slice A3 (fn + 1) c3)) := Ch.set (S := fun k => k = q) (Ch.refl _ w') (p := ⟨q, 1, none⟩) (Or.inl rfl) _
      have hrw2 : RowsOwn KC (w'.setCell ⟨q, 1, none⟩ (.slice A3 (fn + 1) c3)) 0 A3 (fn + 1) c3 (G ++ [d]) (RF ++ [(A7, n7, c7)]) := rows_ch hrw CQ (fun g h e => (by obtain ⟨_, _, ht⟩ := own_type hrw.2.1 h; exact type_ne ht hgq (by decide) e)) (fun i hi g h e => (by obtain ⟨_, _, ht⟩ := own_type (hrw.2.2.2.1 i hi).2 h; exact type_ne ht hgq (by decide) e))
      have HFIN : Hid (REnter X q (ca, cn, cc) (fa, fn, fc) n L G RC RF N false d w (.returned (.int .i64 71)) (w'.setCell ⟨q, 1, none⟩ (.slice A3 (fn + 1) c3))) := Lib.hid ⟨L, G ++ [d], 71, (ca, cn, cc), (A3, fn + 1, c3), RC, RF ++ [(A7, n7, c7)], rfl, qat_f HQ.out C1 (blk_set hgq 1 _) hrw2 (by rw [List.length_append]; have := HL.out; show G.length + 1 ≤ 64; omega) (mildL_snoc HQ.out.fm HM.out HL.out) hfr, C1.mono (fun k hk => hk.elim Or.inl (fun h => Or.inr (Or.inr (Or.inl h)))), (by unfold ERel; exact Or.inr (Or.inr (Or.inr (Or.inl ⟨rfl, HOK.out, HDUP.out, HL.out, rfl, rfl, rfl⟩)))), Or.inl rfl, hfr⟩
      clear C1 CQ hrw2 hrw hfr ho hg hf hgq
      go_wp2_with fail
      go_ret
      exact HFIN.out
set_option maxRecDepth 100000 in
set_option maxHeartbeats 16000000 in
/-- What is turned away. -/
theorem rEnter_stay {q : Nat} {c f n : Sl} {L G : List Cd} {RC RF : List Sl} {N : List Nt} {z : Bool} (d : Cd) (r : Sl) (er : Int) (w : World) (h : Qat X w q c f n L G RC RF N z) (hm : MildC 1099511627776 d) (hr : r.2.1 = d.compat.length) (hs : CellsIn w 1 r.1 r.2.1 (strs d.compat))
    (hwhy : (z = true ∧ er = 5) ∨ (z = false ∧ ¬ CardOk d ∧ er = 70) ∨ (z = false ∧ CardOk d ∧ DupL L d.name ∧ G.length = 64 ∧ er = 3) ∨ (z = false ∧ CardOk d ∧ ¬ DupL L d.name ∧ L.length = 64 ∧ er = 3)) :
    Calls Tryd.prog 57 #[.pointer (some ⟨q, 0, none⟩), cardV d r] w (REnter X q c f n L G RC RF N z d w) := by
  have hE : ERel L G z d L G er := by
    unfold ERel
    rcases hwhy with ⟨a, b⟩ | ⟨a, b, e⟩ | ⟨a, b, e, g, k⟩ | ⟨a, b, e, g, k⟩
    · exact Or.inl ⟨a, b, rfl, rfl⟩
    · exact Or.inr (Or.inl ⟨a, b, e, rfl, rfl⟩)
    · exact Or.inr (Or.inr (Or.inl ⟨a, b, e, g, k, rfl, rfl⟩))
    · exact Or.inr (Or.inr (Or.inr (Or.inr (Or.inl ⟨a, b, e, g, k, rfl, rfl⟩))))
  have HFIN := Lib.hid (fun (w' : World) (hb : Below w.heap.size w w') => show REnter X q c f n L G RC RF N z d w (.returned (.int .i64 er)) w' from ⟨L, G, er, c, f, RC, RF, rfl, h.below hb, Ch.of_below hb, hE, Or.inl rfl, Or.inl rfl⟩)
  have HQ := Lib.hid h
  have HWHY := Lib.hid hwhy
  obtain ⟨gk, hgk⟩ := bool_ex (CardOk d)
  obtain ⟨gd, hgd⟩ := bool_ex (DupL L d.name)
  have HMAY := Lib.hid fun (W : World) (hW : Below w.heap.size w W) => may_any d r gk W hgk hm hr (hs.below hW)
  have HNAM := Lib.hid fun (W : World) (hW : Below w.heap.size w W) => named_any c.1 c.2.2 c.2.1 L RC d.name gd W (by simpa [DupL] using hgd) h.c64 (h.cl.below hW).rows
  have HBOX := Lib.hid fun (W : World) (hW : Below (w.heap.size + 1) (w.alloc (.cells (cells7 d r) 30)) W) (j : Nat) (u : Value) (hu : (cells7 d r)[j]? = some u) => show W.cell? ⟨w.heap.size, j, none⟩ = some u by rw [hW.cell (p := ⟨w.heap.size, j, none⟩) (by simp)]; exact box7s w d r 30 j u hu
  have B1 := Lib.hid (grows' w (.cells (cells7 d r) 30))
  have Q1 := Lib.hid (h.below B1.out)
  have HCL := Lib.hid (show c.2.1 = L.length from h.cl.1)
  have HFL := Lib.hid (show f.2.1 = G.length from h.fl.1)
  have HGK := Lib.hid hgk
  have HGD := Lib.hid hgd
  clear h hm hr hs hwhy hE hgk hgd
  obtain ⟨ca, cn, cc⟩ := c
  obtain ⟨fa, fn, fc⟩ := f
  unfold cardV at HMAY ⊢
  unfold cells7 at HMAY HBOX B1 Q1 ⊢
  have x3 := Q1.out.cell (j := 3) rfl
  have xb := HBOX.out _ (Below.refl _ _)
  have b0 := xb 0 _ rfl
  have b1 := xb 1 _ rfl
  have b2 := xb 2 _ rfl
  have b3 := xb 3 _ rfl
  have b4 := xb 4 _ rfl
  have b5 := xb 5 _ rfl
  have b6 := xb 6 _ rfl
  clear xb
  cases z with
  | true =>
    have he : er = 5 := by
      rcases HWHY.out with ⟨_, e⟩ | ⟨h, _⟩ | ⟨h, _⟩ | ⟨h, _⟩
      · exact e
      · cases h
      · cases h
      · cases h
    subst he
    go_enter Tryd.func57, Tryd.ntmps57
    go_wp2_with fail
    go_ret
    exact HFIN.out _ B1.out
  | false =>
    go_enter Tryd.func57, Tryd.ntmps57
    go_wp2_with fail
    refine (HMAY.out _ B1.out).mono ?_
    rintro e W2 ⟨rfl, hb2⟩
    have B2 := Lib.hid (bt B1.out hb2)
    have X2 := Lib.hid (hb2.mono (show w.heap.size + 1 ≤ _ by simp))
    have Q2 := Lib.hid (HQ.out.below B2.out)
    clear b0 b1 b2 b3 b4 b5 b6 x3 hb2 HMAY
    cases gk with
    | false =>
      have he : er = 70 := by
        have hn : ¬ CardOk d := fun e => by have := HGK.out.2 e; cases this
        rcases HWHY.out with ⟨h, _⟩ | ⟨_, _, e⟩ | ⟨_, h, _⟩ | ⟨_, h, _⟩
        · cases h
        · exact e
        · exact absurd h hn
        · exact absurd h hn
      subst he
      go_wp2_with fail
      go_ret
      exact HFIN.out _ B2.out
    | true =>
      have HOK := Lib.hid (HGK.out.1 rfl)
      have b0 := HBOX.out W2 X2.out 0 _ rfl
      have x0 := Q2.out.cell (j := 0) rfl
      simp only [slV] at x0
      have HNM2 : Hid (Calls Tryd.prog 89 #[.slice ca cn cc, .string (str d.name)] W2.drew (fun e w' => e = .returned (.bool gd) ∧ w' = W2.drew)) := Lib.hid (HNAM.out W2.drew (below_dr B2.out 1))
      go_wp2_with fail
      refine wp_region_noPanic ?_
      refine wp_region_held_drew (S := fun w' => w'.cell? ⟨q, 0, none⟩ = some (.slice ca cn cc) ∧ w'.cell? ⟨w.heap.size, 0, none⟩ = some (.string (str d.name))) (by kernel_rfl) ⟨x0, b0⟩ (fun hHeld => ?_)
      first | (refine skipH (i := 0) (dst := some 12) rfl rfl (by kernel_rfl) (by kernel_rfl) (by kernel_rfl) (fun _ _ _ h => h) (by rfl) hHeld ?_) | (refine' takeH (i := 0) (dst := some 12) (v := _) rfl rfl (by kernel_rfl) (by kernel_rfl) (by kernel_rfl) (fun _ _ _ h => h) (by rfl) ?hy hHeld ?_; case hy => (intro w hSw; clear hSw; (first | done | go_simp); try with_reducible rfl)) | fail
      try simp only [Act.put, List.setIfInBounds_toArray, List.set_cons_zero, List.set_cons_succ]
      first | (refine skipH (i := 1) (dst := some 13) rfl rfl (by kernel_rfl) (by kernel_rfl) (by kernel_rfl) (fun _ _ _ h => h) (by rfl) hHeld ?_) | (refine' takeH (i := 1) (dst := some 13) (v := _) rfl rfl (by kernel_rfl) (by kernel_rfl) (by kernel_rfl) (fun _ _ _ h => h) (by rfl) ?hy hHeld ?_; case hy => (intro w hSw; clear hSw; (first | done | go_simp); try with_reducible rfl)) | fail
      try simp only [Act.put, List.setIfInBounds_toArray, List.set_cons_zero, List.set_cons_succ]
      first | (refine skipH (i := 2) (dst := some 14) rfl rfl (by kernel_rfl) (by kernel_rfl) (by kernel_rfl) (fun _ _ _ h => h) (by rfl) hHeld ?_) | (refine' takeH (i := 2) (dst := some 14) (v := _) rfl rfl (by kernel_rfl) (by kernel_rfl) (by kernel_rfl) (fun _ _ _ h => h) (by rfl) ?hy hHeld ?_; case hy => (intro w hSw; clear hSw; (first | done | go_simp); try with_reducible rfl)) | fail
      try simp only [Act.put, List.setIfInBounds_toArray, List.set_cons_zero, List.set_cons_succ]
      first | (refine skipH (i := 3) (dst := some 15) rfl rfl (by kernel_rfl) (by kernel_rfl) (by kernel_rfl) (fun _ _ _ h => h) (by rfl) hHeld ?_) | (refine' takeH (i := 3) (dst := some 15) (v := _) rfl rfl (by kernel_rfl) (by kernel_rfl) (by kernel_rfl) (fun _ _ _ h => h) (by rfl) ?hy hHeld ?_; case hy => (intro w hSw; obtain ⟨_, _⟩ := hSw; (first | done | go_simp); try with_reducible rfl)) | fail
      try simp only [Act.put, List.setIfInBounds_toArray, List.set_cons_zero, List.set_cons_succ]
      first | (refine skipH (i := 4) (dst := some 16) rfl rfl (by kernel_rfl) (by kernel_rfl) (by kernel_rfl) (fun _ _ _ h => h) (by rfl) hHeld ?_) | (refine' takeH (i := 4) (dst := some 16) (v := _) rfl rfl (by kernel_rfl) (by kernel_rfl) (by kernel_rfl) (fun _ _ _ h => h) (by rfl) ?hy hHeld ?_; case hy => (intro w hSw; clear hSw; (first | done | go_simp); try with_reducible rfl)) | fail
      try simp only [Act.put, List.setIfInBounds_toArray, List.set_cons_zero, List.set_cons_succ]
      first | (refine skipH (i := 5) (dst := some 17) rfl rfl (by kernel_rfl) (by kernel_rfl) (by kernel_rfl) (fun _ _ _ h => h) (by rfl) hHeld ?_) | (refine' takeH (i := 5) (dst := some 17) (v := _) rfl rfl (by kernel_rfl) (by kernel_rfl) (by kernel_rfl) (fun _ _ _ h => h) (by rfl) ?hy hHeld ?_; case hy => (intro w hSw; obtain ⟨_, _⟩ := hSw; (first | done | go_simp); try with_reducible rfl)) | fail
      try simp only [Act.put, List.setIfInBounds_toArray, List.set_cons_zero, List.set_cons_succ]
      refine wpAnyH_ready (rs := [6]) (by kernel_rfl) (by simp) ?_
      refine AllReadyH.cons (i := 6) (o := ⟨some 18, .call _, _, _, _, _⟩) rfl (fun K hK => ?_) AllReadyH.nil
      go_simp
      refine HNM2.out.mono ?_
      rintro e w5 ⟨rfl, rfl⟩
      have hH := hHeld
      refine hK.out _ _ hH (fun _ => ?_)
      clear hK K hHeld
      have hHeld := hH
      clear hH
      try simp only [Act.put, List.setIfInBounds_toArray, List.set_cons_zero, List.set_cons_succ]
      refine wpAnyH_done (by kernel_rfl) (NoPanic.normal ?_) _
      clear hHeld b0 x0
      have B3 : Hid (Below w.heap.size w W2.drew) := Lib.hid (below_dr B2.out 1)
      have Q3 : Hid (Qat X W2.drew q (ca, cn, cc) (fa, fn, fc) n L G RC RF N false) := Lib.hid (HQ.out.below B3.out)
      generalize W2.drew = W at B3 Q3 ⊢
      clear B2 X2 Q2 B1 Q1
      cases gd with
      | true =>
        have hd := HGD.out.1 rfl
        have he : fn = 64 ∧ er = 3 := by
          rcases HWHY.out with ⟨h, _⟩ | ⟨_, h, _⟩ | ⟨_, _, _, h, e⟩ | ⟨_, _, h, _⟩
          · cases h
          · exact absurd HOK.out h
          · exact ⟨HFL.out.trans h, e⟩
          · exact absurd hd h
        obtain ⟨rfl, rfl⟩ := he
        have x1 := Q3.out.cell (j := 1) rfl
        simp only [slV] at x1
        clear hd
        go_wp2_with fail
        go_ret
        exact HFIN.out _ B3.out
      | false =>
        have hd : ¬ DupL L d.name := fun e => by have := HGD.out.2 e; cases this
        have he : cn = 64 ∧ er = 3 := by
          rcases HWHY.out with ⟨h, _⟩ | ⟨_, h, _⟩ | ⟨_, _, h, _⟩ | ⟨_, _, _, h, e⟩
          · cases h
          · exact absurd HOK.out h
          · exact absurd h hd
          · exact ⟨HCL.out.trans h, e⟩
        obtain ⟨rfl, rfl⟩ := he
        have x1 := Q3.out.cell (j := 0) rfl
        simp only [slV] at x1
        clear hd
        go_wp2_with fail
        go_ret
        exact HFIN.out _ B3.out
theorem rEnter_any {q : Nat} {c f n : Sl} {L G : List Cd} {RC RF : List Sl} {N : List Nt} {z : Bool} (d : Cd) (r : Sl) (w : World) (h : Qat X w q c f n L G RC RF N z) (hm : MildC 1099511627776 d) (hr : r.2.1 = d.compat.length) (hne : Neat r) (hs : CellsIn w 1 r.1 r.2.1 (strs d.compat)) :
    Calls Tryd.prog 57 #[.pointer (some ⟨q, 0, none⟩), cardV d r] w (REnter X q c f n L G RC RF N z d w) := by
  cases z with
  | true => exact rEnter_stay d r 5 w h hm hr hs (Or.inl ⟨rfl, rfl⟩)
  | false =>
    by_cases hok : CardOk d
    · by_cases hd : DupL L d.name
      · by_cases hl : G.length < 64
        · exact rEnter_f d r w h hm hr hne hs hok hd hl
        · exact rEnter_stay d r 3 w h hm hr hs (Or.inr (Or.inr (Or.inl ⟨rfl, hok, hd, by have := h.f64; omega, rfl⟩)))
      · by_cases hl : L.length < 64
        · exact rEnter_c d r w h hm hr hne hs hok hd hl
        · exact rEnter_stay d r 3 w h hm hr hs (Or.inr (Or.inr (Or.inr ⟨rfl, hok, hd, by have := h.c64; omega, rfl⟩)))
    · exact rEnter_stay d r 70 w h hm hr hs (Or.inr (Or.inl ⟨rfl, hok, rfl⟩))
end Go.Proofs.YtnnaoneegeenkaaDoor.Kq
