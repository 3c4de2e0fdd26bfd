/- Registries: New, Mark, Cards, Refused, Notes. -/
import Derived.Test.YtjafddkkndfphaaKrE
namespace Go.Proofs.Ytjafddkkndfphaa.Kr
open Go.ChangeShapes Go.WideShapes Go.ChangeAt Go.RowKit Own Ro wordsNames Kc

def plain (C : Cs) : List Cd := C.map (·.1)
theorem cards_any (g : Nat) (C F : Cs) (N : List Nt) (z : Bool) (w : World) (h : RegAt w g C F N z) : Calls Try.prog 16 #[.pointer (some ⟨g, 0, none⟩)] w (MadeL (plain C) w) := by
  have HT := Lib.hid (told_any g 0 [] (roomV F ++ (noteV N ++ [.bool z])) C w h.blk rfl (by omega) h.c64 h.cm h.ct)
  clear h
  go_enter Try.func16, Try.ntmps16
  go_wp2_with (go_at_call 40; refine HT.out.mono ?_; rintro e w5 ⟨A, c, n, R, rfl, hr, hb⟩; have HR := Lib.hid hr; have HB := Lib.hid hb; clear hr hb)
  go_ret
  exact ⟨A, c, n, R, rfl, HR.out, HB.out⟩
theorem refused_any (g : Nat) (C F : Cs) (N : List Nt) (z : Bool) (w : World) (h : RegAt w g C F N z) : Calls Try.prog 17 #[.pointer (some ⟨g, 0, none⟩)] w (MadeL (plain F) w) := by
  have HT := Lib.hid (told_any g 449 (roomV C) (noteV N ++ [.bool z]) F w h.blk (roomV_len C h.c64) (by omega) h.f64 h.fm h.ft)
  clear h
  go_enter Try.func17, Try.ntmps17
  go_wp2_with (go_at_call 40; refine HT.out.mono ?_; rintro e w5 ⟨A, c, n, R, rfl, hr, hb⟩; have HR := Lib.hid hr; have HB := Lib.hid hb; clear hr hb)
  go_ret
  exact ⟨A, c, n, R, rfl, HR.out, HB.out⟩
theorem cards_nil (w : World) : Calls Try.prog 16 #[.pointer none] w fun e w' => e = .returned (.slice none 0 0) ∧ w = w' := by
  go_enter Try.func16, Try.ntmps16
  go_wp2_with fail
  go_ret
  exact ⟨rfl, rfl⟩
theorem refused_nil (w : World) : Calls Try.prog 17 #[.pointer none] w fun e w' => e = .returned (.slice none 0 0) ∧ w = w' := by
  go_enter Try.func17, Try.ntmps17
  go_wp2_with fail
  go_ret
  exact ⟨rfl, rfl⟩
theorem notes_nil (w : World) : Calls Try.prog 18 #[.pointer none] w fun e w' => e = .returned (.slice none 0 0) ∧ w = w' := by
  go_enter Try.func18, Try.ntmps18
  go_wp2_with fail
  go_ret
  exact ⟨rfl, rfl⟩
theorem info_note : (Try.prog.info? 78).map (fun i => (i.zero, i.size, i.bytes)) = some (some (.agg #[.string ⟨#[]⟩, .int .i64 0, .int .i64 0, .int .i64 0]), 4, 40) := by kernel_rfl
/-- Notes in memory of the call's own. -/
def MadeN (N : List Nt) (w : World) (e : Ending) (w' : World) : Prop :=
  ∃ A c n, e = .returned (.slice A n c) ∧ n = N.length ∧ w'.ownsRow w.heap.size 78 4 (.slice A n c) n (N.flatMap ntRow) ∧ Below w.heap.size w w'
theorem flatN_len (N : List Nt) : (N.flatMap ntRow).length = N.length * 4 := flat_len ntRow 4 ntRow_len N
theorem one_notes (N : List Nt) : ∀ u ∈ N.flatMap ntRow, u.oneCell' = true := fun u hu => by
  obtain ⟨a, _, ha⟩ := List.mem_flatMap.1 hu
  simp [ntRow] at ha
  rcases ha with rfl | rfl | rfl | rfl <;> rfl
theorem noteC_pre (N : List Nt) (j : Nat) (u : Value) (h : (N.flatMap ntRow)[j]? = some u) : (noteC N)[j]? = some u := by
  unfold noteC
  rw [List.flatMap_append]
  exact app_in _ h
set_option maxRecDepth 100000 in
set_option maxHeartbeats 8000000 in
theorem notes_any (g : Nat) (C F : Cs) (N : List Nt) (z : Bool) (w : World) (h : RegAt w g C F N z) : Calls Try.prog 18 #[.pointer (some ⟨g, 0, none⟩)] w (MadeN N w) := by
  have hgs := h.blk.lt
  have held : w.cell? ⟨g, 1922, none⟩ = some (.int .i64 (N.length : Int)) := h.blk.cell (reg_n h.c64 h.f64 (j := 1024) (note_held h.n256))
  have hn := h.n256
  have HSR : Hid (∀ W, Below w.heap.size w W → SrcK 4 W (some ⟨g, 898, none⟩) N.length 256 (N.flatMap ntRow)) := Lib.hid fun W hW => .inr ⟨_, rfl, by rw [flatN_len], fun j u hu => by
    rw [Ro.add_plain]
    exact (hW.cell (p := ⟨g, 898 + j, none⟩) hgs).trans (h.blk.cell (reg_n h.c64 h.f64 (app_in _ (noteC_pre N j u hu))))⟩
  have HE : Hid (∀ W : World, Below w.heap.size w W → W.cell? ⟨g, 1922, none⟩ = some (.int .i64 (N.length : Int)) ∧ Below w.heap.size w W) := Lib.hid fun W hW => ⟨(hW.cell (p := ⟨g, 1922, none⟩) hgs).trans held, hW⟩
  have H1 := Lib.hid (one_notes N)
  clear h held
  unfold MadeN
  generalize N.flatMap ntRow = ns at HSR H1 ⊢
  generalize hnn : N.length = n at hn HSR HE
  clear hnn
  have n1 : (0 : Int) ≤ (n : Int) := by omega
  have n2 : (n : Int) ≤ 256 := by omega
  go_enter Try.func18, Try.ntmps18
  go_wp2_with fail
  refine wp_region_noPanic ?_
  refine wp_region_held_drew (S := fun w' => w'.cell? ⟨g, 1922, none⟩ = some (.int .i64 (n : Int)) ∧ Below w.heap.size w w') (by kernel_rfl) (HE.out _ (below_dr (Below.refl _ _) 1)) (fun hHeld => ?_)
  first | (refine skipH (i := 0) (dst := some 5) rfl rfl (by kernel_rfl) (by kernel_rfl) (by kernel_rfl) (fun _ _ _ h => h) (by rfl) hHeld ?_) | (refine' takeH (i := 0) (dst := some 5) (v := _) rfl rfl (by kernel_rfl) (by kernel_rfl) (by kernel_rfl) (fun _ _ _ h => h) (by rfl) ?hy hHeld ?_; case hy => (intro w hSw; clear hSw; (first | done | go_simp); try with_reducible rfl)) | fail
  try simp only [Act.put, List.setIfInBounds_toArray, List.set_cons_zero, List.set_cons_succ]
  first | (refine skipH (i := 1) (dst := some 6) rfl rfl (by kernel_rfl) (by kernel_rfl) (by kernel_rfl) (fun _ _ _ h => h) (by rfl) hHeld ?_) | (refine' takeH (i := 1) (dst := some 6) (v := _) rfl rfl (by kernel_rfl) (by kernel_rfl) (by kernel_rfl) (fun _ _ _ h => h) (by rfl) ?hy hHeld ?_; case hy => (intro w hSw; clear hSw; (first | done | go_simp); try with_reducible rfl)) | fail
  try simp only [Act.put, List.setIfInBounds_toArray, List.set_cons_zero, List.set_cons_succ]
  first | (refine skipH (i := 2) (dst := some 7) rfl rfl (by kernel_rfl) (by kernel_rfl) (by kernel_rfl) (fun _ _ _ h => h) (by rfl) hHeld ?_) | (refine' takeH (i := 2) (dst := some 7) (v := _) rfl rfl (by kernel_rfl) (by kernel_rfl) (by kernel_rfl) (fun _ _ _ h => h) (by rfl) ?hy hHeld ?_; case hy => (intro w hSw; clear hSw; (first | done | go_simp); try with_reducible rfl)) | fail
  try simp only [Act.put, List.setIfInBounds_toArray, List.set_cons_zero, List.set_cons_succ]
  first | (refine skipH (i := 3) (dst := some 8) rfl rfl (by kernel_rfl) (by kernel_rfl) (by kernel_rfl) (fun _ _ _ h => h) (by rfl) hHeld ?_) | (refine' takeH (i := 3) (dst := some 8) (v := _) rfl rfl (by kernel_rfl) (by kernel_rfl) (by kernel_rfl) (fun _ _ _ h => h) (by rfl) ?hy hHeld ?_; case hy => (intro w hSw; clear hSw; (first | done | go_simp); try with_reducible rfl)) | fail
  try simp only [Act.put, List.setIfInBounds_toArray, List.set_cons_zero, List.set_cons_succ]
  first | (refine skipH (i := 4) (dst := some 9) rfl rfl (by kernel_rfl) (by kernel_rfl) (by kernel_rfl) (fun _ _ _ h => h) (by rfl) hHeld ?_) | (refine' takeH (i := 4) (dst := some 9) (v := _) rfl rfl (by kernel_rfl) (by kernel_rfl) (by kernel_rfl) (fun _ _ _ h => h) (by rfl) ?hy hHeld ?_; case hy => (intro w hSw; clear hSw; (first | done | go_simp); try with_reducible rfl)) | fail
  try simp only [Act.put, List.setIfInBounds_toArray, List.set_cons_zero, List.set_cons_succ]
  first | (refine skipH (i := 5) (dst := some 10) rfl rfl (by kernel_rfl) (by kernel_rfl) (by kernel_rfl) (fun _ _ _ h => h) (by rfl) hHeld ?_) | (refine' takeH (i := 5) (dst := some 10) (v := _) rfl rfl (by kernel_rfl) (by kernel_rfl) (by kernel_rfl) (fun _ _ _ h => h) (by rfl) ?hy hHeld ?_; case hy => (intro w hSw; clear hSw; (first | done | go_simp); try with_reducible rfl)) | fail
  try simp only [Act.put, List.setIfInBounds_toArray, List.set_cons_zero, List.set_cons_succ]
  first | (refine skipH (i := 6) (dst := some 11) rfl rfl (by kernel_rfl) (by kernel_rfl) (by kernel_rfl) (fun _ _ _ h => h) (by rfl) hHeld ?_) | (refine' takeH (i := 6) (dst := some 11) (v := _) rfl rfl (by kernel_rfl) (by kernel_rfl) (by kernel_rfl) (fun _ _ _ h => h) (by rfl) ?hy hHeld ?_; case hy => (intro w hSw; obtain ⟨_, _⟩ := hSw; (first | done | go_simp); try with_reducible rfl)) | fail
  try simp only [Act.put, List.setIfInBounds_toArray, List.set_cons_zero, List.set_cons_succ]
  first | (refine skipH (i := 7) (dst := some 12) rfl rfl (by kernel_rfl) (by kernel_rfl) (by kernel_rfl) (fun _ _ _ h => h) (by rfl) hHeld ?_) | (refine' takeH (i := 7) (dst := some 12) (v := _) rfl rfl (by kernel_rfl) (by kernel_rfl) (by kernel_rfl) (fun _ _ _ h => h) (by rfl) ?hy hHeld ?_; case hy => (intro w hSw; clear hSw; (first | done | go_simp); try with_reducible rfl)) | fail
  try simp only [Act.put, List.setIfInBounds_toArray, List.set_cons_zero, List.set_cons_succ]
  refine wpAnyH_ready (rs := [8]) (by kernel_rfl) (by simp) ?_
  refine AllReadyH.cons (i := 8) (o := ⟨some 13, _, _, _, _, _⟩) rfl (fun K hK => ?_) AllReadyH.nil
  refine step_appK (by first | rfl | simp [Region.wanted, yielded]) (.const (.slice none 0 0)) (.tmp 12) 41 (by rfl) w.heap.size 78 (.agg #[.string ⟨#[]⟩, .int .i64 0, .int .i64 0, .int .i64 0]) 4 40 (by omega) Try.underlying41 info_note rfl _ 0 [] (by rfl) (own_nilK _ _ _ 4) (some ⟨g, 898, none⟩) n 256 ns (by rfl) (HSR.out _ hHeld.2) H1.out (by omega) (by omega) hHeld.2.size ?_
  intro v7 w7 ho7 hg7
  rw [Nat.zero_add, List.nil_append] at ho7
  obtain ⟨A7, c7, rfl, _⟩ := own_srcK ho7
  have HO7 := Lib.hid ho7
  have hH := HE.out w7 (bt hHeld.2 (below_none hg7))
  clear ho7 hg7
  refine hK.out _ _ hH (fun _ => ?_)
  clear hK K hHeld
  have hHeld := hH
  clear hH
  try simp only [Act.put, List.setIfInBounds_toArray, List.set_cons_zero, List.set_cons_succ]
  first | (refine skipH (i := 9) (dst := some 2) rfl rfl (by kernel_rfl) (by kernel_rfl) (by kernel_rfl) (fun _ _ _ h => h) (by rfl) hHeld ?_) | (refine' takeH (i := 9) (dst := some 2) (v := _) rfl rfl (by kernel_rfl) (by kernel_rfl) (by kernel_rfl) (fun _ _ _ h => h) (by rfl) ?hy hHeld ?_; case hy => (intro w hSw; clear hSw; (first | done | go_simp); try with_reducible rfl)) | fail
  try simp only [Act.put, List.setIfInBounds_toArray, List.set_cons_zero, List.set_cons_succ]
  refine wpAnyH_done (by kernel_rfl) (NoPanic.normal ?_) _
  have B7 := Lib.hid hHeld.2
  clear hHeld
  go_wp2_with fail
  go_ret
  exact ⟨A7, c7, n, rfl, rfl, HO7.out, B7.out⟩
/-- What marking turns. -/
def MarkRel (C : Cs) (N : List Nt) (z : Bool) (a : Nt) (N' : List Nt) (er : Int) : Prop :=
  (z = true ∧ er = 5 ∧ N' = N) ∨ (z = false ∧ ¬ (isName a.pack = true ∧ 0 ≤ a.init ∧ a.init ≤ 8) ∧ er = 1 ∧ N' = N) ∨
  (z = false ∧ (isName a.pack = true ∧ 0 ≤ a.init ∧ a.init ≤ 8) ∧ N.length = 256 ∧ er = 3 ∧ N' = N) ∨ (z = false ∧ (isName a.pack = true ∧ 0 ≤ a.init ∧ a.init ≤ 8) ∧ N.length < 256 ∧ er = 0 ∧ N' = N ++ [{ a with stood := (C.length : Int) }])
def MarkPost (g : Nat) (C F : Cs) (N : List Nt) (z : Bool) (a : Nt) (w : World) (e : Ending) (w' : World) : Prop :=
  ∃ N' er, e = .returned (.int .i64 er) ∧ RegAt w' g C F N' z ∧ w.grownBy w' (some g) ∧ MarkRel C N z a N' er
theorem mark_nil (p : List UInt8) (i s : Int) (w : World) : Calls Try.prog 13 #[.pointer none, .string (str p), .int .i64 i, .int .i64 s] w fun e w' => e = .returned (.int .i64 2) ∧ w = w' := by
  go_enter Try.func13, Try.ntmps13
  go_wp2_with (go_at_call 35; refine (open_nil _).mono ?_; rintro e w5 ⟨rfl, rfl⟩)
  go_ret
  exact ⟨rfl, rfl⟩
/-- Four cells of the block written one behind the other. -/
theorem Blk.set4 {W : World} {g a : Nat} {pre post : List Value} {x0 x1 x2 x3 : Value} (h : Blk W g (pre ++ ([x0, x1, x2, x3] ++ post))) (ha : pre.length = a) (y0 y1 y2 y3 : Value) :
    Blk ((((W.setCell ⟨g, a, none⟩ y0).setCell ⟨g, a + 1, none⟩ y1).setCell ⟨g, a + 2, none⟩ y2).setCell ⟨g, a + 3, none⟩ y3) g (pre ++ ([y0, y1, y2, y3] ++ post)) ∧
    W.grownBy ((((W.setCell ⟨g, a, none⟩ y0).setCell ⟨g, a + 1, none⟩ y1).setCell ⟨g, a + 2, none⟩ y2).setCell ⟨g, a + 3, none⟩ y3) (some g) := by
  refine ⟨?_, gb_trans (gb_trans (gb_trans (gb_set _ g _ _) (gb_set _ g _ _)) (gb_set _ g _ _)) (gb_set _ g _ _)⟩
  rw [← Kr.set4 pre post x0 x1 x2 x3 y0 y1 y2 y3 a ha]
  exact (((h.set a y0).set (a + 1) y1).set (a + 2) y2).set (a + 3) y3
/-- The block of a registry that has room for a note, parted there. -/
theorem note_parts (C F : Cs) (N : List Nt) (z : Bool) (h : N.length < 256) : regV C F N z = (roomV C ++ (roomV F ++ N.flatMap ntRow)) ++ ([.string ⟨#[]⟩, .int .i64 0, .int .i64 0, .int .i64 0] ++ ((List.replicate (255 - N.length) nt0).flatMap ntRow ++ (.int .i64 (N.length : Int) :: [.bool z]))) := by
  unfold regV noteV
  rw [note_split N h]
  have e : ntRow nt0 = [.string ⟨#[]⟩, .int .i64 0, .int .i64 0, .int .i64 0] := rfl
  rw [e]
  simp
theorem note_made (C F : Cs) (N : List Nt) (z : Bool) (a : Nt) (h : N.length < 256) : regV C F (N ++ [a]) z = ((roomV C ++ (roomV F ++ N.flatMap ntRow)) ++ (ntRow a ++ (List.replicate (255 - N.length) nt0).flatMap ntRow)) ++ (.int .i64 ((N.length : Int) + 1) :: [.bool z]) := by
  unfold regV noteV
  rw [note_snoc N a h]
  simp
set_option maxRecDepth 100000 in
set_option maxHeartbeats 8000000 in
theorem mark_any (g : Nat) (C F : Cs) (N : List Nt) (z : Bool) (p : List UInt8) (i s : Int) (w : World) (h : RegAt w g C F N z) (hp : p.length ≤ 1099511627776) : Calls Try.prog 13 #[.pointer (some ⟨g, 0, none⟩), .string (str p), .int .i64 i, .int .i64 s] w (MarkPost g C F N z ⟨p, i, s, 0⟩ w) := by
  have HR := Lib.hid h
  have HO := Lib.hid (open_any g C F N z w h)
  have hNM := isName_any (str p) w (by unfold maxLen; rw [str_size]; omega)
  rw [str_list] at hNM
  have HNM := Lib.hid hNM
  have held : w.cell? ⟨g, 1922, none⟩ = some (.int .i64 (N.length : Int)) := h.blk.cell (reg_n h.c64 h.f64 (j := 1024) (note_held h.n256))
  have hc := h.n256
  have stood : w.cell? ⟨g, 448, none⟩ = some (.int .i64 (C.length : Int)) := h.blk.cell (reg_c (room_held h.c64))
  have hc64 := h.c64
  clear h hp hNM
  cases z with
  | true =>
    clear held stood
    go_enter Try.func13, Try.ntmps13
    go_wp2_with (go_at_call 35; refine HO.out.mono ?_; rintro e w5 ⟨rfl, rfl⟩; simp only [openE])
    go_ret
    exact ⟨N, 5, rfl, HR.out, World.grownBy.refl _ _, .inl ⟨rfl, rfl, rfl⟩⟩
  | false =>
    by_cases hok : isName p = true ∧ 0 ≤ i ∧ i ≤ 8
    case neg =>
      have HNOK := Lib.hid hok
      clear held stood
      generalize hgn : isName p = gn at HNM hok
      have hor : gn = false ∨ (gn = true ∧ i < 0) ∨ (gn = true ∧ 0 ≤ i ∧ 8 < i) := by
        cases gn
        · exact .inl rfl
        · by_cases h0 : 0 ≤ i
          · exact .inr (.inr ⟨rfl, h0, by by_cases h8 : i ≤ 8; exact absurd ⟨rfl, h0, h8⟩ hok; omega⟩)
          · exact .inr (.inl ⟨rfl, by omega⟩)
      clear hok hgn
      rcases hor with rfl | ⟨rfl, h0⟩ | ⟨rfl, h0, h8⟩
      all_goals
        go_enter Try.func13, Try.ntmps13
        go_wp2_with (first
          | (go_at_call 35; refine HO.out.mono ?_; rintro e w5 ⟨rfl, rfl⟩; simp only [openE])
          | (go_at_call 39; refine HNM.out.mono ?_; rintro e w5 ⟨rfl, rfl⟩))
        go_ret
        exact ⟨N, 1, rfl, HR.out, World.grownBy.refl _ _, .inr (.inl ⟨rfl, HNOK.out, rfl, rfl⟩)⟩
    case pos =>
      have HOK := Lib.hid hok
      obtain ⟨hgn, h0, h8⟩ := hok
      rw [hgn] at HNM
      clear hgn
      by_cases hl : N.length = 256
      case pos =>
        have HL := Lib.hid hl
        rw [hl] at held
        clear hl stood
        go_enter Try.func13, Try.ntmps13
        go_wp2_with (first
          | (go_at_call 35; refine HO.out.mono ?_; rintro e w5 ⟨rfl, rfl⟩; simp only [openE])
          | (go_at_call 39; refine HNM.out.mono ?_; rintro e w5 ⟨rfl, rfl⟩))
        go_ret
        exact ⟨N, 3, rfl, HR.out, World.grownBy.refl _ _, .inr (.inr (.inl ⟨rfl, HOK.out, HL.out, rfl, rfl⟩))⟩
      case neg =>
        have hln : N.length < 256 := by omega
        have HL := Lib.hid hln
        have hb := HR.out.blk
        rw [note_parts C F N false hln] at hb
        have HBK := Lib.hid hb
        have HPL : Hid ((roomV C ++ (roomV F ++ N.flatMap ntRow)).length = 898 + N.length * 4) := Lib.hid (by rw [List.length_append, List.length_append, roomV_len C hc64, roomV_len F HR.out.f64, flatN_len]; omega)
        have HMD := Lib.hid (note_made C F N false ⟨p, i, s, (C.length : Int)⟩ hln)
        have HLR : Hid (((roomV C ++ (roomV F ++ N.flatMap ntRow)) ++ (ntRow ⟨p, i, s, (C.length : Int)⟩ ++ (List.replicate (255 - N.length) nt0).flatMap ntRow)).length = 1922) := Lib.hid (by rw [List.length_append, HPL.out, List.length_append, flatN_len, List.length_replicate]; show 898 + N.length * 4 + (4 + (255 - N.length) * 4) = _; omega)
        clear hl hb
        have HRG : Hid (∀ W, Blk W g (regV C F (N ++ [⟨p, i, s, (C.length : Int)⟩]) false) → w.grownBy W (some g) → ∃ N' er, Ending.returned (Value.int .i64 0) = .returned (.int .i64 er) ∧ RegAt W g C F N' false ∧ w.grownBy W (some g) ∧ MarkRel C N false ⟨p, i, s, 0⟩ N' er) := Lib.hid fun W hW hg =>
          ⟨N ++ [⟨p, i, s, (C.length : Int)⟩], 0, rfl, ⟨hW, HR.out.c64, HR.out.f64, by rw [List.length_append, List.length_singleton]; omega, HR.out.ct.kept hg, HR.out.ft.kept hg, HR.out.cm, HR.out.fm⟩, hg, .inr (.inr (.inr ⟨rfl, HOK.out, hln, rfl, rfl⟩))⟩
        unfold MarkPost
        generalize roomV C ++ (roomV F ++ N.flatMap ntRow) = pr at HPL HBK HMD HLR
        generalize (List.replicate (255 - N.length) nt0).flatMap ntRow = ps at HBK HMD HLR
        have HMD2 : Hid (regV C F (N ++ [⟨p, i, s, (C.length : Int)⟩]) false = (pr ++ ([.string (str p), .int .i64 i, .int .i64 s, .int .i64 (C.length : Int)] ++ ps)) ++ (.int .i64 ((N.length : Int) + 1) :: [.bool false])) := Lib.hid HMD.out
        have HLR2 : Hid ((pr ++ ([Value.string (str p), Value.int .i64 i, Value.int .i64 s, Value.int .i64 (C.length : Int)] ++ ps)).length = 1922) := Lib.hid HLR.out
        rw [HMD2.out] at HRG
        clear HMD HLR HMD2 HR
        generalize str p = S1 at HNM HLR2 HRG ⊢
        generalize hcn : C.length = cn at stood hc64 HLR2 HRG
        generalize hnn : N.length = n at held hln HPL HBK HRG
        clear hcn hnn HL hc HOK
        have n1 : (0 : Int) ≤ (n : Int) := by omega
        have n2 : (n : Int) < 256 := by omega
        have t256 : ((n : Int) == 256) = false := by simp; omega
        have z0 : w.cell? ⟨g, 898 + n * 4, none⟩ = some (.string ⟨#[]⟩) := HBK.out.cell (by first | (rw [app_at' _ _ (898 + n * 4) 0 HPL.out]; rfl) | (rw [show 898 + n * 4 = 898 + n * 4 + 0 by omega, app_at' _ _ (898 + n * 4) 0 HPL.out]; rfl))
        have f0 := HBK.out.free (898 + n * 4)
        have z1 : w.cell? ⟨g, 898 + n * 4 + 1, none⟩ = some (.int .i64 0) := HBK.out.cell (by first | (rw [app_at' _ _ (898 + n * 4) 1 HPL.out]; rfl) | (rw [show 898 + n * 4 = 898 + n * 4 + 0 by omega, app_at' _ _ (898 + n * 4) 0 HPL.out]; rfl))
        have f1 := HBK.out.free (898 + n * 4 + 1)
        have z2 : w.cell? ⟨g, 898 + n * 4 + 2, none⟩ = some (.int .i64 0) := HBK.out.cell (by first | (rw [app_at' _ _ (898 + n * 4) 2 HPL.out]; rfl) | (rw [show 898 + n * 4 = 898 + n * 4 + 0 by omega, app_at' _ _ (898 + n * 4) 0 HPL.out]; rfl))
        have f2 := HBK.out.free (898 + n * 4 + 2)
        have z3 : w.cell? ⟨g, 898 + n * 4 + 3, none⟩ = some (.int .i64 0) := HBK.out.cell (by first | (rw [app_at' _ _ (898 + n * 4) 3 HPL.out]; rfl) | (rw [show 898 + n * 4 = 898 + n * 4 + 0 by omega, app_at' _ _ (898 + n * 4) 0 HPL.out]; rfl))
        have f3 := HBK.out.free (898 + n * 4 + 3)
        have HS4 := Lib.hid (HBK.out.set4 HPL.out (.string S1) (.int .i64 i) (.int .i64 s) (.int .i64 (cn : Int)))
        have HL4 : Hid (Blk _ g ((pr ++ ([.string S1, .int .i64 i, .int .i64 s, .int .i64 (cn : Int)] ++ ps)) ++ (.int .i64 (n : Int) :: [.bool false]))) := Lib.hid (by rw [List.append_assoc pr, List.append_assoc]; exact HS4.out.1)
        have h448 : ((((w.setCell ⟨g, 898 + n * 4, none⟩ (.string S1)).setCell ⟨g, 898 + n * 4 + 1, none⟩ (.int .i64 i)).setCell ⟨g, 898 + n * 4 + 2, none⟩ (.int .i64 s)).setCell ⟨g, 898 + n * 4 + 3, none⟩ (.int .i64 (cn : Int))).cell? ⟨g, 448, none⟩ = some (.int .i64 (cn : Int)) := by
          rw [World.cell?_setCell_other, World.cell?_setCell_other, World.cell?_setCell_other, World.cell?_setCell_other]
          · exact stood
          all_goals (intro e; injection e; omega)
        go_enter Try.func13, Try.ntmps13
        go_wp2_with (first
          | (go_at_call 35; refine HO.out.mono ?_; rintro e w5 ⟨rfl, rfl⟩; simp only [openE])
          | (go_at_call 39; refine HNM.out.mono ?_; rintro e w5 ⟨rfl, rfl⟩))
        refine wp_region_noPanic ?_
        refine wp_region_held_drew (S := fun w' => w'.cell? ⟨g, 1922, none⟩ = some (.int .i64 (n : Int)) ∧ w'.cell? ⟨g, 448, none⟩ = some (.int .i64 (cn : Int))) (by kernel_rfl) ⟨held, stood⟩ (fun hHeld => ?_)
        first | (refine skipH (i := 0) (dst := some 31) rfl rfl (by kernel_rfl) (by kernel_rfl) (by kernel_rfl) (fun _ _ _ h => h) (by rfl) hHeld ?_) | (refine' takeH (i := 0) (dst := some 31) (v := _) rfl rfl (by kernel_rfl) (by kernel_rfl) (by kernel_rfl) (fun _ _ _ h => h) (by rfl) ?hy hHeld ?_; case hy => (intro w hSw; clear hSw; (first | done | go_simp); try with_reducible rfl)) | fail
        try simp only [Act.put, List.setIfInBounds_toArray, List.set_cons_zero, List.set_cons_succ]
        first | (refine skipH (i := 1) (dst := some 32) rfl rfl (by kernel_rfl) (by kernel_rfl) (by kernel_rfl) (fun _ _ _ h => h) (by rfl) hHeld ?_) | (refine' takeH (i := 1) (dst := some 32) (v := _) rfl rfl (by kernel_rfl) (by kernel_rfl) (by kernel_rfl) (fun _ _ _ h => h) (by rfl) ?hy hHeld ?_; case hy => (intro w hSw; clear hSw; (first | done | go_simp); try with_reducible rfl)) | fail
        try simp only [Act.put, List.setIfInBounds_toArray, List.set_cons_zero, List.set_cons_succ]
        first | (refine skipH (i := 2) (dst := some 33) rfl rfl (by kernel_rfl) (by kernel_rfl) (by kernel_rfl) (fun _ _ _ h => h) (by rfl) hHeld ?_) | (refine' takeH (i := 2) (dst := some 33) (v := _) rfl rfl (by kernel_rfl) (by kernel_rfl) (by kernel_rfl) (fun _ _ _ h => h) (by rfl) ?hy hHeld ?_; case hy => (intro w hSw; clear hSw; (first | done | go_simp); try with_reducible rfl)) | fail
        try simp only [Act.put, List.setIfInBounds_toArray, List.set_cons_zero, List.set_cons_succ]
        first | (refine skipH (i := 3) (dst := some 34) rfl rfl (by kernel_rfl) (by kernel_rfl) (by kernel_rfl) (fun _ _ _ h => h) (by rfl) hHeld ?_) | (refine' takeH (i := 3) (dst := some 34) (v := _) rfl rfl (by kernel_rfl) (by kernel_rfl) (by kernel_rfl) (fun _ _ _ h => h) (by rfl) ?hy hHeld ?_; case hy => (intro w hSw; clear hSw; (first | done | go_simp); try with_reducible rfl)) | fail
        try simp only [Act.put, List.setIfInBounds_toArray, List.set_cons_zero, List.set_cons_succ]
        first | (refine skipH (i := 4) (dst := some 35) rfl rfl (by kernel_rfl) (by kernel_rfl) (by kernel_rfl) (fun _ _ _ h => h) (by rfl) hHeld ?_) | (refine' takeH (i := 4) (dst := some 35) (v := _) rfl rfl (by kernel_rfl) (by kernel_rfl) (by kernel_rfl) (fun _ _ _ h => h) (by rfl) ?hy hHeld ?_; case hy => (intro w hSw; obtain ⟨_, _⟩ := hSw; (first | done | go_simp); try with_reducible rfl)) | fail
        try simp only [Act.put, List.setIfInBounds_toArray, List.set_cons_zero, List.set_cons_succ]
        first | (refine skipH (i := 5) (dst := some 36) rfl rfl (by kernel_rfl) (by kernel_rfl) (by kernel_rfl) (fun _ _ _ h => h) (by rfl) hHeld ?_) | (refine' takeH (i := 5) (dst := some 36) (v := _) rfl rfl (by kernel_rfl) (by kernel_rfl) (by kernel_rfl) (fun _ _ _ h => h) (by rfl) ?hy hHeld ?_; case hy => (intro w hSw; clear hSw; (first | done | go_simp); try with_reducible rfl)) | fail
        try simp only [Act.put, List.setIfInBounds_toArray, List.set_cons_zero, List.set_cons_succ]
        first | (refine skipH (i := 6) (dst := some 37) rfl rfl (by kernel_rfl) (by kernel_rfl) (by kernel_rfl) (fun _ _ _ h => h) (by rfl) hHeld ?_) | (refine' takeH (i := 6) (dst := some 37) (v := _) rfl rfl (by kernel_rfl) (by kernel_rfl) (by kernel_rfl) (fun _ _ _ h => h) (by rfl) ?hy hHeld ?_; case hy => (intro w hSw; clear hSw; (first | done | go_simp); try with_reducible rfl)) | fail
        try simp only [Act.put, List.setIfInBounds_toArray, List.set_cons_zero, List.set_cons_succ]
        first | (refine skipH (i := 7) (dst := some 38) rfl rfl (by kernel_rfl) (by kernel_rfl) (by kernel_rfl) (fun _ _ _ h => h) (by rfl) hHeld ?_) | (refine' takeH (i := 7) (dst := some 38) (v := _) rfl rfl (by kernel_rfl) (by kernel_rfl) (by kernel_rfl) (fun _ _ _ h => h) (by rfl) ?hy hHeld ?_; case hy => (intro w hSw; clear hSw; (first | done | go_simp); try with_reducible rfl)) | fail
        try simp only [Act.put, List.setIfInBounds_toArray, List.set_cons_zero, List.set_cons_succ]
        first | (refine skipH (i := 8) (dst := some 39) rfl rfl (by kernel_rfl) (by kernel_rfl) (by kernel_rfl) (fun _ _ _ h => h) (by rfl) hHeld ?_) | (refine' takeH (i := 8) (dst := some 39) (v := _) rfl rfl (by kernel_rfl) (by kernel_rfl) (by kernel_rfl) (fun _ _ _ h => h) (by rfl) ?hy hHeld ?_; case hy => (intro w hSw; clear hSw; (first | done | go_simp); try with_reducible rfl)) | fail
        try simp only [Act.put, List.setIfInBounds_toArray, List.set_cons_zero, List.set_cons_succ]
        first | (refine skipH (i := 9) (dst := some 40) rfl rfl (by kernel_rfl) (by kernel_rfl) (by kernel_rfl) (fun _ _ _ h => h) (by rfl) hHeld ?_) | (refine' takeH (i := 9) (dst := some 40) (v := _) rfl rfl (by kernel_rfl) (by kernel_rfl) (by kernel_rfl) (fun _ _ _ h => h) (by rfl) ?hy hHeld ?_; case hy => (intro w hSw; clear hSw; (first | done | go_simp); try with_reducible rfl)) | fail
        try simp only [Act.put, List.setIfInBounds_toArray, List.set_cons_zero, List.set_cons_succ]
        first | (refine skipH (i := 10) (dst := some 41) rfl rfl (by kernel_rfl) (by kernel_rfl) (by kernel_rfl) (fun _ _ _ h => h) (by rfl) hHeld ?_) | (refine' takeH (i := 10) (dst := some 41) (v := _) rfl rfl (by kernel_rfl) (by kernel_rfl) (by kernel_rfl) (fun _ _ _ h => h) (by rfl) ?hy hHeld ?_; case hy => (intro w hSw; clear hSw; (first | done | go_simp); try with_reducible rfl)) | fail
        try simp only [Act.put, List.setIfInBounds_toArray, List.set_cons_zero, List.set_cons_succ]
        first | (refine skipH (i := 11) (dst := some 42) rfl rfl (by kernel_rfl) (by kernel_rfl) (by kernel_rfl) (fun _ _ _ h => h) (by rfl) hHeld ?_) | (refine' takeH (i := 11) (dst := some 42) (v := _) rfl rfl (by kernel_rfl) (by kernel_rfl) (by kernel_rfl) (fun _ _ _ h => h) (by rfl) ?hy hHeld ?_; case hy => (intro w hSw; clear hSw; (first | done | go_simp); try with_reducible rfl)) | fail
        try simp only [Act.put, List.setIfInBounds_toArray, List.set_cons_zero, List.set_cons_succ]
        first | (refine skipH (i := 12) (dst := some 43) rfl rfl (by kernel_rfl) (by kernel_rfl) (by kernel_rfl) (fun _ _ _ h => h) (by rfl) hHeld ?_) | (refine' takeH (i := 12) (dst := some 43) (v := _) rfl rfl (by kernel_rfl) (by kernel_rfl) (by kernel_rfl) (fun _ _ _ h => h) (by rfl) ?hy hHeld ?_; case hy => (intro w hSw; obtain ⟨_, _⟩ := hSw; (first | done | go_simp); try with_reducible rfl)) | fail
        try simp only [Act.put, List.setIfInBounds_toArray, List.set_cons_zero, List.set_cons_succ]
        first | (refine skipH (i := 13) (dst := some 44) rfl rfl (by kernel_rfl) (by kernel_rfl) (by kernel_rfl) (fun _ _ _ h => h) (by rfl) hHeld ?_) | (refine' takeH (i := 13) (dst := some 44) (v := _) rfl rfl (by kernel_rfl) (by kernel_rfl) (by kernel_rfl) (fun _ _ _ h => h) (by rfl) ?hy hHeld ?_; case hy => (intro w hSw; clear hSw; (first | done | go_simp); try with_reducible rfl)) | fail
        try simp only [Act.put, List.setIfInBounds_toArray, List.set_cons_zero, List.set_cons_succ]
        first | (refine skipH (i := 14) (dst := some 45) rfl rfl (by kernel_rfl) (by kernel_rfl) (by kernel_rfl) (fun _ _ _ h => h) (by rfl) hHeld ?_) | (refine' takeH (i := 14) (dst := some 45) (v := _) rfl rfl (by kernel_rfl) (by kernel_rfl) (by kernel_rfl) (fun _ _ _ h => h) (by rfl) ?hy hHeld ?_; case hy => (intro w hSw; clear hSw; (first | done | go_simp); try with_reducible rfl)) | fail
        try simp only [Act.put, List.setIfInBounds_toArray, List.set_cons_zero, List.set_cons_succ]
        first | (refine skipH (i := 15) (dst := some 46) rfl rfl (by kernel_rfl) (by kernel_rfl) (by kernel_rfl) (fun _ _ _ h => h) (by rfl) hHeld ?_) | (refine' takeH (i := 15) (dst := some 46) (v := _) rfl rfl (by kernel_rfl) (by kernel_rfl) (by kernel_rfl) (fun _ _ _ h => h) (by rfl) ?hy hHeld ?_; case hy => (intro w hSw; clear hSw; (first | done | go_simp); try with_reducible rfl)) | fail
        try simp only [Act.put, List.setIfInBounds_toArray, List.set_cons_zero, List.set_cons_succ]
        first | (refine skipH (i := 16) (dst := some 47) rfl rfl (by kernel_rfl) (by kernel_rfl) (by kernel_rfl) (fun _ _ _ h => h) (by rfl) hHeld ?_) | (refine' takeH (i := 16) (dst := some 47) (v := _) rfl rfl (by kernel_rfl) (by kernel_rfl) (by kernel_rfl) (fun _ _ _ h => h) (by rfl) ?hy hHeld ?_; case hy => (intro w hSw; clear hSw; (first | done | go_simp); try with_reducible rfl)) | fail
        try simp only [Act.put, List.setIfInBounds_toArray, List.set_cons_zero, List.set_cons_succ]
        refine wpAnyH_ready (rs := [17]) (by kernel_rfl) (by simp) ?_
        refine AllReadyH.cons (i := 17) (o := ⟨none, .store _ _ _, _, _, _, _⟩) rfl (fun K hK => ?_) AllReadyH.nil
        go_simp
        have hld := HL4.out.cell (u := .int .i64 (n : Int)) (j := 1922) (by rw [show 1922 = 1922 + 0 by omega, app_at' _ _ 1922 0 HLR2.out]; rfl)
        have hfr := HL4.out.free 1922
        have hH : _ ∧ _ := ⟨hld, h448⟩
        refine hK.out _ _ hH (fun _ => ?_)
        clear hK K hHeld hH h448
        try simp only [Act.put, List.setIfInBounds_toArray, List.set_cons_zero, List.set_cons_succ]
        refine wpAnyH_done (by kernel_rfl) (NoPanic.normal ?_) _
        clear z0 z1 z2 z3 f0 f1 f2 f3 held stood
        have HG4 := Lib.hid HS4.out.2
        clear HS4
        generalize ((((w.setCell _ _).setCell _ _).setCell _ _).setCell _ _) = x2 at hld hfr HL4 HG4 ⊢
        go_wp2_with fail
        go_ret
        have hb := HL4.out.set 1922 (.int .i64 ((n : Int) + 1))
        rw [set_at _ _ _ _ _ HLR2.out] at hb
        exact HRG.out _ hb (gb_trans (gb_trans HG4.out (gb_set _ _ _ _)) (gb_below (below_dr (Below.refl _ _) 1) _))
end Go.Proofs.Ytjafddkkndfphaa.Kr
