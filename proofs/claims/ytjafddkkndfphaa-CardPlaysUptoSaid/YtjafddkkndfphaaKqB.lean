/- The document's registry: Mark. -/
import Derived.Test.YtjafddkkndfphaaKqA
import Derived.Test.YtjafddkkndfphaaAq
namespace Go.Proofs.Ytjafddkkndfphaa.Kq
open Go.ChangeShapes Go.WideShapes Go.ChangeAt Go.RowKit Own Ro wordsNames Kc Kr

/-- What marking turns, by how many cards stand. -/
def MRel (m : Nat) (N : List Nt) (z : Bool) (a : Nt) (N' : List Nt) (er : Int) : Prop :=
  (z = true ∧ er = 5 ∧ N' = N) ∨ (z = false ∧ ¬ (isName a.pack = true ∧ 0 ≤ a.init ∧ a.init ≤ 8) ∧ er = 1 ∧ N' = N) ∨
  (z = false ∧ (isName a.pack = true ∧ 0 ≤ a.init ∧ a.init ≤ 8) ∧ N.length = 256 ∧ er = 3 ∧ N' = N) ∨ (z = false ∧ (isName a.pack = true ∧ 0 ≤ a.init ∧ a.init ≤ 8) ∧ N.length < 256 ∧ er = 0 ∧ N' = N ++ [{ a with stood := (m : Int) }])
def RMark (q : Nat) (c f n : Sl) (L G : List Cd) (RC RF : List Sl) (N : List Nt) (z : Bool) (a : Nt) (w : World) (e : Ending) (w' : World) : Prop :=
  ∃ N' er n', e = .returned (.int .i64 er) ∧ Qat w' q c f n' L G RC RF N' z ∧ Ch (Sq q c f n) w w' ∧ MRel L.length N z a N' er ∧ ((slV n').ownBlock = (slV n).ownBlock ∨ ∀ g, (slV n').ownBlock = some g → w.heap.size ≤ g)
/-- The notes grow. -/
theorem qat_note {w w2 : World} {q : Nat} {c f n n' : Sl} {L G : List Cd} {RC RF : List Sl} {N N' : List Nt} {z : Bool} (h : Qat w q c f n L G RC RF N z) (hc : Ch (fun k => k = q ∨ (slV n).ownBlock = some k) w w2) (hb : w2.heap[q]? = some (.cells ⟨[slV c, slV f, slV n', .bool z]⟩ 63 (0, 0)))
    (ho : w2.ownsRow 0 78 4 (slV n') n'.2.1 (N'.flatMap ntRow)) (hn : n'.2.1 = N'.length) (h256 : N'.length ≤ 256) : Qat w2 q c f n' L G RC RF N' z := by
  obtain ⟨h1, h2, h3, h4, h5, h6, h7, h8, h9, h10, h11⟩ := h
  have key : ∀ {b m k : Nat} {E : TypeId} {v : Value} {xs : List Value}, w.ownsRow b E k v m xs → E ≠ 63 → E ≠ 78 → ∀ g, v.ownBlock = some g → ¬ (g = q ∨ (slV n).ownBlock = some g) := by
    intro b m k E v xs ho e1 e2 g hg e
    obtain ⟨_, _, ht⟩ := own_type ho hg
    rcases e with e | e
    · exact type_ne ht h1 e1 e
    · obtain ⟨_, _, ht2⟩ := own_type h4 e
      exact type_ne ht ht2 e2 rfl
  exact ⟨hb, rows_ch h2 hc (key h2.2.1 (by decide) (by decide)) (fun i hi => key (h2.2.2.2.1 i hi).2 (by decide) (by decide)), rows_ch h3 hc (key h3.2.1 (by decide) (by decide)) (fun i hi => key (h3.2.2.2.1 i hi).2 (by decide) (by decide)), ho, hn, h6, h7, h256, h9, h10, h11⟩
theorem note_ne {w : World} {q : Nat} {c f n : Sl} {L G : List Cd} {RC RF : List Sl} {N : List Nt} {z : Bool} (h : Qat w q c f n L G RC RF N z) : ∀ g, (slV n).ownBlock = some g → g ≠ q := fun g hg => by
  obtain ⟨_, _, ht⟩ := own_type h.nl hg
  exact type_ne ht h.blk (by decide)
set_option maxRecDepth 100000 in
set_option maxHeartbeats 8000000 in
theorem rMark_room {q : Nat} {c f n : Sl} {L G : List Cd} {RC RF : List Sl} {N : List Nt} (p : List UInt8) (i s : Int) (w : World) (h : Qat w q c f n L G RC RF N false) (hp : p.length ≤ 1099511627776) (hok : isName p = true ∧ 0 ≤ i ∧ i ≤ 8) (hn : N.length < 256) :
    Calls Try.prog 45 #[.pointer (some ⟨q, 0, none⟩), .string (str p), .int .i64 i, .int .i64 s] w (RMark q c f n L G RC RF N false ⟨p, i, s, 0⟩ w) := by
  have HQ := Lib.hid h
  have HNM := Lib.hid (refName_str p w hp)
  have c0 := h.cell (j := 0) rfl
  have c2 := h.cell (j := 2) rfl
  have c3 := h.cell (j := 3) rfl
  have z2 := h.free 2
  have hnn : n.2.1 = N.length := h.nn
  have hcl : c.2.1 = L.length := h.cl.1
  have hl64 : L.length ≤ 64 := h.c64
  rw [hok.1] at HNM
  have HOK := Lib.hid hok
  have i1 := hok.2.1
  have i2 := hok.2.2
  have t1 : decide (i < 0) = false := decide_eq_false (by omega)
  have t2 : decide (8 < i) = false := decide_eq_false (by omega)
  clear h hok
  obtain ⟨ca, cn, cc⟩ := c
  obtain ⟨na, nn, nc⟩ := n
  simp only [slV] at c0 c2
  simp only at hnn hcl
  have t3 : decide ((256 : Int) ≤ (nn : Int)) = false := decide_eq_false (by omega)
  have HNN := Lib.hid hnn
  have HCL := Lib.hid hcl
  have hn256 : nn < 256 := by omega
  have hc64 : cn ≤ 64 := by omega
  clear hnn hcl
  go_enter Try.func45, Try.ntmps45
  go_wp2_with (go_at_call 54; refine HNM.out.mono ?_; rintro e w5 ⟨rfl, rfl⟩)
  refine wp_region_noPanic ?_
  refine wp_region_held_drew (S := fun w' => w'.cell? ⟨q, 0, none⟩ = some (.slice ca cn cc)) (by kernel_rfl) c0 (fun hHeld => ?_)
  first | (refine skipH (i := 0) (dst := some 30) rfl rfl (by kernel_rfl) (by kernel_rfl) (by kernel_rfl) (fun _ _ _ h => h) (by rfl) hHeld ?_) | (refine' takeH (i := 0) (dst := some 30) (v := _) rfl rfl (by kernel_rfl) (by kernel_rfl) (by kernel_rfl) (fun _ _ _ h => h) (by rfl) ?hy hHeld ?_; case hy => (intro w hSw; clear hSw; (first | done | go_simp); try with_reducible rfl)) | fail
  try simp only [Act.put, List.setIfInBounds_toArray, List.set_cons_zero, List.set_cons_succ]
  first | (refine skipH (i := 1) (dst := some 31) rfl rfl (by kernel_rfl) (by kernel_rfl) (by kernel_rfl) (fun _ _ _ h => h) (by rfl) hHeld ?_) | (refine' takeH (i := 1) (dst := some 31) (v := _) rfl rfl (by kernel_rfl) (by kernel_rfl) (by kernel_rfl) (fun _ _ _ h => h) (by rfl) ?hy hHeld ?_; case hy => (intro w hSw; clear hSw; (first | done | go_simp); try with_reducible rfl)) | fail
  try simp only [Act.put, List.setIfInBounds_toArray, List.set_cons_zero, List.set_cons_succ]
  first | (refine skipH (i := 2) (dst := some 32) rfl rfl (by kernel_rfl) (by kernel_rfl) (by kernel_rfl) (fun _ _ _ h => h) (by rfl) hHeld ?_) | (refine' takeH (i := 2) (dst := some 32) (v := _) rfl rfl (by kernel_rfl) (by kernel_rfl) (by kernel_rfl) (fun _ _ _ h => h) (by rfl) ?hy hHeld ?_; case hy => (intro w hSw; clear hSw; (first | done | go_simp); try with_reducible rfl)) | fail
  try simp only [Act.put, List.setIfInBounds_toArray, List.set_cons_zero, List.set_cons_succ]
  first | (refine skipH (i := 3) (dst := some 33) rfl rfl (by kernel_rfl) (by kernel_rfl) (by kernel_rfl) (fun _ _ _ h => h) (by rfl) hHeld ?_) | (refine' takeH (i := 3) (dst := some 33) (v := _) rfl rfl (by kernel_rfl) (by kernel_rfl) (by kernel_rfl) (fun _ _ _ h => h) (by rfl) ?hy hHeld ?_; case hy => (intro w hSw; clear hSw; (first | done | go_simp); try with_reducible rfl)) | fail
  try simp only [Act.put, List.setIfInBounds_toArray, List.set_cons_zero, List.set_cons_succ]
  first | (refine skipH (i := 5) (dst := some 35) rfl rfl (by kernel_rfl) (by kernel_rfl) (by kernel_rfl) (fun _ _ _ h => h) (by rfl) hHeld ?_) | (refine' takeH (i := 5) (dst := some 35) (v := _) rfl rfl (by kernel_rfl) (by kernel_rfl) (by kernel_rfl) (fun _ _ _ h => h) (by rfl) ?hy hHeld ?_; case hy => (intro w hSw; clear hSw; (first | done | go_simp); try with_reducible rfl)) | fail
  try simp only [Act.put, List.setIfInBounds_toArray, List.set_cons_zero, List.set_cons_succ]
  first | (refine skipH (i := 6) (dst := some 36) rfl rfl (by kernel_rfl) (by kernel_rfl) (by kernel_rfl) (fun _ _ _ h => h) (by rfl) hHeld ?_) | (refine' takeH (i := 6) (dst := some 36) (v := _) rfl rfl (by kernel_rfl) (by kernel_rfl) (by kernel_rfl) (fun _ _ _ h => h) (by rfl) ?hy hHeld ?_; case hy => (intro w hSw; clear hSw; (first | done | go_simp); try with_reducible rfl)) | fail
  try simp only [Act.put, List.setIfInBounds_toArray, List.set_cons_zero, List.set_cons_succ]
  first | (refine skipH (i := 7) (dst := some 37) rfl rfl (by kernel_rfl) (by kernel_rfl) (by kernel_rfl) (fun _ _ _ h => h) (by rfl) hHeld ?_) | (refine' takeH (i := 7) (dst := some 37) (v := _) rfl rfl (by kernel_rfl) (by kernel_rfl) (by kernel_rfl) (fun _ _ _ h => h) (by rfl) ?hy hHeld ?_; case hy => (intro w hSw; clear hSw; (first | done | go_simp); try with_reducible rfl)) | fail
  try simp only [Act.put, List.setIfInBounds_toArray, List.set_cons_zero, List.set_cons_succ]
  first | (refine skipH (i := 8) (dst := some 38) rfl rfl (by kernel_rfl) (by kernel_rfl) (by kernel_rfl) (fun _ _ _ h => h) (by rfl) hHeld ?_) | (refine' takeH (i := 8) (dst := some 38) (v := _) rfl rfl (by kernel_rfl) (by kernel_rfl) (by kernel_rfl) (fun _ _ _ h => h) (by rfl) ?hy hHeld ?_; case hy => (intro w hSw; clear hSw; (first | done | go_simp); try with_reducible rfl)) | fail
  try simp only [Act.put, List.setIfInBounds_toArray, List.set_cons_zero, List.set_cons_succ]
  first | (refine skipH (i := 9) (dst := some 39) rfl rfl (by kernel_rfl) (by kernel_rfl) (by kernel_rfl) (fun _ _ _ h => h) (by rfl) hHeld ?_) | (refine' takeH (i := 9) (dst := some 39) (v := _) rfl rfl (by kernel_rfl) (by kernel_rfl) (by kernel_rfl) (fun _ _ _ h => h) (by rfl) ?hy hHeld ?_; case hy => (intro w hSw; clear hSw; (first | done | go_simp); try with_reducible rfl)) | fail
  try simp only [Act.put, List.setIfInBounds_toArray, List.set_cons_zero, List.set_cons_succ]
  first | (refine skipH (i := 10) (dst := some 40) rfl rfl (by kernel_rfl) (by kernel_rfl) (by kernel_rfl) (fun _ _ _ h => h) (by rfl) hHeld ?_) | (refine' takeH (i := 10) (dst := some 40) (v := _) rfl rfl (by kernel_rfl) (by kernel_rfl) (by kernel_rfl) (fun _ _ _ h => h) (by rfl) ?hy hHeld ?_; case hy => (intro w hSw; clear hSw; (first | done | go_simp); try with_reducible rfl)) | fail
  try simp only [Act.put, List.setIfInBounds_toArray, List.set_cons_zero, List.set_cons_succ]
  first | (refine skipH (i := 11) (dst := some 41) rfl rfl (by kernel_rfl) (by kernel_rfl) (by kernel_rfl) (fun _ _ _ h => h) (by rfl) hHeld ?_) | (refine' takeH (i := 11) (dst := some 41) (v := _) rfl rfl (by kernel_rfl) (by kernel_rfl) (by kernel_rfl) (fun _ _ _ h => h) (by rfl) ?hy hHeld ?_; case hy => (intro w hSw; obtain _hx := hSw; (first | done | go_simp); try with_reducible rfl)) | fail
  try simp only [Act.put, List.setIfInBounds_toArray, List.set_cons_zero, List.set_cons_succ]
  first | (refine skipH (i := 12) (dst := some 42) rfl rfl (by kernel_rfl) (by kernel_rfl) (by kernel_rfl) (fun _ _ _ h => h) (by rfl) hHeld ?_) | (refine' takeH (i := 12) (dst := some 42) (v := _) rfl rfl (by kernel_rfl) (by kernel_rfl) (by kernel_rfl) (fun _ _ _ h => h) (by rfl) ?hy hHeld ?_; case hy => (intro w hSw; clear hSw; (first | done | go_simp); try with_reducible rfl)) | fail
  try simp only [Act.put, List.setIfInBounds_toArray, List.set_cons_zero, List.set_cons_succ]
  first | (refine skipH (i := 13) (dst := some 43) rfl rfl (by kernel_rfl) (by kernel_rfl) (by kernel_rfl) (fun _ _ _ h => h) (by rfl) hHeld ?_) | (refine' takeH (i := 13) (dst := some 43) (v := _) rfl rfl (by kernel_rfl) (by kernel_rfl) (by kernel_rfl) (fun _ _ _ h => h) (by rfl) ?hy hHeld ?_; case hy => (intro w hSw; clear hSw; (first | done | go_simp); try with_reducible rfl)) | fail
  try simp only [Act.put, List.setIfInBounds_toArray, List.set_cons_zero, List.set_cons_succ]
  have HB1 := Lib.hid (bal (below_dr (Below.refl w.heap.size w) 1) rfl (.cells #[.string (str p), .int .i64 i, .int .i64 s, .int .i64 cn] 78))
  have HBL := Lib.hid ((HB1.out.block q HQ.out.lt).trans HQ.out.blk)
  have HNEW : Hid (∀ j u, (ntRow ⟨p, i, s, (cn : Int)⟩)[j]? = some u → ((w.drewN 1).alloc (.cells #[.string (str p), .int .i64 i, .int .i64 s, .int .i64 cn] 78)).cell? ((⟨w.heap.size, 0, none⟩ : Addr).add j) = some u) := Lib.hid (fun j u hu => by
    rw [Ro.add_plain, World.cell?_alloc_at _ _ _ _ (by simp), Nat.zero_add]
    simpa [ntRow] using hu)
  have c2b : (w.drew.alloc (.cells #[.string (str p), .int .i64 i, .int .i64 s, .int .i64 cn] 78)).cell? ⟨q, 2, none⟩ = some (.slice na nn nc) := (HB1.out.cell (p := ⟨q, 2, none⟩) HQ.out.lt).trans c2
  have c2c : (w.alloc (.cells #[.string (str p), .int .i64 i, .int .i64 s, .int .i64 cn] 78)).cell? ⟨q, 2, none⟩ = some (.slice na nn nc) := c2b
  have hHb : (w.drew.alloc (.cells #[.string (str p), .int .i64 i, .int .i64 s, .int .i64 cn] 78)).cell? ⟨q, 0, none⟩ = some (.slice ca cn cc) := (HB1.out.cell (p := ⟨q, 0, none⟩) HQ.out.lt).trans c0
  refine wpAnyH_ready (rs := [4, 14]) (by kernel_rfl) (by simp) ?_
  refine AllReadyH.cons (i := 4) (o := ⟨some 34, .load _ _, _, _, _, _⟩) rfl (fun K hK => ?_) (AllReadyH.cons (i := 14) (o := ⟨some 44, .buildSlice _ _ _, _, _, _, _⟩) rfl (fun K hK => ?_) AllReadyH.nil)
  · go_simp
    refine hK.out _ _ hHeld (fun _ => ?_)
    clear hK K
    try simp only [Act.put, List.setIfInBounds_toArray, List.set_cons_zero, List.set_cons_succ]
    refine wpAnyH_ready (rs := [14]) (by kernel_rfl) (by simp) ?_
    refine AllReadyH.cons (i := 14) (o := ⟨some 44, .buildSlice _ _ _, _, _, _, _⟩) rfl (fun K hK => ?_) AllReadyH.nil
    go_simp
    refine hK.out _ _ hHb (fun _ => ?_)
    clear hK K hHeld
    have hHeld := hHb
    try simp only [Act.put, List.setIfInBounds_toArray, List.set_cons_zero, List.set_cons_succ]
    refine wpAnyH_ready (rs := [15]) (by kernel_rfl) (by simp) ?_
    refine AllReadyH.cons (i := 15) (o := ⟨some 45, .call _, _, _, _, _⟩) rfl (fun K hK => ?_) AllReadyH.nil
    refine step_apartK (by first | rfl | simp [Region.wanted, yielded]) (.tmp 34) (.tmp 44) 41 (by rfl) 0 78 (.agg #[.string ⟨#[]⟩, .int .i64 0, .int .i64 0, .int .i64 0]) 4 40 (by omega) Try.underlying41 info_note rfl (.slice na nn nc) nn (N.flatMap ntRow) (by rfl) (own_belowK HQ.out.nl HB1.out) ⟨w.heap.size, 0, none⟩ 1 1 (ntRow ⟨p, i, s, (cn : Int)⟩) (by rfl) (by omega) rfl HNEW.out (by intro u hu; simp [ntRow] at hu; rcases hu with rfl | rfl | rfl | rfl <;> rfl) (by omega) (by omega) (by simp) ?_
    intro v' w' ho hg hf
    have hgq : w'.heap[q]? = some (.cells ⟨[slV (ca, cn, cc), slV f, slV (na, nn, nc), .bool false]⟩ 63 (0, 0)) := (hg.block q (by simp; have := HQ.out.lt; omega) (fun e => note_ne HQ.out q e.symm rfl)).trans HBL.out
    have hH : w'.cell? ⟨q, 0, none⟩ = some (.slice ca cn cc) := by rw [Lib.cell_of_heap hgq 0]; rfl
    refine hK.out _ _ hH (fun _ => ?_)
    clear hK K hHeld
    have hHeld := hH
    try simp only [Act.put, List.setIfInBounds_toArray, List.set_cons_zero, List.set_cons_succ]
    first | (refine skipH (i := 16) (dst := some 46) rfl rfl (by kernel_rfl) (by kernel_rfl) (by kernel_rfl) (fun _ _ _ h => h) (by rfl) hHeld ?_) | (refine' takeH (i := 16) (dst := some 46) (v := _) rfl rfl (by kernel_rfl) (by kernel_rfl) (by kernel_rfl) (fun _ _ _ h => h) (by rfl) ?hy hHeld ?_; case hy => (intro w hSw; clear hSw; (first | done | go_simp); try with_reducible rfl)) | fail
    try simp only [Act.put, List.setIfInBounds_toArray, List.set_cons_zero, List.set_cons_succ]
    first | (refine skipH (i := 17) (dst := some 47) rfl rfl (by kernel_rfl) (by kernel_rfl) (by kernel_rfl) (fun _ _ _ h => h) (by rfl) hHeld ?_) | (refine' takeH (i := 17) (dst := some 47) (v := _) rfl rfl (by kernel_rfl) (by kernel_rfl) (by kernel_rfl) (fun _ _ _ h => h) (by rfl) ?hy hHeld ?_; case hy => (intro w hSw; clear hSw; (first | done | go_simp); try with_reducible rfl)) | fail
    try simp only [Act.put, List.setIfInBounds_toArray, List.set_cons_zero, List.set_cons_succ]
    refine wpAnyH_ready (rs := [18]) (by kernel_rfl) (by simp) ?_
    refine AllReadyH.cons (i := 18) (o := ⟨none, .store _ _ _, _, _, _, _⟩) rfl (fun K hK => ?_) AllReadyH.nil
    have s2 : w'.cell? ⟨q, 2, none⟩ = some (.slice na nn nc) := by rw [Lib.cell_of_heap hgq 2]; rfl
    have s3 : w'.frozen? ⟨q, 2, none⟩ = false := Lib.frozen_of_heap hgq 2
    obtain ⟨sa, sc, rfl, _, _⟩ := own_srcK ho
    go_simp
    have hH2 : (w'.setCell ⟨q, 2, none⟩ (.slice sa (nn + 1) sc)).cell? ⟨q, 0, none⟩ = some (.slice ca cn cc) := by rw [World.cell?_setCell_other _ _ _ _ (by simp)]; exact hHeld
    refine hK.out _ _ hH2 (fun _ => ?_)
    clear hK K hHeld hH
    refine wpAnyH_done (by kernel_rfl) (NoPanic.normal ?_) _
    have C1 := Lib.hid (((Ch.of_below (S := fun k => k = q ∨ (slV (na, nn, nc)).ownBlock = some k) HB1.out).grown hg (fun k hk => .inl (.inr hk))).set (p := ⟨q, 2, none⟩) (.inl (.inl rfl)) (.slice sa (nn + 1) sc))
    have hfr : (Value.slice sa (nn + 1) sc).ownBlock = (slV (na, nn, nc)).ownBlock ∨ ∀ g, (Value.slice sa (nn + 1) sc).ownBlock = some g → w.heap.size ≤ g := by
      rcases hf with h3 | h3
      · exact .inl h3
      · exact .inr fun g h => by have := h3 g h; simp at this; omega
    have ho2 : (w'.setCell ⟨q, 2, none⟩ (.slice sa (nn + 1) sc)).ownsRow 0 78 4 (.slice sa (nn + 1) sc) (nn + 1) ((N ++ [(⟨p, i, s, (cn : Int)⟩ : Nt)]).flatMap ntRow) := by
      rw [List.flatMap_append]
      refine own_keptNe ho (set_grown w' ⟨q, 2, none⟩ _) (fun e => ?_)
      obtain ⟨_, _, ht⟩ := own_type ho e
      exact type_ne ht hgq (by decide) rfl
    have HFIN : Hid (RMark q (ca, cn, cc) f (na, nn, nc) L G RC RF N false ⟨p, i, s, 0⟩ w (.returned (.int .i64 0)) (w'.setCell ⟨q, 2, none⟩ (.slice sa (nn + 1) sc))) := Lib.hid ⟨N ++ [(⟨p, i, s, (cn : Int)⟩ : Nt)], 0, (sa, nn + 1, sc), rfl,
      qat_note HQ.out C1.out (blk_set hgq 2 _) ho2 (by rw [List.length_append, ← HNN.out]; rfl) (by rw [List.length_append, ← HNN.out]; show nn + 1 ≤ 256; omega), C1.out.mono (fun k hk => hk.elim Or.inl (fun h => Or.inr (Or.inr (Or.inr h)))), (by unfold MRel; exact Or.inr (Or.inr (Or.inr ⟨rfl, HOK.out, (by rw [← HNN.out]; exact hn256), rfl, (by rw [HCL.out])⟩))), hfr⟩
    clear C1 hfr ho2 ho hg hf hgq s2 s3
    go_wp2_with fail
    go_ret
    exact HFIN.out
  · go_simp
    refine hK.out _ _ hHb (fun _ => ?_)
    clear hK K hHeld
    have hHeld := hHb
    try simp only [Act.put, List.setIfInBounds_toArray, List.set_cons_zero, List.set_cons_succ]
    refine wpAnyH_ready (rs := [4]) (by kernel_rfl) (by simp) ?_
    refine AllReadyH.cons (i := 4) (o := ⟨some 34, .load _ _, _, _, _, _⟩) rfl (fun K hK => ?_) AllReadyH.nil
    go_simp
    refine hK.out _ _ hHeld (fun _ => ?_)
    clear hK K
    try simp only [Act.put, List.setIfInBounds_toArray, List.set_cons_zero, List.set_cons_succ]
    refine wpAnyH_ready (rs := [15]) (by kernel_rfl) (by simp) ?_
    refine AllReadyH.cons (i := 15) (o := ⟨some 45, .call _, _, _, _, _⟩) rfl (fun K hK => ?_) AllReadyH.nil
    refine step_apartK (by first | rfl | simp [Region.wanted, yielded]) (.tmp 34) (.tmp 44) 41 (by rfl) 0 78 (.agg #[.string ⟨#[]⟩, .int .i64 0, .int .i64 0, .int .i64 0]) 4 40 (by omega) Try.underlying41 info_note rfl (.slice na nn nc) nn (N.flatMap ntRow) (by rfl) (own_belowK HQ.out.nl HB1.out) ⟨w.heap.size, 0, none⟩ 1 1 (ntRow ⟨p, i, s, (cn : Int)⟩) (by rfl) (by omega) rfl HNEW.out (by intro u hu; simp [ntRow] at hu; rcases hu with rfl | rfl | rfl | rfl <;> rfl) (by omega) (by omega) (by simp) ?_
    intro v' w' ho hg hf
    have hgq : w'.heap[q]? = some (.cells ⟨[slV (ca, cn, cc), slV f, slV (na, nn, nc), .bool false]⟩ 63 (0, 0)) := (hg.block q (by simp; have := HQ.out.lt; omega) (fun e => note_ne HQ.out q e.symm rfl)).trans HBL.out
    have hH : w'.cell? ⟨q, 0, none⟩ = some (.slice ca cn cc) := by rw [Lib.cell_of_heap hgq 0]; rfl
    refine hK.out _ _ hH (fun _ => ?_)
    clear hK K hHeld
    have hHeld := hH
    try simp only [Act.put, List.setIfInBounds_toArray, List.set_cons_zero, List.set_cons_succ]
    first | (refine skipH (i := 16) (dst := some 46) rfl rfl (by kernel_rfl) (by kernel_rfl) (by kernel_rfl) (fun _ _ _ h => h) (by rfl) hHeld ?_) | (refine' takeH (i := 16) (dst := some 46) (v := _) rfl rfl (by kernel_rfl) (by kernel_rfl) (by kernel_rfl) (fun _ _ _ h => h) (by rfl) ?hy hHeld ?_; case hy => (intro w hSw; clear hSw; (first | done | go_simp); try with_reducible rfl)) | fail
    try simp only [Act.put, List.setIfInBounds_toArray, List.set_cons_zero, List.set_cons_succ]
    first | (refine skipH (i := 17) (dst := some 47) rfl rfl (by kernel_rfl) (by kernel_rfl) (by kernel_rfl) (fun _ _ _ h => h) (by rfl) hHeld ?_) | (refine' takeH (i := 17) (dst := some 47) (v := _) rfl rfl (by kernel_rfl) (by kernel_rfl) (by kernel_rfl) (fun _ _ _ h => h) (by rfl) ?hy hHeld ?_; case hy => (intro w hSw; clear hSw; (first | done | go_simp); try with_reducible rfl)) | fail
    try simp only [Act.put, List.setIfInBounds_toArray, List.set_cons_zero, List.set_cons_succ]
    refine wpAnyH_ready (rs := [18]) (by kernel_rfl) (by simp) ?_
    refine AllReadyH.cons (i := 18) (o := ⟨none, .store _ _ _, _, _, _, _⟩) rfl (fun K hK => ?_) AllReadyH.nil
    have s2 : w'.cell? ⟨q, 2, none⟩ = some (.slice na nn nc) := by rw [Lib.cell_of_heap hgq 2]; rfl
    have s3 : w'.frozen? ⟨q, 2, none⟩ = false := Lib.frozen_of_heap hgq 2
    obtain ⟨sa, sc, rfl, _, _⟩ := own_srcK ho
    go_simp
    have hH2 : (w'.setCell ⟨q, 2, none⟩ (.slice sa (nn + 1) sc)).cell? ⟨q, 0, none⟩ = some (.slice ca cn cc) := by rw [World.cell?_setCell_other _ _ _ _ (by simp)]; exact hHeld
    refine hK.out _ _ hH2 (fun _ => ?_)
    clear hK K hHeld hH
    refine wpAnyH_done (by kernel_rfl) (NoPanic.normal ?_) _
    have C1 := Lib.hid (((Ch.of_below (S := fun k => k = q ∨ (slV (na, nn, nc)).ownBlock = some k) HB1.out).grown hg (fun k hk => .inl (.inr hk))).set (p := ⟨q, 2, none⟩) (.inl (.inl rfl)) (.slice sa (nn + 1) sc))
    have hfr : (Value.slice sa (nn + 1) sc).ownBlock = (slV (na, nn, nc)).ownBlock ∨ ∀ g, (Value.slice sa (nn + 1) sc).ownBlock = some g → w.heap.size ≤ g := by
      rcases hf with h3 | h3
      · exact .inl h3
      · exact .inr fun g h => by have := h3 g h; simp at this; omega
    have ho2 : (w'.setCell ⟨q, 2, none⟩ (.slice sa (nn + 1) sc)).ownsRow 0 78 4 (.slice sa (nn + 1) sc) (nn + 1) ((N ++ [(⟨p, i, s, (cn : Int)⟩ : Nt)]).flatMap ntRow) := by
      rw [List.flatMap_append]
      refine own_keptNe ho (set_grown w' ⟨q, 2, none⟩ _) (fun e => ?_)
      obtain ⟨_, _, ht⟩ := own_type ho e
      exact type_ne ht hgq (by decide) rfl
    have HFIN : Hid (RMark q (ca, cn, cc) f (na, nn, nc) L G RC RF N false ⟨p, i, s, 0⟩ w (.returned (.int .i64 0)) (w'.setCell ⟨q, 2, none⟩ (.slice sa (nn + 1) sc))) := Lib.hid ⟨N ++ [(⟨p, i, s, (cn : Int)⟩ : Nt)], 0, (sa, nn + 1, sc), rfl,
      qat_note HQ.out C1.out (blk_set hgq 2 _) ho2 (by rw [List.length_append, ← HNN.out]; rfl) (by rw [List.length_append, ← HNN.out]; show nn + 1 ≤ 256; omega), C1.out.mono (fun k hk => hk.elim Or.inl (fun h => Or.inr (Or.inr (Or.inr h)))), (by unfold MRel; exact Or.inr (Or.inr (Or.inr ⟨rfl, HOK.out, (by rw [← HNN.out]; exact hn256), rfl, (by rw [HCL.out])⟩))), hfr⟩
    clear C1 hfr ho2 ho hg hf hgq s2 s3
    go_wp2_with fail
    go_ret
    exact HFIN.out
set_option maxRecDepth 100000 in
set_option maxHeartbeats 8000000 in
theorem rMark_any {q : Nat} {c f n : Sl} {L G : List Cd} {RC RF : List Sl} {N : List Nt} {z : Bool} (p : List UInt8) (i s : Int) (w : World) (h : Qat w q c f n L G RC RF N z) (hp : p.length ≤ 1099511627776) :
    Calls Try.prog 45 #[.pointer (some ⟨q, 0, none⟩), .string (str p), .int .i64 i, .int .i64 s] w (RMark q c f n L G RC RF N z ⟨p, i, s, 0⟩ w) := by
  have HQ := Lib.hid h
  have HNM := Lib.hid (refName_str p w hp)
  have c3 := h.cell (j := 3) rfl
  have stay : ∀ er, MRel L.length N z ⟨p, i, s, 0⟩ N er → RMark q c f n L G RC RF N z ⟨p, i, s, 0⟩ w (.returned (.int .i64 er)) w := fun er hm => ⟨N, er, n, rfl, h, Ch.refl _ _, hm, Or.inl rfl⟩
  have HST := Lib.hid stay
  clear stay
  cases z with
  | true =>
    clear h
    go_enter Try.func45, Try.ntmps45
    go_wp2_with fail
    go_ret
    exact HST.out 5 (by unfold MRel; exact Or.inl ⟨rfl, rfl, rfl⟩)
  | false =>
    by_cases hok : isName p = true ∧ 0 ≤ i ∧ i ≤ 8
    · by_cases hn : N.length < 256
      · exact rMark_room p i s w h hp hok hn
      · have h256 : N.length = 256 := by have := h.n256; omega
        have c2 := h.cell (j := 2) rfl
        have hnn : n.2.1 = N.length := h.nn
        rw [hok.1] at HNM
        have i1 := hok.2.1
        have i2 := hok.2.2
        have t1 : decide (i < 0) = false := decide_eq_false (by omega)
        have t2 : decide (8 < i) = false := decide_eq_false (by omega)
        have HM := Lib.hid (HST.out 3 (by unfold MRel; exact Or.inr (Or.inr (Or.inl ⟨rfl, hok, h256, rfl, rfl⟩))))
        obtain ⟨na, nn, nc⟩ := n
        simp only [slV] at c2
        simp only at hnn
        have hn2 : nn = 256 := by omega
        subst hn2
        clear h hok HST HQ hn h256 hnn
        go_enter Try.func45, Try.ntmps45
        go_wp2_with (go_at_call 54; refine HNM.out.mono ?_; rintro e w5 ⟨rfl, rfl⟩)
        go_ret
        exact HM.out
    · have HM := Lib.hid (HST.out 1 (by unfold MRel; exact Or.inr (Or.inl ⟨rfl, hok, rfl, rfl⟩)))
      generalize hgn : isName p = gn at HNM hok
      have hor : gn = false ∨ (gn = true ∧ i < 0) ∨ (gn = true ∧ 0 ≤ i ∧ 8 < i) := by
        cases gn with
        | false => exact Or.inl rfl
        | true =>
          right
          by_cases h0 : i < 0
          · exact Or.inl ⟨rfl, h0⟩
          · exact Or.inr ⟨rfl, by omega, Int.not_le.1 fun h8 => hok ⟨rfl, by omega, h8⟩⟩
      clear h hok HST HQ hgn
      rcases hor with rfl | ⟨rfl, h0⟩ | ⟨rfl, h0, h8⟩
      · go_enter Try.func45, Try.ntmps45
        go_wp2_with (go_at_call 54; refine HNM.out.mono ?_; rintro e w5 ⟨rfl, rfl⟩)
        go_ret
        exact HM.out
      · have t1 : decide (i < 0) = true := decide_eq_true h0
        go_enter Try.func45, Try.ntmps45
        go_wp2_with (go_at_call 54; refine HNM.out.mono ?_; rintro e w5 ⟨rfl, rfl⟩)
        go_ret
        exact HM.out
      · have t1 : decide (i < 0) = false := decide_eq_false (by omega)
        have t2 : decide (8 < i) = true := decide_eq_true h8
        go_enter Try.func45, Try.ntmps45
        go_wp2_with (go_at_call 54; refine HNM.out.mono ?_; rintro e w5 ⟨rfl, rfl⟩)
        go_ret
        exact HM.out
end Go.Proofs.Ytjafddkkndfphaa.Kq
