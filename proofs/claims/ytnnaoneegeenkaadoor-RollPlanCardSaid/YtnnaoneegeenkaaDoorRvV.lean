/- The names by their levels: the program's Ranks. -/
import Derived.Test.YtnnaoneegeenkaaDoorRvU
import Derived.Test.YtnnaoneegeenkaaDoorRlR
import Derived.Test.YtnnaoneegeenkaaDoorRmT
namespace Go.Proofs.YtnnaoneegeenkaaDoor.Kq
open Go.ChangeShapes Go.WideShapes Go.ChangeAt Go.RowKit Own Ro wordsNames Kc
open Rm (wpList_load_row')

/-- The k-th of the sorted cards. -/
def oc (k : Nat) : Cd := SL.getD (ordL.toArray[k]!).1 cd0
/-- The names of a level among the first k of the sorted cards. -/
def rks (l : Nat) : Nat → List Tx
  | 0 => []
  | k + 1 => if (oc k).level = (l : Int) then rks l k ++ [(oc k).name] else rks l k
theorem rks_rk : ∀ l < 5, rks l 22 = rk (l : Int) 22 := by decide +kernel
theorem rks_len (l : Nat) : ∀ k, (rks l k).length ≤ k
  | 0 => Nat.le_refl _
  | k + 1 => by
    unfold rks
    have := rks_len l k
    split
    · rw [List.length_append, List.length_singleton]; omega
    · omega
theorem oc_lv : ∀ k < 22, 0 ≤ (oc k).level ∧ (oc k).level ≤ 4 := by decide +kernel
structure RkAt (B bx : Nat) (Ss : List Sl) (k : Nat) (W : World) : Prop where
  len : Ss.length = 5
  blk : W.heap[bx]? = some (.cells ⟨Ss.map slV⟩ 38 (0, 0))
  own : ∀ l, l < 5 → (Ss.getD l sl0).2.1 = (rks l k).length ∧ W.ownsRow B 9 1 (slV (Ss.getD l sl0)) (Ss.getD l sl0).2.1 (Kc.strs (rks l k))
  apart : ∀ l m, l < 5 → m < 5 → l ≠ m → ∀ g, (slV (Ss.getD l sl0)).ownBlock = some g → (slV (Ss.getD m sl0)).ownBlock ≠ some g
theorem RkAt.cell {B bx : Nat} {Ss : List Sl} {k : Nat} {W : World} (h : RkAt B bx Ss k W) {l : Nat} (hl : l < 5) : W.cell? ⟨bx, l, none⟩ = some (slV (Ss.getD l sl0)) := by
  rw [Lib.cell_of_heap h.blk l, List.getElem?_toArray, List.getElem?_map, some_at Ss sl0 l (by rw [h.len]; exact hl)]
  rfl
theorem RkAt.below {B bx : Nat} {Ss : List Sl} {k : Nat} {W W' : World} (h : RkAt B bx Ss k W) (hb : Below W.heap.size W W') : RkAt B bx Ss k W' :=
  ⟨h.len, (hb.block bx (Array.getElem?_eq_some_iff.1 h.blk).1).trans h.blk, fun l hl => ⟨(h.own l hl).1, own_belowK (h.own l hl).2 hb⟩, h.apart⟩
theorem rk_step {B bx : Nat} {Ss : List Sl} {k l : Nat} {W w' : World} {r : Sl} (h : RkAt B bx Ss k W) (hl : l < 5) (hlv : (oc k).level = (l : Int)) (hr : r.2.1 = (rks l k).length + 1)
    (hg : W.grownBy w' (slV (Ss.getD l sl0)).ownBlock) (ho : w'.ownsRow B 9 1 (slV r) r.2.1 (Kc.strs (rks l k ++ [(oc k).name]))) (hf : (slV r).ownBlock = (slV (Ss.getD l sl0)).ownBlock ∨ ∀ g, (slV r).ownBlock = some g → W.heap.size ≤ g) :
    RkAt B bx (Ss.set l r) (k + 1) (w'.setCell ⟨bx, l, none⟩ (slV r)) := by
  have hbx : w'.heap[bx]? = some (.cells ⟨Ss.map slV⟩ 38 (0, 0)) := (hg.block bx (Array.getElem?_eq_some_iff.1 h.blk).1 (fun e => by
    obtain ⟨_, _, ht⟩ := own_type (h.own l hl).2 e.symm
    exact type_ne ht h.blk (by decide) rfl)).trans h.blk
  have hne : ∀ {b m q : Nat} {v : Value} {xs : List Value}, w'.ownsRow b 9 q v m xs → v.ownBlock ≠ some bx := fun h0 e => by
    obtain ⟨_, _, ht⟩ := own_type h0 e
    exact type_ne ht hbx (by decide) rfl
  have gs : ∀ m, m < 5 → (Ss.set l r).getD m sl0 = if l = m then r else Ss.getD m sl0 := fun m hm => by
    rw [List.getD_eq_getElem?_getD, List.getElem?_set]
    split
    · rw [if_pos (by rw [h.len]; omega)]; rfl
    · rw [← List.getD_eq_getElem?_getD]
  have old : ∀ m, m < 5 → l ≠ m → w'.ownsRow B 9 1 (slV (Ss.getD m sl0)) (Ss.getD m sl0).2.1 (Kc.strs (rks m k)) := fun m hm hlm => (h.own m hm).2.kept hg (by
    cases hv : (slV (Ss.getD m sl0)).ownBlock with
    | none => exact .inl rfl
    | some g => exact .inr fun e => h.apart m l hm hl (fun e => hlm e.symm) g hv e.symm)
  refine ⟨by rw [List.length_set]; exact h.len, ?_, fun m hm => ?_, fun m n hm hn hmn g hg' => ?_⟩
  · have := blk_set hbx l (slV r)
    rw [← List.map_set] at this
    exact this
  · rw [gs m hm]
    by_cases hlm : l = m
    · subst hlm
      rw [if_pos rfl]
      have e : rks l (k + 1) = rks l k ++ [(oc k).name] := if_pos hlv
      rw [e]
      exact ⟨by rw [hr, List.length_append, List.length_singleton], own_keptNe ho (set_grown w' ⟨bx, l, none⟩ _) (hne ho)⟩
    · rw [if_neg hlm]
      have e : rks m (k + 1) = rks m k := if_neg (fun e => hlm (by omega))
      rw [e]
      exact ⟨(h.own m hm).1, own_keptNe (old m hm hlm) (set_grown w' ⟨bx, l, none⟩ _) (hne (old m hm hlm))⟩
  · rw [gs m hm] at hg'
    rw [gs n hn]
    by_cases h1 : l = m
    · rw [if_pos h1] at hg'
      rw [if_neg (fun e => hmn (h1.symm.trans e))]
      intro h2
      rcases hf with h3 | h3
      · exact h.apart l n hl hn (fun e => hmn (h1.symm.trans e)) g (h3.symm.trans hg') h2
      · have := h3 g hg'
        have := ((h.own n hn).2.lt g h2).2
        omega
    · rw [if_neg h1] at hg'
      by_cases h2 : l = n
      · rw [if_pos h2]
        intro h4
        rcases hf with h3 | h3
        · exact h.apart m l hm hl (fun e => h1 e.symm) g hg' (h3.symm.trans h4)
        · have := h3 g h4
          have := ((h.own m hm).2.lt g hg').2
          omega
      · rw [if_neg h2]
        exact h.apart m n hm hn hmn g hg'
theorem rk_start (w : World) : RkAt (w.heap.size + 1) w.heap.size [sl0, sl0, sl0, sl0, sl0] 0 (w.alloc (.cells #[.slice none 0 0, .slice none 0 0, .slice none 0 0, .slice none 0 0, .slice none 0 0] 38)) := by
  have g : ∀ l, l < 5 → ([sl0, sl0, sl0, sl0, sl0] : List Sl).getD l sl0 = sl0 := by decide
  refine ⟨rfl, heap_alloc_new w _, fun l hl => ?_, fun l m hl hm _ g' hg => ?_⟩
  · rw [g l hl]
    exact ⟨rfl, own_nilK _ _ _ _⟩
  · rw [g l hl] at hg
    cases hg
theorem set5 {W : World} {g : Nat} {T : TypeId} {x0 x1 x2 x3 x4 : Value} {vs : List Value} (h : W.heap[g]? = some (.cells #[x0, x1, x2, x3, x4] T (0, 0))) (hv : vs.length = 5) : (W.setCells g 0 vs).heap[g]? = some (.cells vs.toArray T (0, 0)) := by
  match vs, hv with
  | [a, b, c, d, e], _ => exact blk_set (blk_set (blk_set (blk_set (blk_set (l := [x0, x1, x2, x3, x4]) h 0 a) 1 b) 2 c) 3 d) 4 e
def RanksPost (w : World) (e : Ending) (w' : World) : Prop :=
  ∃ Ss : List Sl, Ss.length = 5 ∧ e = .returned (.agg (Ss.map slV).toArray) ∧ (∀ l, l < 5 → (Ss.getD l sl0).2.1 = (rk (l : Int) 22).length ∧ CellsIn w' 1 (Ss.getD l sl0).1 (Ss.getD l sl0).2.1 (Kc.strs (rk (l : Int) 22))) ∧ Below w.heap.size w w'
set_option maxRecDepth 100000 in
set_option maxHeartbeats 8000000 in
theorem rRanks_any (w : World) : Calls Tryd.prog 14 #[] w (RanksPost w) := by
  have HC := Lib.hid rCards_any
  have HZ := Lib.hid (heap_alloc_new w (.cells #[.slice none 0 0, .slice none 0 0, .slice none 0 0, .slice none 0 0, .slice none 0 0] 38))
  have HG := Lib.hid (grows' w (.cells #[.slice none 0 0, .slice none 0 0, .slice none 0 0, .slice none 0 0, .slice none 0 0] 38))
  have hsz : w.heap.size < (w.alloc (.cells #[.slice none 0 0, .slice none 0 0, .slice none 0 0, .slice none 0 0, .slice none 0 0] 38)).heap.size := by simp
  go_enter Tryd.func14, Tryd.ntmps14
  go_wp2_with fail
  generalize w.alloc (.cells #[.slice none 0 0, .slice none 0 0, .slice none 0 0, .slice none 0 0, .slice none 0 0] 38) = wa at HZ HG hsz ⊢
  refine (HC.out _).mono ?_
  rintro e w1 ⟨A, c, R, rfl, hr, hb⟩
  obtain ⟨b, rfl, hb1, hb2⟩ := own_shapeK hr.2.1 (by omega)
  have HSO := Lib.hid (sort_any hr hb hb1 hb2)
  have HRB := Lib.hid hr.2.1
  clear hr hb HC
  go_wp2_with fail
  refine HSO.out.mono ?_
  rintro e w2 ⟨rfl, hbl, hb3, hcs⟩
  have BW := Lib.hid (bt HG.out hbl)
  have HZ2 := Lib.hid ((hbl.block w.heap.size hsz).trans HZ.out)
  have HCS := Lib.hid hcs
  have hs2 : wa.heap.size ≤ w2.heap.size := hbl.size
  clear hbl hcs HSO HG HZ
  go_wp2_with fail
  have h3 : (w2.alloc (.cells #[.slice none 0 0, .slice none 0 0, .slice none 0 0, .slice none 0 0, .slice none 0 0] 38)).heap.size = w2.heap.size + 1 := by simp
  have H3 := Lib.hid h3
  have RK0 := Lib.hid (rk_start w2)
  have G3 := Lib.hid (grows' w2 (.cells #[.slice none 0 0, .slice none 0 0, .slice none 0 0, .slice none 0 0, .slice none 0 0] 38))
  generalize w2.alloc (.cells #[.slice none 0 0, .slice none 0 0, .slice none 0 0, .slice none 0 0, .slice none 0 0] 38) = w3 at H3 RK0 G3 h3 ⊢
  generalize hbxx : w2.heap.size = bx at *
  have hbbx : b < bx := by omega
  have hrbx : w.heap.size < bx := by omega
  have HCX : Hid (∀ W, Kp bx (bx + 1) w3 W → ∀ k, k < 22 → ∀ j u, (KC.row (oc k, R.getD (ordL.toArray[k]!).1 sl0))[j]? = some u → W.cell? ⟨b, k * 7 + j, none⟩ = some u) := Lib.hid (fun W hW k hk j u hu => by
    have e1 : w3.heap[b]? = w2.heap[b]? := G3.out.block b (by omega)
    have e2 : W.heap[b]? = w2.heap[b]? := (hW.block b (by omega) (.inl hbbx)).trans e1
    exact (World.cell?_of_block e2).trans (HCS.out k hk j u hu))
  have HZX : Hid (∀ W, Kp bx (bx + 1) w3 W → W.heap[w.heap.size]? = some (.cells #[.slice none 0 0, .slice none 0 0, .slice none 0 0, .slice none 0 0, .slice none 0 0] 38 (0, 0))) := Lib.hid (fun W hW => ((hW.block _ (by omega) (.inl hrbx)).trans (G3.out.block _ (by omega))).trans HZ2.out)
  have BW3 := Lib.hid (bt BW.out (by rw [hbxx]; exact G3.out))
  clear HCS HZ2 HRB BW G3
  go_loopw [10] (fun v10 wr => ∃ k : Nat, k ≤ 22 ∧ v10 = .int .i64 (k : Nat) ∧ ∃ Ss : List Sl, RkAt (bx + 1) bx Ss k wr ∧ Kp bx (bx + 1) w3 wr) (fun v10 _ => 22 - (RowKit.intOf v10).toNat)
  case atStart => exact ⟨0, by omega, rfl, _, RK0.out, Kp.refl _⟩
  case round =>
    clear RK0
    obtain ⟨k, hk, rfl, Ss, hrk, hkp⟩ := hrel
    have KA := Lib.hid hrk
    have KPX := Lib.hid hkp
    have hws : bx + 1 ≤ wr.heap.size := by have := hkp.size; omega
    clear hrk hkp
    by_cases hlt : k < 22
    · have k1 : (0 : Int) ≤ (k : Int) := by omega
      have k2 : (k : Int) < 22 := by omega
      have hc := HCX.out wr KPX.out k hlt
      have e0 : wr.cell? ⟨b, k * 7, none⟩ = some (.string (str (oc k).name)) := hc 0 _ rfl
      have e1 : wr.cell? ⟨b, k * 7 + 1, none⟩ = some (.string (str (oc k).fam)) := hc 1 _ rfl
      have e2 : wr.cell? ⟨b, k * 7 + 2, none⟩ = some (.int .u8 (oc k).level) := hc 2 _ rfl
      have e3 : wr.cell? ⟨b, k * 7 + 3, none⟩ = some (slV (R.getD (ordL.toArray[k]!).1 sl0)) := hc 3 _ rfl
      have e4 : wr.cell? ⟨b, k * 7 + 4, none⟩ = some (.int .i8 (oc k).score) := hc 4 _ rfl
      have e5 : wr.cell? ⟨b, k * 7 + 5, none⟩ = some (.string (str (oc k).quirk)) := hc 5 _ rfl
      have e6 : wr.cell? ⟨b, k * 7 + 6, none⟩ = some (.int .i16 (oc k).entry) := hc 6 _ rfl
      clear hc
      have hlv := oc_lv k hlt
      obtain ⟨l, hl⟩ : ∃ l : Nat, (oc k).level = (l : Int) := ⟨(oc k).level.toNat, by omega⟩
      have hl5 : l < 5 := by omega
      have HLV := Lib.hid hl
      rw [hl] at e2
      have HNX : Hid (Kc.strs (rks l k) ++ [.string (str (oc k).name)] = Kc.strs (rks l k ++ [(oc k).name])) := Lib.hid (strs_snoc _ _)
      have hrl := rks_len l k
      clear hl hlv
      generalize R.getD (ordL.toArray[k]!).1 sl0 = r at e3
      obtain ⟨ra, rn, rc⟩ := r
      simp only [slV] at e3
      generalize str (oc k).fam = X1 at e1
      generalize (oc k).score = sc4 at e4
      generalize str (oc k).quirk = X5 at e5
      generalize (oc k).entry = en6 at e6
      have y1 : (0 : Int) ≤ (l : Int) := by omega
      have y2 : (l : Int) < 5 := by omega
      generalize str (oc k).name = X at e0 HNX
      go_upto_region 7 with (fail)
      have GB := Lib.hid (grows' wr (.cells #[.string X, .string X1, .int .u8 (l : Int), .slice ra rn rc, .int .i8 sc4, .string X5, .int .i16 en6] 30))
      have HCB := Lib.hid (heap_alloc_new wr (.cells #[.string X, .string X1, .int .u8 (l : Int), .slice ra rn rc, .int .i8 sc4, .string X5, .int .i16 en6] 30))
      have hcb : wr.heap.size < (wr.alloc (.cells #[.string X, .string X1, .int .u8 (l : Int), .slice ra rn rc, .int .i8 sc4, .string X5, .int .i16 en6] 30)).heap.size := by simp
      have KB := Lib.hid (KA.out.below GB.out)
      have KPB := Lib.hid (KPX.out.below GB.out)
      generalize wr.alloc (.cells #[.string X, .string X1, .int .u8 (l : Int), .slice ra rn rc, .int .i8 sc4, .string X5, .int .i16 en6] 30) = wB at GB HCB hcb KB KPB ⊢
      clear GB KA KPX e0 e1 e2 e3 e4 e5 e6
      generalize hcx : wr.heap.size = cbx at *
      have x2 : wB.cell? ⟨cbx, 2, none⟩ = some (.int .u8 (l : Int)) := by rw [Lib.cell_of_heap HCB.out 2]; rfl
      have x0 : wB.cell? ⟨cbx, 0, none⟩ = some (.string X) := by rw [Lib.cell_of_heap HCB.out 0]; rfl
      have hbxB : bx < wB.heap.size := by omega
      have hcell := KB.out.cell hl5
      have hown := KB.out.own l hl5
      generalize hss : Ss.getD l sl0 = s9 at hcell hown
      obtain ⟨sa, sn, sc⟩ := s9
      simp only [slV] at hcell
      have HSS := Lib.hid hss
      have HSN := Lib.hid hown.1
      have hsn : sn ≤ 22 := by have := hown.1; dsimp only at this; omega
      have bd := below_dr (Below.refl wB.heap.size wB) 1
      have HB1 := Lib.hid (bal bd rfl (.cells #[.string X] 9))
      have HNEW : Hid (∀ j u, [Value.string X][j]? = some u → ((wB.drewN 1).alloc (.cells #[.string X] 9)).cell? ((⟨wB.heap.size, 0, none⟩ : Addr).add j) = some u) := Lib.hid (fun j u hu => by
        rw [Ro.add_plain, World.cell?_alloc_at _ _ _ _ (by simp), Nat.zero_add]
        simpa using hu)
      have HOWN := Lib.hid (own_belowK hown.2 HB1.out)
      have c4b : (wB.drew.alloc (.cells #[.string X] 9)).cell? ⟨bx, l, none⟩ = some (.slice sa sn sc) := (HB1.out.cell (p := ⟨bx, l, none⟩) hbxB).trans hcell
      have c4c : (wB.alloc (.cells #[.string X] 9)).cell? ⟨bx, l, none⟩ = some (.slice sa sn sc) := c4b
      have hHb : (wB.drew.alloc (.cells #[.string X] 9)).cell? ⟨cbx, 2, none⟩ = some (.int .u8 (l : Int)) ∧ (wB.drew.alloc (.cells #[.string X] 9)).cell? ⟨cbx, 0, none⟩ = some (.string X) := ⟨(HB1.out.cell (p := ⟨cbx, 2, none⟩) hcb).trans x2, (HB1.out.cell (p := ⟨cbx, 0, none⟩) hcb).trans x0⟩
      have HS0 := Lib.hid (show (wB.drewN 1).cell? ⟨cbx, 2, none⟩ = some (.int .u8 (l : Int)) ∧ (wB.drewN 1).cell? ⟨cbx, 0, none⟩ = some (.string X) from ⟨(bd.cell (p := ⟨cbx, 2, none⟩) hcb).trans x2, (bd.cell (p := ⟨cbx, 0, none⟩) hcb).trans x0⟩)
      clear hss hown bd x2 x0
      refine wp_region_noPanic ?_
      refine wp_region_held_drew (S := fun w' : World => w'.cell? ⟨cbx, 2, none⟩ = some (.int .u8 (l : Int)) ∧ w'.cell? ⟨cbx, 0, none⟩ = some (.string X)) (by kernel_rfl) HS0.out (fun hHeld => ?_)
      first | (refine skipH (i := 0) (dst := some 14) rfl rfl (by kernel_rfl) (by kernel_rfl) (by kernel_rfl) (fun _ _ _ h => h) (by rfl) hHeld ?_) | (refine' takeH (i := 0) (dst := some 14) (v := _) rfl rfl (by kernel_rfl) (by kernel_rfl) (by kernel_rfl) (fun _ _ _ h => h) (by rfl) ?hy hHeld ?_; case hy => (intro w hSw; clear hSw; (first | done | go_simp); try with_reducible rfl)) | fail
      try simp only [Act.put, List.setIfInBounds_toArray, List.set_cons_zero, List.set_cons_succ]
      first | (refine skipH (i := 1) (dst := some 15) rfl rfl (by kernel_rfl) (by kernel_rfl) (by kernel_rfl) (fun _ _ _ h => h) (by rfl) hHeld ?_) | (refine' takeH (i := 1) (dst := some 15) (v := _) rfl rfl (by kernel_rfl) (by kernel_rfl) (by kernel_rfl) (fun _ _ _ h => h) (by rfl) ?hy hHeld ?_; case hy => (intro w hSw; obtain ⟨_, _⟩ := hSw; (first | done | go_simp); try with_reducible rfl)) | fail
      try simp only [Act.put, List.setIfInBounds_toArray, List.set_cons_zero, List.set_cons_succ]
      first | (refine skipH (i := 2) (dst := some 16) rfl rfl (by kernel_rfl) (by kernel_rfl) (by kernel_rfl) (fun _ _ _ h => h) (by rfl) hHeld ?_) | (refine' takeH (i := 2) (dst := some 16) (v := _) rfl rfl (by kernel_rfl) (by kernel_rfl) (by kernel_rfl) (fun _ _ _ h => h) (by rfl) ?hy hHeld ?_; case hy => (intro w hSw; clear hSw; (first | done | go_simp); try with_reducible rfl)) | fail
      try simp only [Act.put, List.setIfInBounds_toArray, List.set_cons_zero, List.set_cons_succ]
      first | (refine skipH (i := 3) (dst := some 17) rfl rfl (by kernel_rfl) (by kernel_rfl) (by kernel_rfl) (fun _ _ _ h => h) (by rfl) hHeld ?_) | (refine' takeH (i := 3) (dst := some 17) (v := _) rfl rfl (by kernel_rfl) (by kernel_rfl) (by kernel_rfl) (fun _ _ _ h => h) (by rfl) ?hy hHeld ?_; case hy => (intro w hSw; obtain ⟨_, _⟩ := hSw; (first | done | go_simp); try with_reducible rfl)) | fail
      try simp only [Act.put, List.setIfInBounds_toArray, List.set_cons_zero, List.set_cons_succ]
      first | (refine skipH (i := 4) (dst := some 18) rfl rfl (by kernel_rfl) (by kernel_rfl) (by kernel_rfl) (fun _ _ _ h => h) (by rfl) hHeld ?_) | (refine' takeH (i := 4) (dst := some 18) (v := _) rfl rfl (by kernel_rfl) (by kernel_rfl) (by kernel_rfl) (fun _ _ _ h => h) (by rfl) ?hy hHeld ?_; case hy => (intro w hSw; clear hSw; (first | done | go_simp); try with_reducible rfl)) | fail
      try simp only [Act.put, List.setIfInBounds_toArray, List.set_cons_zero, List.set_cons_succ]
      first | (refine skipH (i := 6) (dst := some 20) rfl rfl (by kernel_rfl) (by kernel_rfl) (by kernel_rfl) (fun _ _ _ h => h) (by rfl) hHeld ?_) | (refine' takeH (i := 6) (dst := some 20) (v := _) rfl rfl (by kernel_rfl) (by kernel_rfl) (by kernel_rfl) (fun _ _ _ h => h) (by rfl) ?hy hHeld ?_; case hy => (intro w hSw; clear hSw; (first | done | go_simp); try with_reducible rfl)) | fail
      try simp only [Act.put, List.setIfInBounds_toArray, List.set_cons_zero, List.set_cons_succ]
      first | (refine skipH (i := 7) (dst := some 21) rfl rfl (by kernel_rfl) (by kernel_rfl) (by kernel_rfl) (fun _ _ _ h => h) (by rfl) hHeld ?_) | (refine' takeH (i := 7) (dst := some 21) (v := _) rfl rfl (by kernel_rfl) (by kernel_rfl) (by kernel_rfl) (fun _ _ _ h => h) (by rfl) ?hy hHeld ?_; case hy => (intro w hSw; obtain ⟨_, _⟩ := hSw; (first | done | go_simp); try with_reducible rfl)) | fail
      try simp only [Act.put, List.setIfInBounds_toArray, List.set_cons_zero, List.set_cons_succ]
      refine wpAnyH_ready (rs := [5, 8]) (by kernel_rfl) (by simp) ?_
      refine AllReadyH.cons (i := 5) (o := ⟨some 19, .load _ _, _, _, _, _⟩) rfl (fun K hK => ?_) (AllReadyH.cons (i := 8) (o := ⟨some 22, .buildSlice _ _ _, _, _, _, _⟩) rfl (fun K hK => ?_) AllReadyH.nil)
      · · go_simp
          refine hK.out _ _ hHeld (fun _ => ?_)
          clear hK K
          try simp only [Act.put, List.setIfInBounds_toArray, List.set_cons_zero, List.set_cons_succ]
          refine wpAnyH_ready (rs := [8]) (by kernel_rfl) (by simp) ?_
          refine AllReadyH.cons (i := 8) (o := ⟨some 22, .buildSlice _ _ _, _, _, _, _⟩) rfl (fun K hK => ?_) AllReadyH.nil
          go_simp
          refine hK.out _ _ hHb (fun _ => ?_)
          clear hK K hHeld
          have hHeld := hHb
          try simp only [Act.put, List.setIfInBounds_toArray, List.set_cons_zero, List.set_cons_succ]
          refine wpAnyH_ready (rs := [9]) (by kernel_rfl) (by simp) ?_
          refine AllReadyH.cons (i := 9) (o := ⟨some 23, .call _, _, _, _, _⟩) rfl (fun K hK => ?_) AllReadyH.nil
          refine step_apartK (by first | rfl | simp [Region.wanted, yielded]) (.tmp 19) (.tmp 22) 26 (by rfl) (bx + 1) 9 (.string ⟨#[]⟩) 1 16 (by omega) Tryd.underlying26 info_st rfl (.slice sa sn sc) sn (Kc.strs (rks l k)) (by rfl) HOWN.out ⟨wB.heap.size, 0, none⟩ 1 1 [.string X] (by rfl) (by omega) rfl HNEW.out (by intro u hu; simp at hu; subst hu; rfl) (by omega) (by omega) (by simp; omega) ?_
          intro v' w' ho hg hf
          have hgq : w'.heap[bx]? = some (.cells ⟨Ss.map slV⟩ 38 (0, 0)) := (hg.block bx (Nat.lt_of_lt_of_le hbxB HB1.out.size) (fun e => by
            obtain ⟨_, _, h⟩ := own_type HOWN.out e.symm
            exact type_ne h (KB.out.below HB1.out).blk (by decide) rfl)).trans (KB.out.below HB1.out).blk
          have hH : w'.cell? ⟨cbx, 2, none⟩ = some (.int .u8 (l : Int)) ∧ w'.cell? ⟨cbx, 0, none⟩ = some (.string X) := by
            have hq := (hg.block cbx (Nat.lt_of_lt_of_le hcb HB1.out.size) (fun e => by
              obtain ⟨_, _, h⟩ := own_type HOWN.out e.symm
              exact type_ne h ((HB1.out.block cbx hcb).trans HCB.out) (by decide) rfl))
            exact ⟨(World.cell?_of_block hq).trans hHeld.1, (World.cell?_of_block hq).trans hHeld.2⟩
          refine hK.out _ _ hH (fun _ => ?_)
          clear hK K hHeld
          have hHeld := hH
          try simp only [Act.put, List.setIfInBounds_toArray, List.set_cons_zero, List.set_cons_succ]
          first | (refine skipH (i := 10) (dst := some 24) rfl rfl (by kernel_rfl) (by kernel_rfl) (by kernel_rfl) (fun _ _ _ h => h) (by rfl) hHeld ?_) | (refine' takeH (i := 10) (dst := some 24) (v := _) rfl rfl (by kernel_rfl) (by kernel_rfl) (by kernel_rfl) (fun _ _ _ h => h) (by rfl) ?hy hHeld ?_; case hy => (intro w hSw; clear hSw; (first | done | go_simp); try with_reducible rfl)) | fail
          try simp only [Act.put, List.setIfInBounds_toArray, List.set_cons_zero, List.set_cons_succ]
          refine wpAnyH_ready (rs := [11]) (by kernel_rfl) (by simp) ?_
          refine AllReadyH.cons (i := 11) (o := ⟨none, .store _ _ _, _, _, _, _⟩) rfl (fun K hK => ?_) AllReadyH.nil
          have s2 : w'.cell? ⟨bx, l, none⟩ = some (.slice sa sn sc) := by
            rw [Lib.cell_of_heap hgq l, List.getElem?_toArray, List.getElem?_map, some_at Ss sl0 l (by rw [KB.out.len]; exact hl5), HSS.out]
            rfl
          have s3 : w'.frozen? ⟨bx, l, none⟩ = false := Lib.frozen_of_heap hgq l
          obtain ⟨va, vc, rfl, _, _⟩ := own_srcK ho
          go_simp
          have hH2 : (w'.setCell ⟨bx, l, none⟩ (.slice va (sn + 1) vc)).cell? ⟨cbx, 2, none⟩ = some (.int .u8 (l : Int)) ∧ (w'.setCell ⟨bx, l, none⟩ (.slice va (sn + 1) vc)).cell? ⟨cbx, 0, none⟩ = some (.string X) := by
            rw [World.cell?_setCell_other _ _ _ _ (by simp), World.cell?_setCell_other _ _ _ _ (by simp)]
            exact hHeld
          refine hK.out _ _ hH2 (fun _ => ?_)
          clear hK K hHeld hH
          refine wpAnyH_done (by kernel_rfl) (NoPanic.normal ?_) _
          have HST := Lib.hid (rk_step (r := (va, sn + 1, vc)) (KB.out.below HB1.out) hl5 HLV.out (by show sn + 1 = _; rw [show sn = (rks l k).length from HSN.out]) (by rw [HSS.out]; exact hg) (by rw [HNX.out] at ho; exact ho) (by rw [HSS.out]; exact hf))
          have HKP := Lib.hid (((KPB.out.below HB1.out).grown hg (fun kk hk => .inr (by rw [H3.out]; exact (HOWN.out.lt kk hk).1))).setCell (p := ⟨bx, l, none⟩) (.inl ⟨Nat.le_refl _, Nat.lt_succ_self _⟩) (.slice va (sn + 1) vc))
          clear ho hg hf hgq s2 s3 hH2
          go_wp2_with fail
          go_roundw
          case rel => exact ⟨k + 1, by omega, by go_num, Ss.set l (va, sn + 1, vc), HST.out, HKP.out⟩
          case measure => simp [RowKit.intOf]; omega
      · · go_simp
          refine hK.out _ _ hHb (fun _ => ?_)
          clear hK K hHeld
          have hHeld := hHb
          try simp only [Act.put, List.setIfInBounds_toArray, List.set_cons_zero, List.set_cons_succ]
          refine wpAnyH_ready (rs := [5]) (by kernel_rfl) (by simp) ?_
          refine AllReadyH.cons (i := 5) (o := ⟨some 19, .load _ _, _, _, _, _⟩) rfl (fun K hK => ?_) AllReadyH.nil
          go_simp
          refine hK.out _ _ hHeld (fun _ => ?_)
          clear hK K
          try simp only [Act.put, List.setIfInBounds_toArray, List.set_cons_zero, List.set_cons_succ]
          refine wpAnyH_ready (rs := [9]) (by kernel_rfl) (by simp) ?_
          refine AllReadyH.cons (i := 9) (o := ⟨some 23, .call _, _, _, _, _⟩) rfl (fun K hK => ?_) AllReadyH.nil
          refine step_apartK (by first | rfl | simp [Region.wanted, yielded]) (.tmp 19) (.tmp 22) 26 (by rfl) (bx + 1) 9 (.string ⟨#[]⟩) 1 16 (by omega) Tryd.underlying26 info_st rfl (.slice sa sn sc) sn (Kc.strs (rks l k)) (by rfl) HOWN.out ⟨wB.heap.size, 0, none⟩ 1 1 [.string X] (by rfl) (by omega) rfl HNEW.out (by intro u hu; simp at hu; subst hu; rfl) (by omega) (by omega) (by simp; omega) ?_
          intro v' w' ho hg hf
          have hgq : w'.heap[bx]? = some (.cells ⟨Ss.map slV⟩ 38 (0, 0)) := (hg.block bx (Nat.lt_of_lt_of_le hbxB HB1.out.size) (fun e => by
            obtain ⟨_, _, h⟩ := own_type HOWN.out e.symm
            exact type_ne h (KB.out.below HB1.out).blk (by decide) rfl)).trans (KB.out.below HB1.out).blk
          have hH : w'.cell? ⟨cbx, 2, none⟩ = some (.int .u8 (l : Int)) ∧ w'.cell? ⟨cbx, 0, none⟩ = some (.string X) := by
            have hq := (hg.block cbx (Nat.lt_of_lt_of_le hcb HB1.out.size) (fun e => by
              obtain ⟨_, _, h⟩ := own_type HOWN.out e.symm
              exact type_ne h ((HB1.out.block cbx hcb).trans HCB.out) (by decide) rfl))
            exact ⟨(World.cell?_of_block hq).trans hHeld.1, (World.cell?_of_block hq).trans hHeld.2⟩
          refine hK.out _ _ hH (fun _ => ?_)
          clear hK K hHeld
          have hHeld := hH
          try simp only [Act.put, List.setIfInBounds_toArray, List.set_cons_zero, List.set_cons_succ]
          first | (refine skipH (i := 10) (dst := some 24) rfl rfl (by kernel_rfl) (by kernel_rfl) (by kernel_rfl) (fun _ _ _ h => h) (by rfl) hHeld ?_) | (refine' takeH (i := 10) (dst := some 24) (v := _) rfl rfl (by kernel_rfl) (by kernel_rfl) (by kernel_rfl) (fun _ _ _ h => h) (by rfl) ?hy hHeld ?_; case hy => (intro w hSw; clear hSw; (first | done | go_simp); try with_reducible rfl)) | fail
          try simp only [Act.put, List.setIfInBounds_toArray, List.set_cons_zero, List.set_cons_succ]
          refine wpAnyH_ready (rs := [11]) (by kernel_rfl) (by simp) ?_
          refine AllReadyH.cons (i := 11) (o := ⟨none, .store _ _ _, _, _, _, _⟩) rfl (fun K hK => ?_) AllReadyH.nil
          have s2 : w'.cell? ⟨bx, l, none⟩ = some (.slice sa sn sc) := by
            rw [Lib.cell_of_heap hgq l, List.getElem?_toArray, List.getElem?_map, some_at Ss sl0 l (by rw [KB.out.len]; exact hl5), HSS.out]
            rfl
          have s3 : w'.frozen? ⟨bx, l, none⟩ = false := Lib.frozen_of_heap hgq l
          obtain ⟨va, vc, rfl, _, _⟩ := own_srcK ho
          go_simp
          have hH2 : (w'.setCell ⟨bx, l, none⟩ (.slice va (sn + 1) vc)).cell? ⟨cbx, 2, none⟩ = some (.int .u8 (l : Int)) ∧ (w'.setCell ⟨bx, l, none⟩ (.slice va (sn + 1) vc)).cell? ⟨cbx, 0, none⟩ = some (.string X) := by
            rw [World.cell?_setCell_other _ _ _ _ (by simp), World.cell?_setCell_other _ _ _ _ (by simp)]
            exact hHeld
          refine hK.out _ _ hH2 (fun _ => ?_)
          clear hK K hHeld hH
          refine wpAnyH_done (by kernel_rfl) (NoPanic.normal ?_) _
          have HST := Lib.hid (rk_step (r := (va, sn + 1, vc)) (KB.out.below HB1.out) hl5 HLV.out (by show sn + 1 = _; rw [show sn = (rks l k).length from HSN.out]) (by rw [HSS.out]; exact hg) (by rw [HNX.out] at ho; exact ho) (by rw [HSS.out]; exact hf))
          have HKP := Lib.hid (((KPB.out.below HB1.out).grown hg (fun kk hk => .inr (by rw [H3.out]; exact (HOWN.out.lt kk hk).1))).setCell (p := ⟨bx, l, none⟩) (.inl ⟨Nat.le_refl _, Nat.lt_succ_self _⟩) (.slice va (sn + 1) vc))
          clear ho hg hf hgq s2 s3 hH2
          go_wp2_with fail
          go_roundw
          case rel => exact ⟨k + 1, by omega, by go_num, Ss.set l (va, sn + 1, vc), HST.out, HKP.out⟩
          case measure => simp [RowKit.intOf]; omega
    · obtain rfl : k = 22 := by omega
      have HZR := Lib.hid (HZX.out wr KPX.out)
      have HRG : Hid (wr.rangeAt bx 0 (Ss.map slV)) := Lib.hid (fun j v hv => by
        rw [Nat.zero_add, Lib.cell_of_heap KA.out.blk j, List.getElem?_toArray]
        exact hv)
      have HFA := Lib.hid (fun l (hl : l < 5) => show (Ss.getD l sl0).2.1 = (rk (l : Int) 22).length ∧ wr.ownsRow (bx + 1) 9 1 (slV (Ss.getD l sl0)) (Ss.getD l sl0).2.1 (Kc.strs (rk (l : Int) 22)) from by
        have h := KA.out.own l hl
        rw [rks_rk l hl] at h
        exact h)
      have HLN := Lib.hid KA.out.len
      have hzr := HZR.out
      have HTH : Hid (wr.there w.heap.size 0 5) := Lib.hid (fun j hj => by
        refine ⟨?_, Lib.frozen_of_heap HZR.out _⟩
        rw [Nat.zero_add, Lib.cell_of_heap HZR.out j]
        obtain rfl | rfl | rfl | rfl | rfl : j = 0 ∨ j = 1 ∨ j = 2 ∨ j = 3 ∨ j = 4 := by omega
        all_goals rfl)
      have HBE := Lib.hid (KPX.out.low BW3.out (by omega) (by omega))
      have HML : Hid ((Ss.map slV).length = 5) := Lib.hid (by rw [List.length_map]; exact KA.out.len)
      have HON : Hid (∀ v ∈ Ss.map slV, v.oneCell' = true) := Lib.hid (fun v hv => by
        obtain ⟨s, _, rfl⟩ := List.mem_map.1 hv
        rfl)
      clear KA KPX HCX HZX hzr
      generalize hcs : Ss.map slV = cs at HRG HML HON
      have HCSX := Lib.hid hcs
      clear hcs
      go_wp2_with (first | refine wpList_load_row' rfl _ _ rfl bx rfl cs (.array 5 26) HRG.out (by kernel_rfl) rfl (by rw [HML.out]; kernel_rfl) ?_ | refine wpList_store_mid (op := ⟨none, .store 38 (.tmp 0) (.tmp 26), _, _, _, _⟩) rfl 38 (.tmp 0) (.tmp 26) rfl w.heap.size 0 cs.toArray rfl rfl (by simpa [HML.out] using HTH.out) (by rw [List.size_toArray, HML.out]; kernel_rfl) (all_oneCell_toArray HON.out) ?_)
      have H5 := set5 HZR.out HML.out
      refine bodyPost_ret (results_cell_row rfl _ _ w.heap.size 38 cs.toArray (0, 0) (.array 5 26) rfl H5 (by kernel_rfl) rfl (by rw [List.size_toArray, HML.out]; kernel_rfl)) rfl ?_
      refine ⟨Ss, HLN.out, by rw [HCSX.out], fun l hl => ⟨(HFA.out l hl).1, own_cells (own_setsNe cs 0 (HFA.out l hl).2 (g := w.heap.size) (fun e => ?_))⟩, below_sets (Nat.le_refl _) cs 0 HBE.out⟩
      have := ((HFA.out l hl).2.lt _ e).1
      omega
end Go.Proofs.YtnnaoneegeenkaaDoor.Kq
