/- The program's Check of a list of cards. -/
import Derived.Test.YtnnaoneegeenkaaKcO
import Derived.StringKeys
import Derived.Maps.Keyed
import Derived.Maps.OwnSet
import Derived.Maps.Views
namespace Go.Proofs.Ytnnaoneegeenkaa.Kc
open Go.ChangeShapes Go.WideShapes Go.ChangeAt Go.RowKit Own Ro wordsNames Go.Maps

theorem zero_unit (w : World) : (zeroValue 56).run Try.prog w = .ok (.agg #[]) w := by kernel_rfl
theorem nameLaw : Keyed Try.prog 9 := string_keyed Try.underlying9
theorem map_below {w w' : World} {k : TypeId} {b n : Nat} {D : DataW Unit} {Rr : Value → Option (DataW Unit × List MemPlace)} (h : w.ownsMap Try.prog k Rr b n D) (hb : Below w.heap.size w w') : w'.ownsMap Try.prog k Rr b n D := by
  have hlt := h.lt
  obtain ⟨es, clock, h1, h2⟩ := h
  exact ⟨es, clock, (hb.block b hlt).trans h1, h2⟩
theorem keyC (nm : List UInt8) : WideAt.IsKeyLit (Lit.string nm) := trivial
/-- The names of the first i cards. -/
def SeenC (D : DataW Unit) (L : List Cd) (i : Nat) : Prop := IsMap D ∧ ∀ nm : List UInt8, Maps.has D (.string nm) = true ↔ ∃ k, k < i ∧ (L.getD k cd0).name = nm
theorem SeenC.none (L : List Cd) : SeenC (.map []) L 0 := ⟨⟨[], rfl⟩, fun nm => ⟨fun h => (by cases h), fun ⟨k, h, _⟩ => by omega⟩⟩
theorem SeenC.put {D : DataW Unit} {L : List Cd} {i : Nat} (h : SeenC D L i) (d : DataW Unit) : SeenC (D.put (.string (L.getD i cd0).name) d) L (i + 1) := by
  refine ⟨IsMap.put h.1 _ _, fun nm => ?_⟩
  by_cases he : nm = (L.getD i cd0).name
  · subst he
    exact ⟨fun _ => ⟨i, by omega, rfl⟩, fun _ => has_put_same h.1 (keyC _) d⟩
  · have hne : (Lit.string nm) ≠ Lit.string (L.getD i cd0).name := fun e => he (by injection e)
    rw [has_put_other hne, h.2 nm]
    constructor
    · rintro ⟨k, h1, h2⟩
      exact ⟨k, by omega, h2⟩
    · rintro ⟨k, h1, h2⟩
      refine ⟨k, ?_, h2⟩
      by_cases hk : k = i
      · subst hk
        exact absurd h2.symm he
      · omega
set_option maxRecDepth 100000 in
set_option maxHeartbeats 8000000 in
theorem check_any (A : Option Addr) (c n : Nat) (L : List Cd) (R : List Sl) (at0 : Nat) (er : Int) (w : World) (hC : ChkC L at0 er) (hm : MildL 1099511627776 L) (hcap : ∀ k, (R.getD k sl0).2.1 ≤ (R.getD k sl0).2.2) (hs : Ro.RowsIn KC w A n L R) :
    Calls Try.prog 14 #[.slice A n c] w (fun e w' => e = .returned (.tuple #[.int .i64 at0, .int .i64 er]) ∧ Below w.heap.size w w') := by
  have HN := Lib.hid hs.1
  have hnb : n ≤ 1099511627776 := by have := hm.1; rw [hs.1]; exact this
  have GA := Lib.hid hs
  have HC := Lib.hid hC
  have HM := Lib.hid hm
  have HCAP := Lib.hid hcap
  have hmm := @run_makeMap Try.prog
  clear hC hm hcap hs
  go_enter Try.func14, Try.ntmps14
  go_wp2_with fail
  clear hmm
  go_loopw [12] (fun v12 wr => ∃ (k : Nat) (D : DataW Unit), k ≤ n ∧ v12 = .int .i64 k ∧ wr.ownsMap Try.prog 9 unitElem w.heap.size k D ∧ SeenC D L k ∧ Below w.heap.size w wr ∧ w.heap.size + 1 ≤ wr.heap.size ∧ Hid (∀ i, i < k → CardAt L i)) (fun v12 _ => n - (RowKit.intOf v12).toNat)
  case atStart =>
    exact ⟨0, .map [], by omega, rfl, World.ownsMap_made _ _ _ _, SeenC.none L, (Below.refl _ _).alloc (Nat.le_refl _) _, by simp, Lib.hid fun i hi => by omega⟩
  case round =>
    obtain ⟨k, D, hk, rfl, hmap, hseen, hbw, hsz, HK⟩ := hrel
    have HMAP := Lib.hid hmap
    have HSEEN := Lib.hid hseen
    have HB := Lib.hid hbw
    clear hmap hseen hbw
    by_cases hlt : k < n
    · obtain ⟨b0, o0, rfl, hbs, hc, hlen, hin⟩ := (GA.out.below HB.out).at hlt
      have e0 := hc 0 _ rfl
      have e1 := hc 1 _ rfl
      have e2 := hc 2 _ rfl
      have e3 := hc 3 _ rfl
      have e4 := hc 4 _ rfl
      have e5 := hc 5 _ rfl
      have e6 := hc 6 _ rfl
      replace e0 : wr.cell? ⟨b0, o0 + k * 7, none⟩ = some (.string (str (L.getD k cd0).name)) := e0
      replace e1 : wr.cell? ⟨b0, o0 + k * 7 + 1, none⟩ = some (.string (str (L.getD k cd0).fam)) := e1
      replace e2 : wr.cell? ⟨b0, o0 + k * 7 + 2, none⟩ = some (.int .u8 (L.getD k cd0).level) := e2
      replace e3 : wr.cell? ⟨b0, o0 + k * 7 + 3, none⟩ = some (slV (R.getD k sl0)) := e3
      replace e4 : wr.cell? ⟨b0, o0 + k * 7 + 4, none⟩ = some (.int .i8 (L.getD k cd0).score) := e4
      replace e5 : wr.cell? ⟨b0, o0 + k * 7 + 5, none⟩ = some (.string (str (L.getD k cd0).quirk)) := e5
      replace e6 : wr.cell? ⟨b0, o0 + k * 7 + 6, none⟩ = some (.int .i16 (L.getD k cd0).entry) := e6
      have hlC : k < L.length := by rw [← HN.out]; exact hlt
      have HNO : Hid (¬ CardAt L k → k = at0 ∧ (70 : Int) = er) := Lib.hid fun h => chkC_one (.inl ⟨hlC, h, HK.out, rfl⟩) HC.out
      have k1 : (0 : Int) ≤ (k : Int) := by omega
      have k2 : (k : Int) < (n : Int) := by omega
      by_cases h64 : k = 64
      · have t64 : ((k : Int) == 64) = true := by simp [h64]
        obtain ⟨rfl, rfl⟩ := HNO.out (fun h => by have := h.1; omega)
        clear hc hlen hin
        generalize L.getD k cd0 = d at e0 e1 e2 e3 e4 e5 e6
        generalize R.getD k sl0 = r at e3
        obtain ⟨nm, fm, lv, cp, sc, qk, en⟩ := d
        obtain ⟨ra, rn, rc⟩ := r
        simp only [slV] at e0 e1 e2 e3 e4 e5 e6
        clear h64
        go_wp2_with fail
        go_ret2
        exact ⟨rfl, HB.out.alloc HB.out.size _⟩
      have t64 : ((k : Int) == 64) = false := by simp; omega
      obtain ⟨g, hg⟩ := bool_ex (CardOk (L.getD k cd0))
      have HMB := Lib.hid fun W hW => mayBe_any (L.getD k cd0) (R.getD k sl0) g W hg (HM.out.2 k) hlen (HCAP.out k) (hin.below (w' := W) hW)
      have HG := Lib.hid hg
      have HSN : Hid (∀ W : World, True → (g = true → (∀ j, j < k → (L.getD j cd0).name ≠ (L.getD k cd0).name) → CardAt L k)) := Lib.hid fun _ _ h1 h2 => ⟨by have := HK.out; by_cases h0 : k = 0; omega; have := (HK.out (k - 1) (by omega)).1; omega, hg.1 h1, h2⟩
      have HGF : Hid (g = false → ¬ CardAt L k) := Lib.hid fun h1 h2 => by rw [hg.2 h2.2.1] at h1; cases h1
      have HHV := Lib.hid (HSEEN.out.2 (L.getD k cd0).name)
      have HDUP : Hid ((∃ j, j < k ∧ (L.getD j cd0).name = (L.getD k cd0).name) → ¬ CardAt L k) := Lib.hid fun ⟨j, hj, he⟩ h2 => h2.2.2 j hj he
      have HPUT := Lib.hid (HSEEN.out.put (.agg []))
      have hnl := (HM.out.2 k).1
      have HKEY : Hid (keyOf Try.prog 9 (.string (str (L.getD k cd0).name)) = some (.string (L.getD k cd0).name)) := Lib.hid (Go.WideMaps.keyOf_string_mk Try.underlying9 (by unfold maxLen; rw [str_size]; omega))
      clear hc hlen hin hg HG hnl
      generalize L.getD k cd0 = d at e0 e1 e2 e3 e4 e5 e6 HMB HSN HHV HDUP HPUT HKEY
      generalize R.getD k sl0 = r at e3 HMB
      obtain ⟨nm, fm, lv, cp, sc, qk, en⟩ := d
      obtain ⟨ra, rn, rc⟩ := r
      simp only [slV, cardV, cells7] at e0 e1 e2 e3 e4 e5 e6 HMB HSN HHV HDUP HPUT HKEY
      generalize str nm = S1 at e0 HMB HKEY
      generalize str fm = S2 at e1 HMB
      generalize str qk = S3 at e5 HMB
      have G1 := Lib.hid (grows' wr (.cells #[.string S1, .string S2, .int .u8 lv, .slice ra rn rc, .int .i8 sc, .string S3, .int .i16 en] 37))
      have c0 : (wr.alloc (.cells #[.string S1, .string S2, .int .u8 lv, .slice ra rn rc, .int .i8 sc, .string S3, .int .i16 en] 37)).cell? ⟨wr.heap.size, 0, none⟩ = some (.string S1) := by rw [Lib.cell_of_heap (heap_alloc_new wr _)]; rfl
      go_wp2_with fail
      refine (HMB.out _ G1.out).mono ?_
      rintro e w5 ⟨rfl, b5⟩
      have B5 := Lib.hid (bt HB.out (bt G1.out b5))
      have M5 := Lib.hid (map_below HMAP.out (bt G1.out b5))
      have d0 : w5.cell? ⟨wr.heap.size, 0, none⟩ = some (.string S1) := (b5.cell (p := ⟨wr.heap.size, 0, none⟩) (by simp)).trans c0
      have d1 : (w5.alloc (.cells #[] 56)).cell? ⟨wr.heap.size, 0, none⟩ = some (.string S1) := ((grows' w5 _).cell (p := ⟨wr.heap.size, 0, none⟩) (cell_lt d0)).trans d0
      have hz5 : w.heap.size + 1 ≤ w5.heap.size := by have := b5.size; simp at this; omega
      clear c0 b5 HMB G1
      cases g with
      | false =>
        obtain ⟨rfl, rfl⟩ := HNO.out (HGF.out rfl)
        go_wp2_with fail
        go_ret2
        exact ⟨rfl, B5.out⟩
      | true =>
        generalize hgh : Maps.has D (.string nm) = gh at HHV
        have HGH := Lib.hid hgh
        clear hgh
        cases gh with
        | true =>
          obtain ⟨rfl, rfl⟩ := HNO.out (HDUP.out (HHV.out.1 rfl))
          go_wp2_with (at_lookup; refine wpList_lookup_own_unit _ rfl _ _ 54 rfl 9 56 nameLaw Try.underlying54 (zero_unit _) w.heap.size k D rfl M5.out _ _ rfl HKEY.out ?_; rw [HGH.out])
          go_ret2
          exact ⟨rfl, B5.out.alloc (by omega) _⟩
        | false =>
          go_wp2_with (first
            | (at_lookup; refine wpList_lookup_own_unit _ rfl _ _ 54 rfl 9 56 nameLaw Try.underlying54 (zero_unit _) w.heap.size k D rfl M5.out _ _ rfl HKEY.out ?_; rw [HGH.out])
            | (at_mapUpdate; go_must (refine wpList_mapUpdate_own _ rfl _ _ _ 54 rfl 9 56 nameLaw Try.underlying54 (unitElem (H := Unit)) w.heap.size k D rfl (M5.out.alloc _) (by unfold maxLen; omega) _ _ _ rfl rfl HKEY.out _ [] unitElem_mk ?_); intro w10 hown10 hgrow10))
          have hs10 := hgrow10.size
          simp at hs10
          go_roundw
          case rel => exact ⟨k + 1, _, by omega, by go_num, hown10, HPUT.out, (B5.out.alloc (by omega) _).grown hgrow10 (by simp; omega) (fun j hj => by cases hj; exact Nat.le_refl _), by omega, Lib.hid fun i hi => by
            by_cases hik : i = k
            · rw [hik]; exact HSN.out wr trivial (by simp) fun j hj he => by cases HHV.out.2 ⟨j, hj, he⟩
            · exact HK.out i (by omega)⟩
          case measure => simp [RowKit.intOf]; omega
    · obtain rfl : n = k := by omega
      obtain ⟨rfl, rfl⟩ := chkC_one (.inr ⟨fun i hi => HK.out i (by rw [HN.out]; exact hi), rfl, rfl⟩) HC.out
      go_wp2_with fail
      go_ret2
      exact ⟨rfl, HB.out⟩
end Go.Proofs.Ytnnaoneegeenkaa.Kc
