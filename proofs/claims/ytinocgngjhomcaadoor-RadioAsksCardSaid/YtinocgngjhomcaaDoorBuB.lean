/- The document's array of the third family. -/
import Derived.Test.YtinocgngjhomcaaDoorBuA
namespace Go.Proofs.YtinocgngjhomcaaDoor.Bu
open Go.ChangeShapes Go.WideShapes Go.ChangeAt Go.RowKit Own Ro

def mk (i : Int) : Int := 268435456 + 65536 * i + e08 i + 4 * Su.ent i
theorem e08_bd (i : Int) (h0 : 0 ≤ i) (h1 : i < 20) : 0 ≤ e08 i ∧ e08 i ≤ 20000000 := by unfold e08; split <;> (try split) <;> omega
theorem src_new1d (w : World) (x : Value) (t : TypeId) : SrcK 1 (w.alloc (.cells #[x] t)).drew (some ⟨w.heap.size, 0, none⟩) 1 1 [x] := by
  exact .inr ⟨_, rfl, rfl, fun j u hu => by
    rw [Ro.add_plain]
    show (w.alloc (.cells #[x] t)).cell? _ = _
    rw [Lib.cell_of_heap (heap_alloc_new w _), Nat.zero_add]
    match j, hu with
    | 0, hu => exact hu⟩
theorem undrew {w w' : World} {r : Option Nat} (h : w.drew.grownBy w' r) : w.grownBy w' r := ⟨h.os, h.tape, h.output, h.size, h.block⟩
set_option maxRecDepth 100000 in
set_option maxHeartbeats 8000000 in
theorem made_any (w : World) : Calls Tryd.prog 58 #[] w (fun e w' => ∃ A c, e = .returned (.slice A 20 c) ∧ w'.ownsRow w.heap.size 2 1 (.slice A 20 c) 20 (firsts mk 20) ∧ Below w.heap.size w w') := by
  have HN9 := Lib.hid (nums09_any w)
  go_enter Tryd.func58, Tryd.ntmps58
  go_wp2_with fail
  refine HN9.out.mono ?_
  rintro e w2 ⟨A9, c9, rfl, h1, h2⟩
  obtain ⟨g9, rfl, hg1, hg2⟩ := own_shapeK h1 (by omega)
  have O9 := Lib.hid h1
  have B9 := Lib.hid h2
  clear h1 h2 HN9
  go_wp2_with fail
  go_loopw [1, 3] (fun v1 v2 wr => ∃ (k : Nat), k ≤ 20 ∧ v2 = .int .i64 (k : Int) ∧ Below w2.heap.size w2 wr ∧ ∃ A c, v1 = .slice A k c ∧ wr.ownsRow w2.heap.size 2 1 (.slice A k c) k (firsts mk k)) (fun _ v2 _ => 20 - (RowKit.intOf v2).toNat)
  case atStart => exact ⟨0, by omega, rfl, Below.refl _ _, none, 0, rfl, own_nil _ _ _⟩
  case round =>
    obtain ⟨k, hk, rfl, hb, A, c, rfl, ho⟩ := hrel
    have HB := Lib.hid hb
    have HO := Lib.hid ho
    have hsz : w2.heap.size ≤ wr.heap.size := hb.size
    clear hb ho
    by_cases hlt : k < 20
    · have l1 : (0 : Int) ≤ (k : Int) := by omega
      have l2 : (k : Int) < 24 := by omega
      have HE := Lib.hid (fun V => entry08_any (k : Int) V l1 (by omega))
      have HSN := Lib.hid (show firsts mk k ++ [.int .i64 (268435456 + 65536 * (k : Int) + e08 k + 4 * Su.ent k)] = firsts mk (k + 1) from firsts_snoc mk k)
      have b1 := e08_bd k l1 (by omega)
      have b2 := Su.ent_bd k l1 l2
      have e0 : w2.cell? ⟨g9, k, none⟩ = some (.int .i64 (Su.ent k)) := by
        rw [O9.out.cellAt k (by omega)]
        unfold firsts
        rw [List.getElem?_map, List.getElem?_range (by omega)]
        rfl
      generalize e08 (k : Nat) = a at HE HSN b1
      generalize Su.ent (k : Nat) = en at HSN b2 e0
      have HKP := Lib.hid (fun V (hV : Below w2.heap.size w2 V) => show V.cell? ⟨g9, k, none⟩ = some (.int .i64 en) ∧ Below w2.heap.size w2 V from ⟨by rw [hV.cell (cell_lt e0)]; exact e0, hV⟩)
      obtain ⟨f0, _⟩ := HKP.out _ HB.out
      have s0 : Int.tmod (k : Int) 24 = (k : Int) := by rw [Int.tmod_eq_emod_of_nonneg l1]; omega
      have s1 : IntKind.i64.wrap (65536 * (k : Int)) = 65536 * (k : Int) := IntWalk.i64_in _ (by omega)
      have s2 : IntKind.i64.wrap (268435456 + 65536 * (k : Int)) = 268435456 + 65536 * (k : Int) := IntWalk.i64_in _ (by omega)
      have s3 : IntKind.i64.wrap (268435456 + 65536 * (k : Int) + a) = 268435456 + 65536 * (k : Int) + a := IntWalk.i64_in _ (by omega)
      have s4 : IntKind.i64.wrap (4 * en) = 4 * en := IntWalk.i64_in _ (by omega)
      have s5 : IntKind.i64.wrap (268435456 + 65536 * (k : Int) + a + 4 * en) = 268435456 + 65536 * (k : Int) + a + 4 * en := IntWalk.i64_in _ (by omega)
      clear e0 b1 b2
      go_wp2_with fail
      go_region_held3 (fun w' => w'.cell? ⟨g9, k, none⟩ = some (.int .i64 en) ∧ Below w2.heap.size w2 w')
        (first | exact HKP.out _ (by assumption) | exact HKP.out _ HB.out | exact HKP.out _ (below_dr HB.out 1) | exact HKP.out _ (below_dr (bal HB.out rfl _) 1) | exact HKP.out _ (bal HB.out rfl _))
        (first
          | (go_at_call 53; refine (HE.out _).mono ?_; rintro e w9 ⟨rfl, rfl⟩)
          | (refine step_appK (o := ⟨some 26, _, _, _, _, _⟩) (by first | rfl | simp [Region.wanted, yielded]) (.tmp 9) (.tmp 25) 67 (by rfl) w2.heap.size 2 (.int .i64 0) 1 8 (by omega) Tryd.underlying67 info_i64 rfl _ k (firsts mk k) (by rfl) (own_belowK HO.out (below_dr (grows' wr _) 1)) _ 1 1 [.int .i64 (268435456 + 65536 * (k : Int) + a + 4 * en)] (by rfl) (src_new1d wr _ _) (by intro u hu; simp at hu; subst hu; rfl) (by omega) (by omega) (Nat.le_trans hsz (below_dr (grows' wr _) 1).size) ?_; intro v3 w3 ho3 hg3; rw [HSN.out] at ho3; have hb3 := below_grown' HB.out hsz HO.out (Nat.le_refl _) (undrew hg3); obtain ⟨A', c', rfl, _⟩ := own_src ho3; have HO3 := Lib.hid ho3; have HB3 := Lib.hid hb3; clear ho3 hg3))
      clear s0 s1 s2 s3 s4 s5
      go_wp2_with fail
      go_roundw
      case rel => exact ⟨k + 1, by omega, by go_num, HB3.out, A', c', rfl, HO3.out⟩
      case measure => simp [RowKit.intOf]; omega
    · obtain rfl : k = 20 := by omega
      go_wp2_with fail
      go_ret
      exact ⟨A, c, rfl, own_monoK HO.out B9.out.size, bt B9.out HB.out⟩
end Go.Proofs.YtinocgngjhomcaaDoor.Bu
