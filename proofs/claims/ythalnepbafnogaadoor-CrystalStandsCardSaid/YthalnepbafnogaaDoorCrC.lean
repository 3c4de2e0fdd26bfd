/- The law CrystalNearest. -/
import Derived.Test.YthalnepbafnogaaDoorCrA
namespace Go.Proofs.YthalnepbafnogaaDoor.Cr
open Go.ChangeShapes Go.WideShapes Go.ChangeAt Go.RowKit Own Ro

theorem tab_new (w : World) (i : Nat) (h : i < 32) : (w.alloc (.cells tabV.toArray 22)).cell? ⟨w.heap.size, i, none⟩ = some (.int .i64 (ent i)) := by
  have := range_new w 22 tabV i _ (tab_at i h)
  rwa [Nat.zero_add] at this
set_option maxRecDepth 100000 in
set_option maxHeartbeats 8000000 in
theorem nearest_neg (x : Int) (w : World) (h : Tb w) (h0 : x < 0) : Calls Tryd.prog 8 #[.int .i64 x] w (fun e w' => e = .returned (.bool true) ∧ Below w.heap.size w w') := by
  have HT := Lib.hid h
  clear h
  go_enter Tryd.func8, Tryd.ntmps8
  go_wp2_with fail
  refine (awake_any w HT.out).mono ?_
  rintro e w1 ⟨rfl, q, rfl⟩
  go_wp2_with fail
  refine (near_bad x (w.drewN q) h0).mono ?_
  rintro e w2 ⟨rfl, hb⟩
  have HB := Lib.hid hb
  clear hb
  go_wp2_with fail
  go_ret
  exact ⟨rfl, bt (below_dr (Below.refl _ _) _) HB.out⟩
set_option maxRecDepth 100000 in
set_option maxHeartbeats 8000000 in
theorem nearest_pos (x : Int) (w : World) (h : Tb w) (h0 : 0 ≤ x) (h1 : x ≤ 9223372036854775807) : Calls Tryd.prog 8 #[.int .i64 x] w (fun e w' => e = .returned (.bool true) ∧ Below w.heap.size w w') := by
  have HT := Lib.hid h
  clear h
  go_enter Tryd.func8, Tryd.ntmps8
  go_wp2_with fail
  refine (awake_any w HT.out).mono ?_
  rintro e w1 ⟨rfl, q, rfl⟩
  go_wp2_with fail
  refine (near_ok x (w.drewN q) HT.out h0 h1).mono ?_
  rintro e w2 ⟨rfl, hb⟩
  have HB := Lib.hid hb
  have HT2 := Lib.hid (Tb.below (w := w.drewN q) HT.out hb)
  clear hb
  have HN := Lib.hid (nr_least x 32)
  have hn : nr x 32 < 32 := nr_lt x 32
  generalize nr x 32 = n at HN hn
  go_wp2_with fail
  refine (table_any w2 HT2.out).mono ?_
  rintro e w3 ⟨rfl, hb3⟩
  have HB3 := Lib.hid (bt (bt (below_dr (Below.refl _ w) q) HB.out) hb3)
  clear hb3
  go_wp2_with (first | refine wpList_store_new rfl _ _ _ rfl _ tabV.toArray rfl rfl (by kernel_rfl) (by kernel_rfl) (by kernel_rfl) ?_)
  have HC := Lib.hid (tab_new w3)
  have HB4 := Lib.hid (bt HB3.out (grows' w3 (.cells tabV.toArray 22)))
  generalize w3.alloc (.cells tabV.toArray 22) = W at HC HB4 ⊢
  generalize w3.heap.size = g at HC ⊢
  have cn := HC.out n hn
  have en := ent_bd (n : Int) (by omega) (by omega)
  have HM := Lib.hid fun i (hi : i < 32) => HN.out i hi
  have n0 : (0 : Int) ≤ (n : Int) := by omega
  have n1 : (n : Int) < 32 := by omega
  have n2 : (n : Int) ≤ 31 := by omega
  have HD := Lib.hid (show dst x n = max (ent n - x) (x - ent n) from rfl)
  go_region
  all_goals go_wp2_with fail
  all_goals
    have HB5 : Hid (Below w.heap.size w W.drew) := Lib.hid (below_dr HB4.out 1)
    replace HC : Hid (∀ i, i < 32 → W.drew.cell? ⟨g, i, none⟩ = some (.int .i64 (ent i))) := HC
    generalize W.drew = W5 at HB5 HC ⊢
    clear cn
    go_loopw [7] (fun v7 wr => ∃ (k : Nat), k ≤ 32 ∧ v7 = .int .i64 (k : Int) ∧ ∃ q, wr = W5.drewN q) (fun v7 _ => 32 - (RowKit.intOf v7).toNat)
    case atStart => exact ⟨0, by omega, rfl, 0, rfl⟩
    case round =>
      obtain ⟨k, hk, rfl, q, rfl⟩ := hrel
      by_cases hlt : k < 32
      · have l1 : (0 : Int) ≤ (k : Int) := by omega
        have l2 : (k : Int) < 32 := by omega
        have ck : W5.cell? ⟨g, k, none⟩ = some (.int .i64 (ent k)) := HC.out k hlt
        have ek := ent_bd (k : Int) l1 l2
        have hm := HM.out k hlt
        have HDk := show dst x k = max (ent k - x) (x - ent k) from rfl
        rw [HD.out, HDk] at hm
        clear HDk
        generalize ent (k : Int) = a at ck ek hm
        go_wp2_with fail
        go_region
        all_goals go_wp2_with fail
        all_goals first
          | (exfalso; omega)
          | (go_roundw
             case rel => exact ⟨k + 1, by omega, by go_num, _, rfl⟩
             case measure => simp [RowKit.intOf]; omega)
      · obtain rfl : k = 32 := by omega
        go_wp2_with fail
        go_ret
        exact ⟨rfl, below_dr HB5.out _⟩
end Go.Proofs.YthalnepbafnogaaDoor.Cr
