/- The contract of the document's Coded. -/
import Derived.Test.YtaoekpedjgnnjaaDoorRfM
import Derived.Test.YtaoekpedjgnnjaaDoorWdQ
namespace Go.Proofs.YtaoekpedjgnnjaaDoor.Wd
open Go.ChangeShapes Go.WideShapes Go.ChangeAt Go.RowKit Own Bld Go.Lib Nums

theorem conv_cells (w : World) (l : List UInt8) (cs : Array Value) (n : Nat) (hn : n = l.length) (h : cs.toList = Lib.byteCells l) :
    (convert 39 9 (.slice (some ⟨w.heap.size, 0, none⟩) n n)).run Tryd.prog (w.alloc (.cells cs 5)) = .ok (.string (str l)) (w.alloc (.cells cs 5)) := by
  subst hn
  refine run_convert_bytes_back _ 39 9 5 ⟨w.heap.size, 0, none⟩ _ l Tryd.underlying39 Tryd.underlying5 Tryd.underlying9 (fun j hj => ?_)
  rw [add_none', Nat.zero_add, Lib.cell_of_heap (heap_alloc_new w _)]
  have e : cs[j]? = cs.toList[j]? := by simp
  rw [e, h]
  simp [Lib.byteCells, List.getElem?_eq_getElem hj]

theorem cell_nat (x : Nat) (z : Int) (hx : x < 256) (hz : (x : Int) = z) : Value.int .u8 ((UInt8.ofNat x).toNat : Int) = .int .u8 z := by rw [u8_of x hx, hz]
set_option maxRecDepth 100000 in
theorem coded_any (r : Nat) (w : World) (hv : Valid r) :
    Calls Tryd.prog 77 #[.int .i32 (r : Int)] w fun e w' => e = .returned (.string (str (encodeRune (r : Int)))) ∧ Below w.heap.size w w' := by
  obtain ⟨h1, h2⟩ := hv
  by_cases c1 : r < 128
  · have t1 : decide ((r : Int) < 128) = true := decide_eq_true (by omega)
    have hcv := conv_cells w (encodeRune (r : Int)) #[.int .u8 (r : Int)] 1 (by rw [enc_low r c1]; rfl) (by
      rw [enc_low r c1]
      simp only [Lib.byteCells, List.map_cons, List.map_nil]
      rw [cell_nat _ (r : Int) (by omega) rfl])
    generalize str (encodeRune (r : Int)) = S at hcv ⊢
    go_enter Tryd.func77, Tryd.ntmps77
    go_wp2_with fail
    go_ret
    exact ⟨rfl, (Below.refl _ _).alloc (Nat.le_refl _) _⟩
  · by_cases c2 : r ≤ 2047
    · have t1 : decide ((r : Int) < 128) = false := decide_eq_false (by omega)
      have t2 : decide ((r : Int) < 2048) = true := decide_eq_true (by omega)
      have hcv := conv_cells w (encodeRune (r : Int)) #[.int .u8 (192 + (r : Int) / 64), .int .u8 (128 + (r : Int) % 64)] 2 (by rw [enc_two r (by omega) c2]; rfl) (by
        rw [enc_two r (by omega) c2]
        simp only [Lib.byteCells, List.map_cons, List.map_nil]
        rw [cell_nat _ (192 + (r : Int) / 64) (by omega) (by omega), cell_nat _ (128 + (r : Int) % 64) (by omega) (by omega)])
      generalize str (encodeRune (r : Int)) = S at hcv ⊢
      go_enter Tryd.func77, Tryd.ntmps77
      go_wp2_with fail
      go_ret
      exact ⟨rfl, (Below.refl _ _).alloc (Nat.le_refl _) _⟩
    · by_cases c3 : r ≤ 65535
      · have t1 : decide ((r : Int) < 128) = false := decide_eq_false (by omega)
        have t2 : decide ((r : Int) < 2048) = false := decide_eq_false (by omega)
        have t3 : decide ((r : Int) < 65536) = true := decide_eq_true (by omega)
        have hcv := conv_cells w (encodeRune (r : Int)) #[.int .u8 (224 + (r : Int) / 4096), .int .u8 (128 + (r : Int) / 64 % 64), .int .u8 (128 + (r : Int) % 64)] 3 (by rw [enc_three r (by omega)]; rfl) (by
          rw [enc_three r (by omega)]
          simp only [Lib.byteCells, List.map_cons, List.map_nil]
          rw [cell_nat _ (224 + (r : Int) / 4096) (by omega) (by omega), cell_nat _ (128 + (r : Int) / 64 % 64) (by omega) (by omega), cell_nat _ (128 + (r : Int) % 64) (by omega) (by omega)])
        generalize str (encodeRune (r : Int)) = S at hcv ⊢
        go_enter Tryd.func77, Tryd.ntmps77
        go_wp2_with fail
        go_ret
        exact ⟨rfl, (Below.refl _ _).alloc (Nat.le_refl _) _⟩
      · have t1 : decide ((r : Int) < 128) = false := decide_eq_false (by omega)
        have t2 : decide ((r : Int) < 2048) = false := decide_eq_false (by omega)
        have t3 : decide ((r : Int) < 65536) = false := decide_eq_false (by omega)
        have hcv := conv_cells w (encodeRune (r : Int)) #[.int .u8 (240 + (r : Int) / 262144), .int .u8 (128 + (r : Int) / 4096 % 64), .int .u8 (128 + (r : Int) / 64 % 64), .int .u8 (128 + (r : Int) % 64)] 4 (by rw [enc_four r (by omega) h1]; rfl) (by
          rw [enc_four r (by omega) h1]
          simp only [Lib.byteCells, List.map_cons, List.map_nil]
          rw [cell_nat _ (240 + (r : Int) / 262144) (by omega) (by omega), cell_nat _ (128 + (r : Int) / 4096 % 64) (by omega) (by omega), cell_nat _ (128 + (r : Int) / 64 % 64) (by omega) (by omega), cell_nat _ (128 + (r : Int) % 64) (by omega) (by omega)])
        generalize str (encodeRune (r : Int)) = S at hcv ⊢
        go_enter Tryd.func77, Tryd.ntmps77
        go_wp2_with fail
        go_ret
        exact ⟨rfl, (Below.refl _ _).alloc (Nat.le_refl _) _⟩
end Go.Proofs.YtaoekpedjgnnjaaDoor.Wd
