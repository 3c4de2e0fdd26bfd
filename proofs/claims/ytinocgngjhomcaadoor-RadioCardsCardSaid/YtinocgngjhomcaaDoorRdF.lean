/- The family's cards as they are made: the program's and the document's (P12.1). -/
import Derived.Test.YtinocgngjhomcaaDoorChC
namespace Go.Proofs.YtinocgngjhomcaaDoor.Kc
open Go.ChangeShapes Go.WideShapes Go.ChangeAt Go.RowKit Own Ro

/-- The worlds behind the lists of a family's cards, made one behind another; where they lie. -/
def mk : World → List Cd → World
  | w, [] => w
  | w, a :: L => mk (w.alloc (.cells (strs a.compat).toArray 9)) L
def pl : Nat → List Cd → List Sl
  | _, [] => []
  | b, a :: L => (some ⟨b, 0, none⟩, a.compat.length, a.compat.length) :: pl (b + 1) L
def top : Nat → List Cd → Nat
  | b, [] => b
  | b, _ :: L => top (b + 1) L
theorem top_eq (L : List Cd) : ∀ b, top b L = b + L.length := by
  induction L with
  | nil => intro b; rfl
  | cons a L ih => intro b; show top (b + 1) L = _; rw [ih]; simp; omega
theorem pl_len (L : List Cd) : ∀ b, (pl b L).length = L.length := by
  induction L with
  | nil => intro b; rfl
  | cons a L ih => intro b; show (pl (b + 1) L).length + 1 = _; rw [ih]; rfl
theorem pl_at (L : List Cd) : ∀ b i, i < L.length → (pl b L).getD i sl0 = (some ⟨b + i, 0, none⟩, (L.getD i cd0).compat.length, (L.getD i cd0).compat.length) := by
  induction L with
  | nil => intro b i h; simp at h
  | cons a L ih =>
    intro b i h
    cases i with
    | zero => rfl
    | succ i =>
      show (pl (b + 1) L).getD i sl0 = _
      rw [ih _ i (by simpa using h), show b + 1 + i = b + (i + 1) by omega]
      rfl
theorem mk_size (L : List Cd) : ∀ w : World, (mk w L).heap.size = w.heap.size + L.length := by
  induction L with
  | nil => intro w; rfl
  | cons a L ih => intro w; show (mk (w.alloc _) L).heap.size = _; rw [ih]; simp; omega
theorem mk_below (L : List Cd) : ∀ w : World, Below w.heap.size w (mk w L) := by
  induction L with
  | nil => intro w; exact Below.refl _ _
  | cons a L ih => intro w; exact bt (grows' w _) (ih _)
theorem mk_own (L : List Cd) : ∀ (w : World) (b : Nat), b ≤ w.heap.size → (∀ i, i < L.length → (L.getD i cd0).compat.length ≤ 1000000) →
    ∀ i, i < L.length → (mk w L).ownsRow b 9 1 (rowV (pl w.heap.size L) i) (L.getD i cd0).compat.length (strs (L.getD i cd0).compat) := by
  induction L with
  | nil => intro w b _ _ i hi; simp at hi
  | cons a L ih =>
    intro w b hb hm i hi
    have e : (w.alloc (.cells (strs a.compat).toArray 9)).heap.size = w.heap.size + 1 := by simp
    cases i with
    | zero =>
      have h := World.ownsRow_lit (base := b) (e := 9) (size := 1) w (strs a.compat).toArray a.compat.length hb (by have := hm 0 (by simp); unfold maxLen; simp at this; omega) (by simp [strs_len])
      exact own_belowK h (mk_below L _)
    | succ i =>
      have := ih (w.alloc (.cells (strs a.compat).toArray 9)) b (by omega) (fun i hi => hm (i + 1) (by simpa using hi)) i (by simpa using hi)
      rw [e] at this
      exact this
/-- A family's list as it stands behind its literal. -/
theorem fam_made (w : World) (L : List Cd) (hm : ∀ i, i < L.length → (L.getD i cd0).compat.length ≤ 1000000) (hl : L.length ≤ 1000000) :
    RowsOwn KC ((mk w L).alloc (.cells (KC.rows L (pl w.heap.size L)).toArray 47)) w.heap.size (some ⟨top w.heap.size L, 0, none⟩) L.length L.length L (pl w.heap.size L) := by
  refine ⟨rfl, ?_, pl_len _ _, fun i hi => ?_, fun i j hi hj hne => ?_⟩
  · have h := World.ownsRow_lit (base := w.heap.size) (e := 47) (size := 7) (mk w L) (KC.rows L (pl w.heap.size L)).toArray L.length (by rw [mk_size]; omega) (by unfold maxLen; omega) (by
      rw [List.size_toArray, rows_len KC _ _ (pl_len _ _).symm]
      rfl)
    rw [mk_size] at h
    rw [top_eq]
    exact h
  · rw [pl_len] at hi
    rw [pl_at L _ i hi]
    exact ⟨rfl, own_belowK (mk_own L w _ (Nat.le_refl _) hm i hi) (grows' _ _)⟩
  · rw [pl_len] at hi hj
    refine .inr ?_
    unfold rowV
    rw [pl_at L _ i hi, pl_at L _ j hj]
    show some (w.heap.size + i) ≠ some (w.heap.size + j)
    intro e
    injection e with e
    omega
theorem fam_below (w : World) (L : List Cd) (o : Obj) : Below w.heap.size w ((mk w L).alloc o) := bt (mk_below L w) (grows' _ _)
def FL : List Cd := [
  ⟨[108, 111, 114, 97], [114, 97, 100, 105, 111], 3, [[97, 99, 109, 101, 44, 108, 111, 114, 97, 45, 98], [97, 99, 109, 101, 44, 108, 111, 114, 97]], 5, [], 0⟩,
  ⟨[97, 110, 116, 101, 110, 110, 97], [114, 97, 100, 105, 111], 2, [[97, 99, 109, 101, 44, 97, 110, 116, 101, 110, 110, 97]], 0, [], -1⟩,
  ⟨[104, 117, 98], [114, 97, 100, 105, 111], 3, [[97, 99, 109, 101, 44, 104, 117, 98]], 100, [], -1⟩,
  ⟨[119, 105, 102, 105], [114, 97, 100, 105, 111], 3, [[97, 99, 109, 101, 44, 119, 105, 102, 105]], 0, [115, 108, 111, 119], 12⟩,
  ⟨[109, 111, 100, 101, 109], [114, 97, 100, 105, 111], 4, [[97, 99, 109, 101, 44, 109, 111, 100, 101, 109], [97, 99, 109, 101, 44, 108, 111, 114, 97]], 20, [100, 111, 117, 98, 108, 101], 19⟩,
  ⟨[119, 105, 102, 105], [114, 97, 100, 105, 111], 1, [[97, 99, 109, 101, 44, 119, 105, 102, 105]], 70, [], 13⟩]
def made (w : World) : World := (mk w FL).alloc (.cells (KC.rows FL (pl w.heap.size FL)).toArray 47)
theorem made_rows (w : World) : RowsOwn KC (made w) w.heap.size (some ⟨top w.heap.size FL, 0, none⟩) 6 6 FL (pl w.heap.size FL) := fam_made w FL (by decide) (by decide)
theorem made_below (w : World) : Below w.heap.size w (made w) := fam_below w FL _
theorem mildFL : MildL 1099511627776 FL := by
  refine ⟨by decide, fun k => ?_⟩
  have h : ∀ k < 6, MildC 1099511627776 (FL.getD k cd0) := by
    have hq : ∀ k < 6, (FL.getD k cd0).name.length ≤ 1000 ∧ (FL.getD k cd0).fam.length ≤ 1000 ∧ (FL.getD k cd0).quirk.length ≤ 1000 ∧ (FL.getD k cd0).compat.length ≤ 1000 ∧ ∀ j < 3, ((FL.getD k cd0).compat.getD j []).length ≤ 1000 := by decide
    have hq2 : ∀ k < 6, (FL.getD k cd0).compat.length ≤ 3 := by decide
    intro k hk
    obtain ⟨h1, h2, h3, h4, h5⟩ := hq k hk
    refine ⟨by omega, by omega, by omega, by omega, fun j => ?_⟩
    by_cases hj : j < 3
    · have := h5 j hj
      omega
    · rw [List.getD_eq_getElem?_getD, List.getElem?_eq_none (by have := hq2 k hk; omega)]
      exact Nat.zero_le _
  by_cases hk : k < 6
  · exact h k hk
  · rw [List.getD_eq_getElem?_getD, List.getElem?_eq_none (by show 6 ≤ k; omega)]
    exact ⟨Nat.zero_le _, Nat.zero_le _, Nat.zero_le _, Nat.zero_le _, fun j => by simp [cd0]⟩
set_option maxRecDepth 100000 in
set_option maxHeartbeats 8000000 in
theorem fam_any (w : World) : Calls Tryd.prog 21 #[] w (fun e w' => e = .returned (.slice (some ⟨top w.heap.size FL, 0, none⟩) 6 6) ∧ w' = made w) := by
  go_enter Tryd.func21, Tryd.ntmps21
  go_wp2_with fail
  go_ret
  exact ⟨rfl, rfl⟩
set_option maxRecDepth 100000 in
set_option maxHeartbeats 8000000 in
theorem refFam_any (w : World) : Calls Tryd.prog 20 #[] w (fun e w' => e = .returned (.slice (some ⟨top w.heap.size FL, 0, none⟩) 6 6) ∧ w' = made w) := by
  go_enter Tryd.func20, Tryd.ntmps20
  go_wp2_with fail
  go_ret
  exact ⟨rfl, rfl⟩
end Go.Proofs.YtinocgngjhomcaaDoor.Kc
