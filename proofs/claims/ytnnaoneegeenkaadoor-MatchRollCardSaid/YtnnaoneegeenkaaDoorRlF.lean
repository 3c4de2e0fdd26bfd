/- The five families' cards as they are made: the program's and the document's; which stand, which are refused (P13.1). -/
import Derived.Test.YtnnaoneegeenkaaDoorChC
namespace Go.Proofs.YtnnaoneegeenkaaDoor.Kc
open Go.ChangeShapes Go.WideShapes Go.ChangeAt Go.RowKit Own Ro

/-- The worlds behind the lists of a family's cards, made one behind another; where they lie. -/
def mk : World → List Cd → World
  | w, [] => w
  | w, a :: L => mk (w.alloc (.cells (strs a.compat).toArray 9)) L
def pl : Nat → List Cd → List Sl
  | _, [] => []
  | b, a :: L => (some ⟨b, 0, none⟩, a.compat.length, a.compat.length) :: pl (b + 1) L
def top : Nat → List Cd → Nat
  | b, [] => b
  | b, _ :: L => top (b + 1) L
theorem top_eq (L : List Cd) : ∀ b, top b L = b + L.length := by
  induction L with
  | nil => intro b; rfl
  | cons a L ih => intro b; show top (b + 1) L = _; rw [ih]; simp; omega
theorem pl_len (L : List Cd) : ∀ b, (pl b L).length = L.length := by
  induction L with
  | nil => intro b; rfl
  | cons a L ih => intro b; show (pl (b + 1) L).length + 1 = _; rw [ih]; rfl
theorem pl_at (L : List Cd) : ∀ b i, i < L.length → (pl b L).getD i sl0 = (some ⟨b + i, 0, none⟩, (L.getD i cd0).compat.length, (L.getD i cd0).compat.length) := by
  induction L with
  | nil => intro b i h; simp at h
  | cons a L ih =>
    intro b i h
    cases i with
    | zero => rfl
    | succ i =>
      show (pl (b + 1) L).getD i sl0 = _
      rw [ih _ i (by simpa using h), show b + 1 + i = b + (i + 1) by omega]
      rfl
theorem mk_size (L : List Cd) : ∀ w : World, (mk w L).heap.size = w.heap.size + L.length := by
  induction L with
  | nil => intro w; rfl
  | cons a L ih => intro w; show (mk (w.alloc _) L).heap.size = _; rw [ih]; simp; omega
theorem mk_below (L : List Cd) : ∀ w : World, Below w.heap.size w (mk w L) := by
  induction L with
  | nil => intro w; exact Below.refl _ _
  | cons a L ih => intro w; exact bt (grows' w _) (ih _)
theorem mk_own (L : List Cd) : ∀ (w : World) (b : Nat), b ≤ w.heap.size → (∀ i, i < L.length → (L.getD i cd0).compat.length ≤ 1000000) →
    ∀ i, i < L.length → (mk w L).ownsRow b 9 1 (rowV (pl w.heap.size L) i) (L.getD i cd0).compat.length (strs (L.getD i cd0).compat) := by
  induction L with
  | nil => intro w b _ _ i hi; simp at hi
  | cons a L ih =>
    intro w b hb hm i hi
    have e : (w.alloc (.cells (strs a.compat).toArray 9)).heap.size = w.heap.size + 1 := by simp
    cases i with
    | zero =>
      have h := World.ownsRow_lit (base := b) (e := 9) (size := 1) w (strs a.compat).toArray a.compat.length hb (by have := hm 0 (by simp); unfold maxLen; simp at this; omega) (by simp [strs_len])
      exact own_belowK h (mk_below L _)
    | succ i =>
      have := ih (w.alloc (.cells (strs a.compat).toArray 9)) b (by omega) (fun i hi => hm (i + 1) (by simpa using hi)) i (by simpa using hi)
      rw [e] at this
      exact this
/-- A family's list as it stands behind its literal. -/
theorem fam_made (w : World) (L : List Cd) (hm : ∀ i, i < L.length → (L.getD i cd0).compat.length ≤ 1000000) (hl : L.length ≤ 1000000) :
    RowsOwn KC ((mk w L).alloc (.cells (KC.rows L (pl w.heap.size L)).toArray 30)) w.heap.size (some ⟨top w.heap.size L, 0, none⟩) L.length L.length L (pl w.heap.size L) := by
  refine ⟨rfl, ?_, pl_len _ _, fun i hi => ?_, fun i j hi hj hne => ?_⟩
  · have h := World.ownsRow_lit (base := w.heap.size) (e := 30) (size := 7) (mk w L) (KC.rows L (pl w.heap.size L)).toArray L.length (by rw [mk_size]; omega) (by unfold maxLen; omega) (by
      rw [List.size_toArray, rows_len KC _ _ (pl_len _ _).symm]
      rfl)
    rw [mk_size] at h
    rw [top_eq]
    exact h
  · rw [pl_len] at hi
    rw [pl_at L _ i hi]
    exact ⟨rfl, own_belowK (mk_own L w _ (Nat.le_refl _) hm i hi) (grows' _ _)⟩
  · rw [pl_len] at hi hj
    refine .inr ?_
    unfold rowV
    rw [pl_at L _ i hi, pl_at L _ j hj]
    show some (w.heap.size + i) ≠ some (w.heap.size + j)
    intro e
    injection e with e
    omega
theorem fam_below (w : World) (L : List Cd) (o : Obj) : Below w.heap.size w ((mk w L).alloc o) := bt (mk_below L w) (grows' _ _)
def FLc : List Cd := [
  ⟨[102, 105, 120, 101, 100, 45, 99, 108, 111, 99, 107], [99, 114, 121, 115, 116, 97, 108], 0, [[102, 105, 120, 101, 100, 45, 99, 108, 111, 99, 107]], 0, [], 24⟩,
  ⟨[119, 97, 116, 99, 104, 45, 99, 108, 111, 99, 107], [99, 114, 121, 115, 116, 97, 108], 0, [[97, 99, 109, 101, 44, 119, 97, 116, 99, 104], [102, 105, 120, 101, 100, 45, 99, 108, 111, 99, 107]], 10, [115, 108, 111, 119], 0⟩,
  ⟨[112, 108, 108], [99, 114, 121, 115, 116, 97, 108], 1, [[97, 99, 109, 101, 44, 112, 108, 108, 45, 98], [97, 99, 109, 101, 44, 112, 108, 108]], 5, [100, 111, 117, 98, 108, 101], 31⟩,
  ⟨[100, 105, 118, 105, 100, 101, 114], [99, 114, 121, 115, 116, 97, 108], 1, [[97, 99, 109, 101, 44, 100, 105, 118, 105, 100, 101, 114]], 0, [104, 97, 108, 102], 8⟩,
  ⟨[112, 108, 108], [99, 114, 121, 115, 116, 97, 108], 4, [[97, 99, 109, 101, 44, 112, 108, 108]], 50, [], 30⟩]
def FLs : List Cd := [
  ⟨[102, 105, 120, 101, 100, 45, 114, 97, 105, 108], [115, 117, 112, 112, 108, 121], 0, [[102, 105, 120, 101, 100, 45, 114, 97, 105, 108]], 0, [], 2⟩,
  ⟨[108, 100, 111], [115, 117, 112, 112, 108, 121], 1, [[97, 99, 109, 101, 44, 108, 100, 111, 45, 50], [97, 99, 109, 101, 44, 108, 100, 111]], 5, [], 0⟩,
  ⟨[98, 117, 99, 107], [115, 117, 112, 112, 108, 121], 1, [[97, 99, 109, 101, 44, 98, 117, 99, 107], [102, 105, 120, 101, 100, 45, 114, 97, 105, 108]], 20, [104, 97, 108, 102], 4⟩,
  ⟨[108, 111, 97, 100, 45, 115, 119, 105, 116, 99, 104], [115, 117, 112, 112, 108, 121], 2, [[97, 99, 109, 101, 44, 108, 111, 97, 100, 45, 115, 119, 105, 116, 99, 104]], 0, [115, 108, 111, 119], -1⟩,
  ⟨[99, 104, 97, 114, 103, 101, 114], [115, 117, 112, 112, 108, 121], 3, [[97, 99, 109, 101, 44, 99, 104, 97, 114, 103, 101, 114]], -5, [], 23⟩,
  ⟨[102, 105, 120, 101, 100, 45, 114, 97, 105, 108], [115, 117, 112, 112, 108, 121], 4, [[102, 105, 120, 101, 100, 45, 114, 97, 105, 108]], 60, [], 3⟩]
def FLb : List Cd := [
  ⟨[115, 105, 109, 112, 108, 101, 45, 98, 117, 115], [98, 117, 115], 1, [[115, 105, 109, 112, 108, 101, 45, 98, 117, 115]], 0, [], 0⟩,
  ⟨[105, 50, 99], [98, 117, 115], 1, [[97, 99, 109, 101, 44, 105, 50, 99, 45, 98], [97, 99, 109, 101, 44, 105, 50, 99]], 10, [115, 108, 111, 119], 1⟩,
  ⟨[115, 112, 105], [98, 117, 115], 1, [[97, 99, 109, 101, 44, 115, 112, 105]], 10, [], 2⟩,
  ⟨[98, 114, 105, 100, 103, 101], [98, 117, 115], 2, [[97, 99, 109, 101, 44, 98, 114, 105, 100, 103, 101], [115, 105, 109, 112, 108, 101, 45, 98, 117, 115]], -5, [], 3⟩,
  ⟨[104, 117, 98], [98, 117, 115], 3, [[97, 99, 109, 101, 44, 104, 117, 98], [97, 99, 109, 101, 44, 98, 114, 105, 100, 103, 101]], 0, [104, 97, 108, 102], 19⟩]
def FLe : List Cd := [
  ⟨[116, 104, 101, 114, 109, 105, 115, 116, 111, 114], [115, 101, 110, 115, 111, 114], 3, [[97, 99, 109, 101, 44, 110, 116, 99]], 0, [], 0⟩,
  ⟨[97, 100, 99], [115, 101, 110, 115, 111, 114], 2, [[97, 99, 109, 101, 44, 97, 100, 99, 45, 49, 54], [97, 99, 109, 101, 44, 97, 100, 99]], 5, [104, 97, 108, 102], 3⟩,
  ⟨[100, 105, 111, 100, 101], [115, 101, 110, 115, 111, 114], 3, [[97, 99, 109, 101, 44, 100, 105, 111, 100, 101], [97, 99, 109, 101, 44, 110, 116, 99]], -10, [115, 108, 111, 119], 15⟩,
  ⟨[102, 117, 101, 108, 45, 103, 97, 117, 103, 101], [115, 101, 110, 115, 111, 114], 4, [[97, 99, 109, 101, 44, 103, 97, 117, 103, 101]], 0, [100, 111, 117, 98, 108, 101], 7⟩,
  ⟨[97, 100, 99], [115, 101, 110, 115, 111, 114], 3, [[97, 99, 109, 101, 44, 97, 100, 99]], 90, [], -1⟩]
def FLr : List Cd := [
  ⟨[108, 111, 114, 97], [114, 97, 100, 105, 111], 3, [[97, 99, 109, 101, 44, 108, 111, 114, 97, 45, 98], [97, 99, 109, 101, 44, 108, 111, 114, 97]], 5, [], 0⟩,
  ⟨[97, 110, 116, 101, 110, 110, 97], [114, 97, 100, 105, 111], 2, [[97, 99, 109, 101, 44, 97, 110, 116, 101, 110, 110, 97]], 0, [], -1⟩,
  ⟨[104, 117, 98], [114, 97, 100, 105, 111], 3, [[97, 99, 109, 101, 44, 104, 117, 98]], 100, [], -1⟩,
  ⟨[119, 105, 102, 105], [114, 97, 100, 105, 111], 3, [[97, 99, 109, 101, 44, 119, 105, 102, 105]], 0, [115, 108, 111, 119], 12⟩,
  ⟨[109, 111, 100, 101, 109], [114, 97, 100, 105, 111], 4, [[97, 99, 109, 101, 44, 109, 111, 100, 101, 109], [97, 99, 109, 101, 44, 108, 111, 114, 97]], 20, [100, 111, 117, 98, 108, 101], 19⟩,
  ⟨[119, 105, 102, 105], [114, 97, 100, 105, 111], 1, [[97, 99, 109, 101, 44, 119, 105, 102, 105]], 70, [], 13⟩]
def madeF (L : List Cd) (w : World) : World := (mk w L).alloc (.cells (KC.rows L (pl w.heap.size L)).toArray 30)
theorem madeF_below (L : List Cd) (w : World) : Below w.heap.size w (madeF L w) := fam_below w L _
/-- What a family's Cards leaves. -/
def FamPost (L : List Cd) (w : World) (e : Ending) (w' : World) : Prop := e = .returned (.slice (some ⟨top w.heap.size L, 0, none⟩) L.length L.length) ∧ w' = madeF L w
set_option maxRecDepth 100000 in
set_option maxHeartbeats 8000000 in
theorem fam_c (w : World) : Calls Tryd.prog 60 #[] w (FamPost FLc w) := by
  go_enter Tryd.func60, Tryd.ntmps60
  go_wp2_with fail
  go_ret
  exact ⟨rfl, rfl⟩
set_option maxRecDepth 100000 in
set_option maxHeartbeats 8000000 in
theorem refFam_c (w : World) : Calls Tryd.prog 50 #[] w (FamPost FLc w) := by
  go_enter Tryd.func50, Tryd.ntmps50
  go_wp2_with fail
  go_ret
  exact ⟨rfl, rfl⟩
set_option maxRecDepth 100000 in
set_option maxHeartbeats 8000000 in
theorem fam_s (w : World) : Calls Tryd.prog 61 #[] w (FamPost FLs w) := by
  go_enter Tryd.func61, Tryd.ntmps61
  go_wp2_with fail
  go_ret
  exact ⟨rfl, rfl⟩
set_option maxRecDepth 100000 in
set_option maxHeartbeats 8000000 in
theorem refFam_s (w : World) : Calls Tryd.prog 51 #[] w (FamPost FLs w) := by
  go_enter Tryd.func51, Tryd.ntmps51
  go_wp2_with fail
  go_ret
  exact ⟨rfl, rfl⟩
set_option maxRecDepth 100000 in
set_option maxHeartbeats 8000000 in
theorem fam_b (w : World) : Calls Tryd.prog 62 #[] w (FamPost FLb w) := by
  go_enter Tryd.func62, Tryd.ntmps62
  go_wp2_with fail
  go_ret
  exact ⟨rfl, rfl⟩
set_option maxRecDepth 100000 in
set_option maxHeartbeats 8000000 in
theorem refFam_b (w : World) : Calls Tryd.prog 52 #[] w (FamPost FLb w) := by
  go_enter Tryd.func52, Tryd.ntmps52
  go_wp2_with fail
  go_ret
  exact ⟨rfl, rfl⟩
set_option maxRecDepth 100000 in
set_option maxHeartbeats 8000000 in
theorem fam_e (w : World) : Calls Tryd.prog 63 #[] w (FamPost FLe w) := by
  go_enter Tryd.func63, Tryd.ntmps63
  go_wp2_with fail
  go_ret
  exact ⟨rfl, rfl⟩
set_option maxRecDepth 100000 in
set_option maxHeartbeats 8000000 in
theorem refFam_e (w : World) : Calls Tryd.prog 53 #[] w (FamPost FLe w) := by
  go_enter Tryd.func53, Tryd.ntmps53
  go_wp2_with fail
  go_ret
  exact ⟨rfl, rfl⟩
set_option maxRecDepth 100000 in
set_option maxHeartbeats 8000000 in
theorem fam_r (w : World) : Calls Tryd.prog 64 #[] w (FamPost FLr w) := by
  go_enter Tryd.func64, Tryd.ntmps64
  go_wp2_with fail
  go_ret
  exact ⟨rfl, rfl⟩
set_option maxRecDepth 100000 in
set_option maxHeartbeats 8000000 in
theorem refFam_r (w : World) : Calls Tryd.prog 54 #[] w (FamPost FLr w) := by
  go_enter Tryd.func54, Tryd.ntmps54
  go_wp2_with fail
  go_ret
  exact ⟨rfl, rfl⟩
end Go.Proofs.YtnnaoneegeenkaaDoor.Kc
