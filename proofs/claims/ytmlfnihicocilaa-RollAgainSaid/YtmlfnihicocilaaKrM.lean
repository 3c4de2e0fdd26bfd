/- Registries in memory: what their cells hold, and what a store turns. -/
import Derived.Test.YtmlfnihicocilaaKcY
namespace Go.Proofs.Ytmlfnihicocilaa.Kr
open Go.ChangeShapes Go.WideShapes Go.ChangeAt Go.RowKit Own Ro wordsNames Kc

structure Nt where
  pack : List UInt8
  init : Int
  sum : Int
  stood : Int
def nt0 : Nt := ⟨[], 0, 0, 0⟩
def ntRow (a : Nt) : List Value := [.string (str a.pack), .int .i64 a.init, .int .i64 a.sum, .int .i64 a.stood]
theorem ntRow_len (a : Nt) : (ntRow a).length = 4 := rfl
abbrev Cs := List (Cd × Sl)
def zc : Cd × Sl := (cd0, sl0)
theorem rowC_len (a : Cd × Sl) : (KC.row a).length = 7 := row_len KC a
def roomC (C : Cs) : List Value := (C ++ List.replicate (64 - C.length) zc).flatMap KC.row
def roomV (C : Cs) : List Value := roomC C ++ [.int .i64 (C.length : Int)]
def noteC (N : List Nt) : List Value := (N ++ List.replicate (256 - N.length) nt0).flatMap ntRow
def noteV (N : List Nt) : List Value := noteC N ++ [.int .i64 (N.length : Int)]
def regV (C F : Cs) (N : List Nt) (z : Bool) : List Value := roomV C ++ (roomV F ++ (noteV N ++ [.bool z]))
theorem roomC_len (C : Cs) (h : C.length ≤ 64) : (roomC C).length = 448 := by
  unfold roomC
  rw [flat_len KC.row 7 rowC_len, List.length_append, List.length_replicate]
  omega
theorem roomV_len (C : Cs) (h : C.length ≤ 64) : (roomV C).length = 449 := by unfold roomV; rw [List.length_append, roomC_len C h]; rfl
theorem noteC_len (N : List Nt) (h : N.length ≤ 256) : (noteC N).length = 1024 := by
  unfold noteC
  rw [flat_len ntRow 4 ntRow_len, List.length_append, List.length_replicate]
  omega
theorem noteV_len (N : List Nt) (h : N.length ≤ 256) : (noteV N).length = 1025 := by unfold noteV; rw [List.length_append, noteC_len N h]; rfl
theorem app_at {α : Type} (a b : List α) (j : Nat) : (a ++ b)[a.length + j]? = b[j]? := by
  rw [List.getElem?_append_right (by omega)]
  congr 1
  omega
theorem app_at' {α : Type} (a b : List α) (n j : Nat) (h : a.length = n) : (a ++ b)[n + j]? = b[j]? := by rw [← h]; exact app_at a b j
theorem app_in {α : Type} {a : List α} (b : List α) {j : Nat} {u : α} (h : a[j]? = some u) : (a ++ b)[j]? = some u := by
  rw [List.getElem?_append_left (List.getElem?_eq_some_iff.1 h).1]
  exact h
theorem roomC_at (C : Cs) (i j : Nat) (hi : i < C.length) (hj : j < 7) : (roomC C)[i * 7 + j]? = (KC.row (C.getD i zc))[j]? := by
  unfold roomC
  rw [flat_at KC.row 7 rowC_len _ i j hj, List.getElem?_append_left hi, some_at C zc i hi]
  rfl
/-- A room with a place left, and one whose place was taken. -/
theorem room_split (C : Cs) (h : C.length < 64) : roomC C = C.flatMap KC.row ++ (KC.row zc ++ (List.replicate (63 - C.length) zc).flatMap KC.row) := by
  unfold roomC
  have e : 64 - C.length = (63 - C.length) + 1 := by omega
  rw [e, List.replicate_succ, List.flatMap_append, List.flatMap_cons]
theorem room_snoc (C : Cs) (d : Cd × Sl) (h : C.length < 64) : roomC (C ++ [d]) = C.flatMap KC.row ++ (KC.row d ++ (List.replicate (63 - C.length) zc).flatMap KC.row) := by
  unfold roomC
  have e : 64 - (C ++ [d]).length = 63 - C.length := by rw [List.length_append, List.length_singleton]; omega
  rw [e, List.flatMap_append, List.flatMap_append, List.append_assoc]
  congr 1
theorem note_split (N : List Nt) (h : N.length < 256) : noteC N = N.flatMap ntRow ++ (ntRow nt0 ++ (List.replicate (255 - N.length) nt0).flatMap ntRow) := by
  unfold noteC
  have e : 256 - N.length = (255 - N.length) + 1 := by omega
  rw [e, List.replicate_succ, List.flatMap_append, List.flatMap_cons]
theorem note_snoc (N : List Nt) (d : Nt) (h : N.length < 256) : noteC (N ++ [d]) = N.flatMap ntRow ++ (ntRow d ++ (List.replicate (255 - N.length) nt0).flatMap ntRow) := by
  unfold noteC
  have e : 256 - (N ++ [d]).length = 255 - N.length := by rw [List.length_append, List.length_singleton]; omega
  rw [e, List.flatMap_append, List.flatMap_append, List.append_assoc]
  congr 1
theorem set_at {α : Type} (pre post : List α) (x y : α) (n : Nat) (h : pre.length = n) : (pre ++ x :: post).set n y = pre ++ y :: post := by
  subst h
  rw [List.set_append_right _ _ (Nat.le_refl _)]
  simp
theorem set_move {α : Type} (pre post : List α) (x y : α) (n : Nat) (h : pre.length = n) : (pre ++ x :: post).set n y = (pre ++ [y]) ++ post := by
  rw [set_at pre post x y n h, List.append_assoc]
  rfl
theorem set7 {α : Type} (pre post : List α) (x0 x1 x2 x3 x4 x5 x6 y0 y1 y2 y3 y4 y5 y6 : α) (n : Nat) (h : pre.length = n) :
    (((((((pre ++ ([x0, x1, x2, x3, x4, x5, x6] ++ post)).set n y0).set (n + 1) y1).set (n + 2) y2).set (n + 3) y3).set (n + 4) y4).set (n + 5) y5).set (n + 6) y6 = pre ++ ([y0, y1, y2, y3, y4, y5, y6] ++ post) := by
  simp only [List.cons_append, List.nil_append]
  rw [set_move pre _ x0 y0 n h, set_move (pre ++ [y0]) _ x1 y1 (n + 1) (by simp [h]), set_move (pre ++ [y0] ++ [y1]) _ x2 y2 (n + 2) (by simp [h]), set_move (pre ++ [y0] ++ [y1] ++ [y2]) _ x3 y3 (n + 3) (by simp [h]),
    set_move (pre ++ [y0] ++ [y1] ++ [y2] ++ [y3]) _ x4 y4 (n + 4) (by simp [h]), set_move (pre ++ [y0] ++ [y1] ++ [y2] ++ [y3] ++ [y4]) _ x5 y5 (n + 5) (by simp [h]), set_move (pre ++ [y0] ++ [y1] ++ [y2] ++ [y3] ++ [y4] ++ [y5]) _ x6 y6 (n + 6) (by simp [h])]
  simp
theorem set4 {α : Type} (pre post : List α) (x0 x1 x2 x3 y0 y1 y2 y3 : α) (n : Nat) (h : pre.length = n) :
    ((((pre ++ ([x0, x1, x2, x3] ++ post)).set n y0).set (n + 1) y1).set (n + 2) y2).set (n + 3) y3 = pre ++ ([y0, y1, y2, y3] ++ post) := by
  simp only [List.cons_append, List.nil_append]
  rw [set_move pre _ x0 y0 n h, set_move (pre ++ [y0]) _ x1 y1 (n + 1) (by simp [h]), set_move (pre ++ [y0] ++ [y1]) _ x2 y2 (n + 2) (by simp [h]), set_move (pre ++ [y0] ++ [y1] ++ [y2]) _ x3 y3 (n + 3) (by simp [h])]
  simp
/-- Block g has these cells, and may be written. -/
def Blk (W : World) (g : Nat) (l : List Value) : Prop := W.heap[g]? = some (.cells ⟨l⟩ 50 (0, 0))
section
variable {W W' : World} {g : Nat} {l : List Value}
theorem Blk.lt (h : Blk W g l) : g < W.heap.size := (Array.getElem?_eq_some_iff.1 h).1
theorem Blk.cell (h : Blk W g l) {j : Nat} {u : Value} (hj : l[j]? = some u) : W.cell? ⟨g, j, none⟩ = some u := by
  rw [Lib.cell_of_heap h j]
  simpa using hj
theorem Blk.free (h : Blk W g l) (j : Nat) : W.frozen? ⟨g, j, none⟩ = false := Lib.frozen_of_heap h j
theorem Blk.set (h : Blk W g l) (j : Nat) (v : Value) : Blk (W.setCell ⟨g, j, none⟩ v) g (l.set j v) := by
  have := Go.heap_setCell_same W g j ⟨l⟩ 50 v h
  rw [List.setIfInBounds_toArray] at this
  exact this
theorem Blk.below (h : Blk W g l) (hb : Below W.heap.size W W') : Blk W' g l := (hb.block g h.lt).trans h
theorem Blk.kept (h : Blk W g l) {row : Option Nat} (hg : W.grownBy W' row) (hne : some g ≠ row) : Blk W' g l := (hg.block g h.lt hne).trans h
end
theorem gb_below {W W' : World} (h : Below W.heap.size W W') (row : Option Nat) : W.grownBy W' row := ⟨h.os, h.tape, h.output, h.size, fun k hk _ => h.block k hk⟩
theorem gb_trans {a b c : World} {row : Option Nat} (h : a.grownBy b row) (h' : b.grownBy c row) : a.grownBy c row :=
  ⟨h'.os.trans h.os, h'.tape.trans h.tape, h'.output.trans h.output, Nat.le_trans h.size h'.size, fun k hk hne => (h'.block k (Nat.lt_of_lt_of_le hk h.size) hne).trans (h.block k hk hne)⟩
theorem gb_set (w : World) (g j : Nat) (v : Value) : w.grownBy (w.setCell ⟨g, j, none⟩ v) (some g) := set_grown w ⟨g, j, none⟩ v
theorem gb_cell {W W' : World} {g : Nat} (h : W.grownBy W' (some g)) {b o : Nat} (hb : b < W.heap.size) (hne : b ≠ g) : W'.cell? ⟨b, o, none⟩ = W.cell? ⟨b, o, none⟩ :=
  World.cell?_of_block (h.block b hb (fun e => hne (by injection e)))
theorem gb_free {W W' : World} {g : Nat} (h : W.grownBy W' (some g)) {b o : Nat} (hb : b < W.heap.size) (hne : b ≠ g) : W'.frozen? ⟨b, o, none⟩ = W.frozen? ⟨b, o, none⟩ :=
  World.frozen?_of_block (h.block b hb (fun e => hne (by injection e)))
/-- A card's texts, in a block other than g. -/
def TxIn (W : World) (g : Nat) (d : Cd × Sl) : Prop := d.2.2.1 = d.1.compat.length ∧ CellsIn W 1 d.2.1 d.2.2.1 (strs d.1.compat) ∧ Neat d.2 ∧ d.2.2.1 ≤ d.2.2.2 ∧ ∀ a, d.2.1 = some a → a.block ≠ g
theorem TxIn.kept {W W' : World} {g : Nat} {d : Cd × Sl} (h : TxIn W g d) (hg : W.grownBy W' (some g)) : TxIn W' g d :=
  ⟨h.1, h.2.1.kept hg (fun a ha e => h.2.2.2.2 a ha (by injection e)), h.2.2.1, h.2.2.2.1, h.2.2.2.2⟩
def TxAll (W : World) (g : Nat) (C : Cs) : Prop := ∀ i, i < C.length → TxIn W g (C.getD i zc)
theorem TxAll.nil (W : World) (g : Nat) : TxAll W g [] := fun i hi => absurd hi (by simp)
theorem TxAll.kept {W W' : World} {g : Nat} {C : Cs} (h : TxAll W g C) (hg : W.grownBy W' (some g)) : TxAll W' g C := fun i hi => (h i hi).kept hg
theorem TxAll.snoc {W : World} {g : Nat} {C : Cs} {d : Cd × Sl} (h : TxAll W g C) (hd : TxIn W g d) : TxAll W g (C ++ [d]) := fun i hi => by
  rw [List.length_append, List.length_singleton] at hi
  by_cases h1 : i < C.length
  · rw [getD_sn C d zc i h1]
    exact h i h1
  · obtain rfl : i = C.length := by omega
    rw [getD_la]
    exact hd
/-- A registry at block g. -/
structure RegAt (W : World) (g : Nat) (C F : Cs) (N : List Nt) (z : Bool) : Prop where
  blk : Blk W g (regV C F N z)
  c64 : C.length ≤ 64
  f64 : F.length ≤ 64
  n256 : N.length ≤ 256
  ct : TxAll W g C
  ft : TxAll W g F
  cm : ∀ k, MildC 1099511627776 (C.getD k zc).1
  fm : ∀ k, MildC 1099511627776 (F.getD k zc).1
theorem RegAt.kept {W W' : World} {g g' : Nat} {C F : Cs} {N : List Nt} {z : Bool} (h : RegAt W g C F N z) (hg : W.grownBy W' (some g')) (hne : g ≠ g') (hc : ∀ i, i < C.length → ∀ a, (C.getD i zc).2.1 = some a → a.block ≠ g') (hf : ∀ i, i < F.length → ∀ a, (F.getD i zc).2.1 = some a → a.block ≠ g') : RegAt W' g C F N z :=
  ⟨h.blk.kept hg (fun e => hne (by injection e)), h.c64, h.f64, h.n256,
    fun i hi => ⟨(h.ct i hi).1, (h.ct i hi).2.1.kept hg (fun a ha e => hc i hi a ha (by injection e)), (h.ct i hi).2.2.1, (h.ct i hi).2.2.2.1, (h.ct i hi).2.2.2.2⟩,
    fun i hi => ⟨(h.ft i hi).1, (h.ft i hi).2.1.kept hg (fun a ha e => hf i hi a ha (by injection e)), (h.ft i hi).2.2.1, (h.ft i hi).2.2.2.1, (h.ft i hi).2.2.2.2⟩, h.cm, h.fm⟩
theorem RegAt.below {W W' : World} {g : Nat} {C F : Cs} {N : List Nt} {z : Bool} (h : RegAt W g C F N z) (hb : Below W.heap.size W W') : RegAt W' g C F N z :=
  ⟨h.blk.below hb, h.c64, h.f64, h.n256, h.ct.kept (gb_below hb _), h.ft.kept (gb_below hb _), h.cm, h.fm⟩
section
variable {C F : Cs} {N : List Nt} {z : Bool}
theorem reg_c {j : Nat} {u : Value} (h : (roomV C)[j]? = some u) : (regV C F N z)[j]? = some u := app_in _ h
theorem reg_f (hC : C.length ≤ 64) {j : Nat} {u : Value} (h : (roomV F)[j]? = some u) : (regV C F N z)[449 + j]? = some u := by
  unfold regV
  rw [app_at' _ _ 449 j (roomV_len C hC)]
  exact app_in _ h
theorem reg_n (hC : C.length ≤ 64) (hF : F.length ≤ 64) {j : Nat} {u : Value} (h : (noteV N)[j]? = some u) : (regV C F N z)[898 + j]? = some u := by
  unfold regV
  rw [show 898 + j = 449 + (449 + j) by omega, app_at' _ _ 449 _ (roomV_len C hC), app_at' _ _ 449 _ (roomV_len F hF)]
  exact app_in _ h
theorem reg_z (hC : C.length ≤ 64) (hF : F.length ≤ 64) (hN : N.length ≤ 256) : (regV C F N z)[1923]? = some (.bool z) := by
  unfold regV
  rw [show 1923 = 449 + (449 + (1025 + 0)) by omega, app_at' _ _ 449 _ (roomV_len C hC), app_at' _ _ 449 _ (roomV_len F hF), app_at' _ _ 1025 _ (noteV_len N hN)]
  rfl
theorem room_held (hC : C.length ≤ 64) : (roomV C)[448]? = some (.int .i64 (C.length : Int)) := by
  unfold roomV
  rw [show 448 = 448 + 0 by omega, app_at' _ _ 448 _ (roomC_len C hC)]
  rfl
theorem note_held (hN : N.length ≤ 256) : (noteV N)[1024]? = some (.int .i64 (N.length : Int)) := by
  unfold noteV
  rw [show 1024 = 1024 + 0 by omega, app_at' _ _ 1024 _ (noteC_len N hN)]
  rfl
end
end Go.Proofs.Ytmlfnihicocilaa.Kr
