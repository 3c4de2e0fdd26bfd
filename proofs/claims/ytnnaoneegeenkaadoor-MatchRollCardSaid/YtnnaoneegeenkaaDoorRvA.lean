/- The document's registry as the head of a state, and what may be written. -/
import Derived.Test.YtnnaoneegeenkaaDoorChC
import Derived.Test.YtnnaoneegeenkaaDoorAq
import Derived.StillTailTactics
import Derived.Deep.MidRow
namespace Go.Proofs.YtnnaoneegeenkaaDoor.Kq
open Go.ChangeShapes Go.WideShapes Go.ChangeAt Go.RowKit Own Ro wordsNames Kc
variable {X : Value}

structure Nt where
  pack : List UInt8
  init : Int
  sum : Int
  stood : Int
def nt0 : Nt := ⟨[], 0, 0, 0⟩
def ntRow (a : Nt) : List Value := [.string (str a.pack), .int .i64 a.init, .int .i64 a.sum, .int .i64 a.stood]
theorem ntRow_len (a : Nt) : (ntRow a).length = 4 := rfl
/-- From W to W' at most the blocks of S, and those made since, have been written. -/
structure Ch (S : Nat → Prop) (W W' : World) : Prop where
  os : W'.os = W.os
  tape : W'.tape = W.tape
  output : W'.output = W.output
  size : W.heap.size ≤ W'.heap.size
  block : ∀ k, k < W.heap.size → ¬ S k → W'.heap[k]? = W.heap[k]?
section
variable {S : Nat → Prop} {W W' W2 : World}
theorem Ch.refl (S : Nat → Prop) (W : World) : Ch S W W := ⟨rfl, rfl, rfl, Nat.le_refl _, fun _ _ _ => rfl⟩
theorem Ch.below (h : Ch S W W') (hb : Below W'.heap.size W' W2) : Ch S W W2 :=
  ⟨hb.os.trans h.os, hb.tape.trans h.tape, hb.output.trans h.output, Nat.le_trans h.size hb.size, fun k h1 h2 => (hb.block k (Nat.lt_of_lt_of_le h1 h.size)).trans (h.block k h1 h2)⟩
theorem Ch.of_below (hb : Below W.heap.size W W') : Ch S W W' := (Ch.refl S W).below hb
theorem Ch.grown (h : Ch S W W') {row : Option Nat} (hg : W'.grownBy W2 row) (hr : ∀ k, row = some k → S k ∨ W.heap.size ≤ k) : Ch S W W2 :=
  ⟨hg.os.trans h.os, hg.tape.trans h.tape, hg.output.trans h.output, Nat.le_trans h.size hg.size, fun k h1 h2 => (hg.block k (Nat.lt_of_lt_of_le h1 h.size) (fun e => by rcases hr k e.symm with h3 | h3; exact h2 h3; omega)).trans (h.block k h1 h2)⟩
theorem Ch.set (h : Ch S W W') {p : Addr} (hp : S p.block ∨ W.heap.size ≤ p.block) (u : Value) : Ch S W (W'.setCell p u) :=
  h.grown (set_grown W' p u) (fun k hk => by injection hk with hk; rwa [← hk])
theorem Ch.mono {S' : Nat → Prop} (h : Ch S W W') (hs : ∀ k, S k → S' k) : Ch S' W W' := ⟨h.os, h.tape, h.output, h.size, fun k h1 h2 => h.block k h1 (fun h3 => h2 (hs k h3))⟩
theorem own_ch {b n k : Nat} {E : TypeId} {v : Value} {xs : List Value} (ho : W.ownsRow b E k v n xs) (h : Ch S W W') (hv : ∀ g, v.ownBlock = some g → ¬ S g) : W'.ownsRow b E k v n xs := by
  rcases ho.2 with ⟨rfl, rfl⟩ | ⟨g, cap, cur, rfl, hg, hh, hr⟩
  · exact ⟨ho.1, .inl ⟨rfl, rfl⟩⟩
  · refine ⟨ho.1, .inr ⟨g, cap, cur, rfl, hg, ?_, hr⟩⟩
    rw [h.block g (Array.getElem?_eq_some_iff.1 hh).1 (hv g rfl)]
    exact hh
theorem rows_ch {b n c : Nat} {A : Option Addr} {L : List Cd} {R : List Sl} (ho : RowsOwn KC W b A n c L R) (h : Ch S W W') (hv : ∀ g, (Value.slice A n c).ownBlock = some g → ¬ S g) (hi : ∀ i, i < R.length → ∀ g, (rowV R i).ownBlock = some g → ¬ S g) : RowsOwn KC W' b A n c L R :=
  ⟨ho.1, own_ch ho.2.1 h hv, ho.2.2.1, fun i hi' => ⟨(ho.2.2.2.1 i hi').1, own_ch (ho.2.2.2.1 i hi').2 h (hi i hi')⟩, ho.2.2.2.2⟩
end
/-- The element type of an own row's block. -/
theorem own_type {W : World} {b n k : Nat} {E : TypeId} {v : Value} {xs : List Value} (h : W.ownsRow b E k v n xs) {g : Nat} (hg : v.ownBlock = some g) : ∃ cur fr, W.heap[g]? = some (.cells cur E fr) := by
  rcases h.2 with ⟨rfl, _⟩ | ⟨g', cap, cur, rfl, _, hh, _⟩
  · cases hg
  · have : g' = g := Option.some.inj hg
    subst this
    exact ⟨cur, _, hh⟩
theorem type_ne {W : World} {g g' : Nat} {cur cur' : Array Value} {E E' : TypeId} {fr fr' : Nat × Nat} (h : W.heap[g]? = some (.cells cur E fr)) (h' : W.heap[g']? = some (.cells cur' E' fr')) (hne : E ≠ E') : g ≠ g' := fun e => by
  subst e
  rw [h] at h'
  injection h' with h'
  injection h' with _ h2 _
  exact hne h2
/-- The document's registry. -/
structure Qat (X : Value) (W : World) (q : Nat) (c f n : Sl) (L G : List Cd) (RC RF : List Sl) (N : List Nt) (z : Bool) : Prop where
  blk : W.heap[q]? = some (.cells ⟨[slV c, slV f, slV n, .bool z, X]⟩ 94 (0, 0))
  cl : RowsOwn KC W 0 c.1 c.2.1 c.2.2 L RC
  fl : RowsOwn KC W 0 f.1 f.2.1 f.2.2 G RF
  nl : W.ownsRow 0 199 4 (slV n) n.2.1 (N.flatMap ntRow)
  nn : n.2.1 = N.length
  c64 : L.length ≤ 64
  f64 : G.length ≤ 64
  n256 : N.length ≤ 256
  cm : MildL 1099511627776 L
  fm : MildL 1099511627776 G
  ap : ∀ g, (slV c).ownBlock = some g → (slV f).ownBlock ≠ some g
/-- What an operation of the registry may write. -/
def Sq (q : Nat) (c f n : Sl) (k : Nat) : Prop := k = q ∨ (slV c).ownBlock = some k ∨ (slV f).ownBlock = some k ∨ (slV n).ownBlock = some k
section
variable {W : World} {q : Nat} {c f n : Sl} {L G : List Cd} {RC RF : List Sl} {N : List Nt} {z : Bool}
theorem Qat.lt (h : Qat X W q c f n L G RC RF N z) : q < W.heap.size := (Array.getElem?_eq_some_iff.1 h.blk).1
theorem Qat.cell (h : Qat X W q c f n L G RC RF N z) {j : Nat} {u : Value} (hj : [slV c, slV f, slV n, Value.bool z, X][j]? = some u) : W.cell? ⟨q, j, none⟩ = some u := by
  rw [Lib.cell_of_heap h.blk j]
  simpa using hj
theorem Qat.free (h : Qat X W q c f n L G RC RF N z) (j : Nat) : W.frozen? ⟨q, j, none⟩ = false := Lib.frozen_of_heap h.blk j
end
theorem blk_set {W : World} {q : Nat} {E : TypeId} {l : List Value} (h : W.heap[q]? = some (.cells ⟨l⟩ E (0, 0))) (j : Nat) (v : Value) : (W.setCell ⟨q, j, none⟩ v).heap[q]? = some (.cells ⟨l.set j v⟩ E (0, 0)) := by
  have := Go.heap_setCell_same W q j ⟨l⟩ E v h
  rw [List.setIfInBounds_toArray] at this
  exact this
set_option maxRecDepth 100000 in
set_option maxHeartbeats 8000000 in
theorem named_any (A : Option Addr) (c n : Nat) (L : List Cd) (R : List Sl) (x : List UInt8) (g : Bool) (w : World) (hg : g = true ↔ ∃ i, i < L.length ∧ (L.getD i cd0).name = x) (hm : L.length ≤ 64) (hA : Ro.RowsIn KC w A n L R) :
    Calls Tryd.prog 89 #[.slice A n c, .string (str x)] w fun e w' => e = .returned (.bool g) ∧ w' = w := by
  have HN := Lib.hid hA.1
  have hn64 : (n : Int) ≤ 64 := by have := hA.1; omega
  have GA := Lib.hid hA
  have HG := Lib.hid hg
  clear hg hA
  go_enter Tryd.func89, Tryd.ntmps89
  go_wp2_with fail
  go_loopw [5] (fun v5 wr => ∃ k : Nat, k ≤ n ∧ v5 = .int .i64 (k : Int) ∧ (∀ i, i < k → (L.getD i cd0).name ≠ x) ∧ wr = w) (fun v5 _ => n - (RowKit.intOf v5).toNat)
  case atStart => exact ⟨0, by omega, rfl, fun i hi => absurd hi (by omega), rfl⟩
  case round =>
    obtain ⟨k, hk, rfl, hall, rfl⟩ := hrel
    have HALL := Lib.hid hall
    clear hall
    by_cases hlt : k < n
    · have l1 : (0 : Int) ≤ (k : Int) := by omega
      have l2 : (k : Int) < (n : Int) := by omega
      obtain ⟨b, o, rfl, hb, hc, _, _⟩ := GA.out.at hlt
      have c0 : wr.cell? ⟨b, o + k * 7, none⟩ = some (.string (str (L.getD k cd0).name)) := hc 0 _ rfl
      clear hc
      have q1 := eq_lists (L.getD k cd0).name x
      have HT : Hid ((L.getD k cd0).name = x → g = true) := Lib.hid (fun he => HG.out.2 ⟨k, by rw [← HN.out]; exact hlt, he⟩)
      have HALL2 : Hid ((L.getD k cd0).name ≠ x → ∀ i, i < k + 1 → (L.getD i cd0).name ≠ x) := Lib.hid (fun he i hi => if hik : i = k then by rw [hik]; exact he else HALL.out i (by omega))
      generalize hnm : (L.getD k cd0).name = nmk at c0 q1 HT HALL2
      by_cases he : nmk = x
      · have HT2 : Hid (g = true) := Lib.hid (HT.out he)
        rw [decide_eq_true he] at q1
        clear he hnm
        generalize str nmk = S1 at c0 q1
        generalize str x = S2 at q1 ⊢
        go_wp2_with fail
        go_ret
        rw [HT2.out]
        exact ⟨rfl, rfl⟩
      · rw [decide_eq_false he] at q1
        have HE := Lib.hid (HALL2.out he)
        clear he hnm HALL2
        generalize str nmk = S1 at c0 q1
        go_wp2_with fail
        go_roundw
        case rel => exact ⟨k + 1, by omega, by go_num, HE.out, trivial⟩
        case measure => simp [RowKit.intOf]; omega
    · obtain rfl : n = k := by omega
      have HF : Hid (g = false) := Lib.hid (Bool.eq_false_iff.2 fun e => by
        obtain ⟨i, hi, hx⟩ := HG.out.1 e
        exact HALL.out i (by rw [HN.out]; exact hi) hx)
      go_wp2_with fail
      go_ret
      rw [HF.out]
      exact ⟨rfl, rfl⟩
end Go.Proofs.YtnnaoneegeenkaaDoor.Kq
