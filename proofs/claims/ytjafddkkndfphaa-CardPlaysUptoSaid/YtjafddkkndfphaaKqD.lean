/- Two lists of notes, and what a registry tells, held against the document's. -/
import Derived.Test.YtjafddkkndfphaaKqC
namespace Go.Proofs.Ytjafddkkndfphaa.Kq
open Go.ChangeShapes Go.WideShapes Go.ChangeAt Go.RowKit Own Ro wordsNames Kc Kr

set_option maxRecDepth 100000 in
set_option maxHeartbeats 8000000 in
theorem sameNotes_any (A B : Option Addr) (c d n : Nat) (N : List Nt) (w : World) (hn : n = N.length) (h256 : N.length ≤ 256) (hA : CellsIn w 4 A n (N.flatMap ntRow)) (hB : CellsIn w 4 B n (N.flatMap ntRow)) :
    Calls Try.prog 48 #[.slice A n c, .slice B n d] w fun e w' => e = .returned (.bool true) ∧ Below w.heap.size w w' := by
  have HN := Lib.hid hn
  have hn256 : (n : Int) ≤ 256 := by omega
  have GA := Lib.hid hA
  have GB := Lib.hid hB
  clear hn hA hB
  go_enter Try.func48, Try.ntmps48
  go_wp2_with fail
  go_loopw [5] (fun v5 wr => ∃ k : Nat, k ≤ n ∧ v5 = .int .i64 (k : Int) ∧ ∃ q, wr = w.drewN q) (fun v5 _ => n - (RowKit.intOf v5).toNat)
  case atStart => exact ⟨0, by omega, rfl, 0, rfl⟩
  case round =>
    obtain ⟨k, hk, rfl, q, rfl⟩ := hrel
    by_cases hlt : k < n
    · have l1 : (0 : Int) ≤ (k : Int) := by omega
      have l2 : (k : Int) < (n : Int) := by omega
      obtain ⟨a, o, rfl, _, hc⟩ := GA.out.at (by omega)
      obtain ⟨b, o2, rfl, _, hc2⟩ := GB.out.at (by omega)
      have at_ : ∀ j, j < 4 → (N.flatMap ntRow)[k * 4 + j]? = (ntRow (N.getD k nt0))[j]? := fun j hj => by
        rw [flat_at ntRow 4 ntRow_len N k j hj, some_at N nt0 k (by rw [← HN.out]; exact hlt)]
        rfl
      have a0 := hc (k * 4 + 0) _ (at_ 0 (by omega))
      have a1 := hc (k * 4 + 1) _ (at_ 1 (by omega))
      have a2 := hc (k * 4 + 2) _ (at_ 2 (by omega))
      have a3 := hc (k * 4 + 3) _ (at_ 3 (by omega))
      have b0 := hc2 (k * 4 + 0) _ (at_ 0 (by omega))
      have b1 := hc2 (k * 4 + 1) _ (at_ 1 (by omega))
      have b2 := hc2 (k * 4 + 2) _ (at_ 2 (by omega))
      have b3 := hc2 (k * 4 + 3) _ (at_ 3 (by omega))
      clear hc hc2 at_
      generalize N.getD k nt0 = x at a0 a1 a2 a3 b0 b1 b2 b3
      obtain ⟨xp, xi, xs, xt⟩ := x
      replace a0 : w.cell? ⟨a, o + k * 4, none⟩ = some (.string (str xp)) := a0
      replace a1 : w.cell? ⟨a, o + k * 4 + 1, none⟩ = some (.int .i64 xi) := a1
      replace a2 : w.cell? ⟨a, o + k * 4 + 2, none⟩ = some (.int .i64 xs) := a2
      replace a3 : w.cell? ⟨a, o + k * 4 + 3, none⟩ = some (.int .i64 xt) := a3
      replace b0 : w.cell? ⟨b, o2 + k * 4, none⟩ = some (.string (str xp)) := b0
      replace b1 : w.cell? ⟨b, o2 + k * 4 + 1, none⟩ = some (.int .i64 xi) := b1
      replace b2 : w.cell? ⟨b, o2 + k * 4 + 2, none⟩ = some (.int .i64 xs) := b2
      replace b3 : w.cell? ⟨b, o2 + k * 4 + 3, none⟩ = some (.int .i64 xt) := b3
      generalize str xp = S at a0 b0
      have q1 : (S.toList == S.toList) = true := by simp
      go_wp2_with fail
      go_region
      all_goals go_wp2_with fail
      all_goals go_roundw
      case rel => exact ⟨k + 1, by omega, by go_num, _, rfl⟩
      case measure => simp [RowKit.intOf]; omega
    · obtain rfl : n = k := by omega
      go_wp2_with fail
      go_ret
      exact ⟨rfl, below_dr (Below.refl _ _) _⟩
/-- A list of cards of the call's own whose texts may be written, whatever stands in it. -/
def Safe (W : World) (B : Nat) (v : Sl) : Prop := ∃ xs, W.ownsRow B 30 7 (slV v) v.2.1 xs ∧ ∀ i, i < v.2.1 → ∃ r : Sl, xs[i * 7 + 3]? = some (slV r) ∧ ∃ ys, W.ownsRow B 9 1 (slV r) r.2.1 ys
theorem Safe.of {W : World} {B n c : Nat} {A : Option Addr} {L : List Cd} {R : List Sl} (h : RowsOwn KC W B A n c L R) : Safe W B (A, n, c) := by
  refine ⟨_, h.2.1, fun i hi => ⟨R.getD i sl0, ?_, _, (h.2.2.2.1 i (by rw [h.2.2.1, ← h.1]; exact hi)).2⟩⟩
  exact rows_at KC L R h.2.2.1.symm i 3 (by rw [← h.1]; exact hi) (by decide)
theorem Safe.mono {W : World} {B B' : Nat} {v : Sl} (h : Safe W B v) (hB : B' ≤ B) : Safe W B' v := by
  obtain ⟨xs, h1, h2⟩ := h
  exact ⟨xs, own_monoK h1 hB, fun i hi => by obtain ⟨r, h3, ys, h4⟩ := h2 i hi; exact ⟨r, h3, ys, own_monoK h4 hB⟩⟩
theorem Safe.below {W W' : World} {B : Nat} {v : Sl} (h : Safe W B v) (hb : Below W.heap.size W W') : Safe W' B v := by
  obtain ⟨xs, h1, h2⟩ := h
  exact ⟨xs, own_belowK h1 hb, fun i hi => by obtain ⟨r, h3, ys, h4⟩ := h2 i hi; exact ⟨r, h3, ys, own_belowK h4 hb⟩⟩
theorem own_text {W : World} {B g k n : Nat} {u : Value} {r : Sl} {ys : List Value} (h : W.ownsRow B 9 1 (slV r) n ys) : ∃ zs, (W.setCell ⟨g, k, none⟩ u).ownsRow B 9 1 (slV r) n zs := by
  by_cases e : (slV r).ownBlock = some g
  · rcases h.2 with ⟨hv, _⟩ | ⟨g', cap, cur, hv, _⟩
    · rw [hv] at e; cases e
    · rw [hv] at e h ⊢
      have : g' = g := Option.some.inj e
      subst this
      exact ⟨_, (h.stored k u).1⟩
  · exact ⟨ys, own_keptNe h (set_grown W ⟨g, k, none⟩ u) e⟩
theorem Safe.text {W : World} {B g k : Nat} {u : Value} {v : Sl} {cur : Array Value} {fr : Nat × Nat} (h : Safe W B v) (hg : W.heap[g]? = some (.cells cur 9 fr)) : Safe (W.setCell ⟨g, k, none⟩ u) B v := by
  obtain ⟨xs, h1, h2⟩ := h
  refine ⟨xs, own_keptNe h1 (set_grown W ⟨g, k, none⟩ u) (fun e => ?_), fun i hi => ?_⟩
  · obtain ⟨_, _, ht⟩ := own_type h1 e
    exact type_ne ht hg (by decide) rfl
  · obtain ⟨r, h3, ys, h4⟩ := h2 i hi
    obtain ⟨zs, h5⟩ := own_text (g := g) (k := k) (u := u) h4
    exact ⟨r, h3, zs, h5⟩
def setL : List Value → Nat → List Value → List Value
  | xs, _, [] => xs
  | xs, o, v :: r => setL (xs.set o v) (o + 1) r
theorem setL_out (vs : List Value) : ∀ (xs : List Value) (o m : Nat), m < o ∨ o + vs.length ≤ m → (setL xs o vs)[m]? = xs[m]? := by
  induction vs with
  | nil => intro xs o m _; rfl
  | cons v vs ih =>
    intro xs o m h
    show (setL (xs.set o v) (o + 1) vs)[m]? = _
    rw [ih _ _ _ (by simp at h; omega), List.getElem?_set_ne (by simp at h; omega)]
theorem setL_in (vs : List Value) : ∀ (xs : List Value) (o m : Nat), o ≤ m → m < o + vs.length → m < xs.length → (setL xs o vs)[m]? = vs[m - o]? := by
  induction vs with
  | nil => intro xs o m h1 h2; simp at h2; omega
  | cons v vs ih =>
    intro xs o m h1 h2 h3
    show (setL (xs.set o v) (o + 1) vs)[m]? = _
    by_cases e : m = o
    · subst e
      rw [setL_out _ _ _ _ (by omega), List.getElem?_set_self h3, Nat.sub_self]
      rfl
    · rw [ih _ _ _ (by omega) (by simp at h2; omega) (by rw [List.length_set]; exact h3), show m - o = (m - (o + 1)) + 1 by omega]
      rfl
theorem own_sets {b g n c : Nat} {E : TypeId} {k : Nat} (vs : List Value) : ∀ {w : World} {xs : List Value} (o : Nat), w.ownsRow b E k (.slice (some ⟨g, 0, none⟩) n c) n xs → (w.setCells g o vs).ownsRow b E k (.slice (some ⟨g, 0, none⟩) n c) n (setL xs o vs) := by
  induction vs with
  | nil => intro w xs o h; exact h
  | cons v vs ih => intro w xs o h; exact ih (o + 1) (h.stored o v).1
theorem own_setsNe {b g n : Nat} {E : TypeId} {k : Nat} {v : Value} {xs : List Value} (vs : List Value) : ∀ {w : World} (o : Nat), w.ownsRow b E k v n xs → v.ownBlock ≠ some g → (w.setCells g o vs).ownsRow b E k v n xs := by
  induction vs with
  | nil => intro w o h _; exact h
  | cons u vs ih => intro w o h hne; exact ih (o + 1) (own_keptNe h (set_grown w ⟨g, o, none⟩ u) hne) hne
theorem below_sets {B g : Nat} (vs : List Value) : ∀ {w0 w : World} (o : Nat), Below B w0 w → B ≤ g → Below B w0 (w.setCells g o vs) := by
  induction vs with
  | nil => intro w0 w o h _; exact h
  | cons u vs ih => intro w0 w o h hB; exact ih (o + 1) (h.setCell (p := ⟨g, o, none⟩) hB u) hB
theorem there_any {b g n c k : Nat} {E : TypeId} {w : World} {xs : List Value} (h : w.ownsRow b E k (.slice (some ⟨g, 0, none⟩) n c) n xs) (i : Nat) (hi : i < n) : w.there g (i * k) k := fun j hj => by
  have hle : i * k + j < n * k := by
    have : (i + 1) * k ≤ n * k := Nat.mul_le_mul_right k hi
    rw [Nat.add_mul, Nat.one_mul] at this
    omega
  refine ⟨?_, h.frozenAt _⟩
  rw [h.cellAt (i * k + j) hle, Option.isSome_iff_exists]
  exact ⟨_, List.getElem?_eq_getElem (by rw [h.1]; exact hle)⟩
/-- A card in which nothing stands but a name. -/
def bare (x : ByteArray) : List Value := [.string x, .string ⟨#[]⟩, .int .u8 0, .slice none 0 0, .int .i8 0, .string ⟨#[]⟩, .int .i16 0]
theorem Safe.card {W : World} {B g n c i : Nat} (x : ByteArray) (h : Safe W B (some ⟨g, 0, none⟩, n, c)) (hi : i < n) : Safe (W.setCells g (i * 7) (bare x)) B (some ⟨g, 0, none⟩, n, c) := by
  obtain ⟨xs, h1, h2⟩ := h
  have hlen : xs.length = n * 7 := h1.1
  refine ⟨_, own_sets (bare x) (i * 7) h1, fun j hj => ?_⟩
  replace hj : j < n := hj
  by_cases e : j = i
  · subst e
    refine ⟨sl0, ?_, [], own_nilK _ _ _ _⟩
    rw [setL_in _ _ _ _ (by omega) (by show _ < j * 7 + 7; omega) (by omega), show j * 7 + 3 - j * 7 = 3 by omega]
    rfl
  · obtain ⟨r, h3, ys, h4⟩ := h2 j hj
    refine ⟨r, ?_, ys, own_setsNe _ _ h4 (fun e2 => ?_)⟩
    · rw [setL_out _ _ _ _ (by show _ < i * 7 ∨ i * 7 + 7 ≤ _; omega)]
      exact h3
    · obtain ⟨_, _, t1⟩ := own_type h4 e2
      obtain ⟨_, _, t2⟩ := own_type (g := g) h1 rfl
      exact type_ne t1 t2 (by decide) rfl
theorem Safe.other {W : World} {B g o : Nat} {v : Sl} {cur : Array Value} {fr : Nat × Nat} {E : TypeId} (vs : List Value) (h : Safe W B v) (hg : W.heap[g]? = some (.cells cur E fr)) (hE : E ≠ 9) (hne : (slV v).ownBlock ≠ some g) : Safe (W.setCells g o vs) B v := by
  obtain ⟨xs, h1, h2⟩ := h
  refine ⟨xs, own_setsNe _ _ h1 hne, fun i hi => ?_⟩
  obtain ⟨r, h3, ys, h4⟩ := h2 i hi
  refine ⟨r, h3, ys, own_setsNe _ _ h4 (fun e2 => ?_)⟩
  obtain ⟨_, _, t1⟩ := own_type h4 e2
  exact type_ne t1 hg (fun e => hE e.symm) rfl
/-- What stands while the lists that were told are written over. -/
structure PI (wr : World) (B : Nat) (a b nn : Sl) (gb : Nat) : Prop where
  sa : Safe wr B a
  sb : Safe wr B b
  ap : ∀ g, (slV a).ownBlock = some g → (slV b).ownBlock ≠ some g
  nt : ∃ zs, wr.ownsRow B 78 4 (slV nn) nn.2.1 zs
  bx : ∃ fr, wr.heap[gb]? = some (.cells ⟨[slV a, slV b]⟩ 25 fr)
section
variable {wr w2 : World} {B : Nat} {a b nn : Sl} {gb : Nat}
theorem PI.below (h : PI wr B a b nn gb) (hb : Below wr.heap.size wr w2) : PI w2 B a b nn gb :=
  ⟨h.sa.below hb, h.sb.below hb, h.ap, by obtain ⟨zs, h1⟩ := h.nt; exact ⟨zs, own_belowK h1 hb⟩, by obtain ⟨fr, h1⟩ := h.bx; exact ⟨fr, (hb.block gb (Array.getElem?_eq_some_iff.1 h1).1).trans h1⟩⟩
theorem heap_sets {g k : Nat} (hne : k ≠ g) (vs : List Value) : ∀ (W : World) (o : Nat), (W.setCells g o vs).heap[k]? = W.heap[k]? := by
  induction vs with
  | nil => intro W o; rfl
  | cons u vs ih => intro W o; show ((W.setCell ⟨g, o, none⟩ u).setCells g (o + 1) vs).heap[k]? = _; rw [ih, Below.heap_setCell _ _ _ _ hne]
theorem PI.text {g k : Nat} {u : Value} {cur : Array Value} {fr : Nat × Nat} (h : PI wr B a b nn gb) (hg : wr.heap[g]? = some (.cells cur 9 fr)) : PI (wr.setCell ⟨g, k, none⟩ u) B a b nn gb := by
  refine ⟨h.sa.text hg, h.sb.text hg, h.ap, ?_, ?_⟩
  · obtain ⟨zs, h1⟩ := h.nt
    refine ⟨zs, own_keptNe h1 (set_grown wr ⟨g, k, none⟩ u) (fun e => ?_)⟩
    obtain ⟨_, _, t1⟩ := own_type h1 e
    exact type_ne t1 hg (by decide) rfl
  · obtain ⟨fr2, h1⟩ := h.bx
    exact ⟨fr2, (Below.heap_setCell _ _ _ _ (type_ne h1 hg (by decide))).trans h1⟩
theorem PI.card {g n c i : Nat} (x : ByteArray) (h : PI wr B a b nn gb) (hc : (some ⟨g, 0, none⟩, n, c) = a ∨ (some ⟨g, 0, none⟩, n, c) = b) (hi : i < n) : PI (wr.setCells g (i * 7) (bare x)) B a b nn gb := by
  have hty : ∃ cur fr, wr.heap[g]? = some (.cells cur 30 fr) := by
    rcases hc with rfl | rfl
    · obtain ⟨xs, h1, _⟩ := h.sa
      exact own_type h1 rfl
    · obtain ⟨xs, h1, _⟩ := h.sb
      exact own_type h1 rfl
  obtain ⟨cur, fr, hg⟩ := hty
  have hn : ∃ zs, (wr.setCells g (i * 7) (bare x)).ownsRow B 78 4 (slV nn) nn.2.1 zs := by
    obtain ⟨zs, h1⟩ := h.nt
    refine ⟨zs, own_setsNe _ _ h1 (fun e => ?_)⟩
    obtain ⟨_, _, t1⟩ := own_type h1 e
    exact type_ne t1 hg (by decide) rfl
  have hb : ∃ fr, (wr.setCells g (i * 7) (bare x)).heap[gb]? = some (.cells ⟨[slV a, slV b]⟩ 25 fr) := by
    obtain ⟨fr2, h1⟩ := h.bx
    exact ⟨fr2, (heap_sets (type_ne h1 hg (by decide)) _ _ _).trans h1⟩
  rcases hc with rfl | rfl
  · exact ⟨h.sa.card x hi, h.sb.other _ hg (by decide) (h.ap g rfl), h.ap, hn, hb⟩
  · exact ⟨h.sa.other _ hg (by decide) (fun e => h.ap g e rfl), h.sb.card x hi, h.ap, hn, hb⟩
end
end Go.Proofs.Ytjafddkkndfphaa.Kq
