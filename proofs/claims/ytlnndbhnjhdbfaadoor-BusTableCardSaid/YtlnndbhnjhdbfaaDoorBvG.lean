/- The law BusTable: two lists of numbers that are the same; what stands of the first list of cards. -/
import Derived.Test.YtlnndbhnjhdbfaaDoorBvF
import Derived.Test.YtlnndbhnjhdbfaaDoorBuC
namespace Go.Proofs.YtlnndbhnjhdbfaaDoor.Kc
open Go.ChangeShapes Go.WideShapes Go.ChangeAt Go.RowKit Own Ro

theorem i64_at (l : List Int) (k : Nat) (h : k < l.length) : (l.map (Value.int .i64))[k]? = some (.int .i64 (l.getD k 0)) := by
  rw [List.getElem?_map, List.getElem?_eq_getElem h, List.getD_eq_getElem?_getD, List.getElem?_eq_getElem h]
  rfl
set_option maxRecDepth 100000 in
set_option maxHeartbeats 8000000 in
theorem same64_any (A B : Option Addr) (c d n : Nat) (l : List Int) (w : World) (hn : n = l.length) (hm : n ≤ 9223372036854775807) (hA : CellsIn w 1 A n (l.map (.int .i64))) (hB : CellsIn w 1 B n (l.map (.int .i64))) :
    Calls Tryd.prog 15 #[.slice A n c, .slice B n d] w fun e w' => e = .returned (.bool true) ∧ ∃ q, w' = w.drewN q := by
  have GA := Lib.hid hA
  have GB := Lib.hid hB
  have HN := Lib.hid hn
  clear hA hB hn
  go_enter Tryd.func15, Tryd.ntmps15
  go_wp2_with fail
  go_loopw [5] (fun i wr => ∃ k : Nat, k ≤ n ∧ i = .int .i64 (k : Int) ∧ ∃ q, wr = w.drewN q) (fun i _ => n - (RowKit.intOf i).toNat)
  case atStart => exact ⟨0, Nat.zero_le _, rfl, 0, rfl⟩
  case round =>
    obtain ⟨k, hk, rfl, q, rfl⟩ := hrel
    by_cases hlt : k < n
    · have l1 : (0 : Int) ≤ (k : Int) := by omega
      have l2 : (k : Int) < (n : Int) := by omega
      obtain ⟨b, o, rfl, _, hc1⟩ := GA.out.at (by omega)
      obtain ⟨b2, o2, rfl, _, hc2⟩ := GB.out.at (by omega)
      have e1 := hc1 k _ (i64_at l k (by rw [← HN.out]; exact hlt))
      have e2 := hc2 k _ (i64_at l k (by rw [← HN.out]; exact hlt))
      generalize l.getD k 0 = x at e1 e2
      clear hc1 hc2
      go_wp2_with fail
      go_quiet (fail)
      go_wp2_with fail
      go_roundw
      case rel => exact ⟨k + 1, by omega, by go_num, ⟨_, rfl⟩⟩
      case measure => simp [RowKit.intOf]; omega
    · have HK := Lib.hid (show k = n by omega)
      have zk : ¬ (k : Int) < (n : Int) := by omega
      go_wp2_with fail
      go_ret
      exact ⟨rfl, ⟨_, rfl⟩⟩
/-- The first list, from place i on, in a world of the law. -/
def Top (lo ga : Nat) (xs : List Value) (wr : World) : Prop := wr.ownsRow lo 29 7 (.slice (some ⟨ga, 0, none⟩) 5 5) 5 xs
def Inn (lo i : Nat) (R : List Sl) (wr : World) : Prop := ∀ j, i ≤ j → j < 5 → wr.ownsRow lo 9 1 (rowV R j) (R.getD j sl0).2.1 (strs (FL.getD j cd0).compat)
/-- What holds of where the first list lies. -/
structure Apart (lo hi ga : Nat) (R : List Sl) : Prop where
  ga1 : lo ≤ ga
  ga2 : ga < hi
  len : R.length = 5
  n : ∀ j, j < 5 → (R.getD j sl0).2.1 = (FL.getD j cd0).compat.length
  inn : ∀ j, j < 5 → ∀ g, (rowV R j).ownBlock = some g → lo ≤ g ∧ g < hi ∧ g ≠ ga
  diff : ∀ i j, i < 5 → j < 5 → i ≠ j → ∀ g, (rowV R i).ownBlock = some g → (rowV R j).ownBlock ≠ some g
theorem keep_row {w w' : World} {E : TypeId} {k b n : Nat} {v : Value} {xs : List Value} {row : Option Nat} (ho : w.ownsRow b E k v n xs) (hg : w.grownBy w' row) (hne : ∀ g, v.ownBlock = some g → row ≠ some g) : w'.ownsRow b E k v n xs := by
  refine ho.kept hg ?_
  cases h : v.ownBlock with
  | none => exact .inl rfl
  | some g => exact .inr fun e => hne g h e.symm
theorem mild_drop {M : Nat} {L : List Cd} (h : MildL M L) (i : Nat) : MildL M (L.drop i) := by
  refine ⟨by have := h.1; simp; omega, fun k => ?_⟩
  rw [List.getD_eq_getElem?_getD, List.getElem?_drop, ← List.getD_eq_getElem?_getD]
  exact h.2 _
theorem rin_if {w : World} {n m i a : Nat} {b : Nat} {L : List Cd} {R : List Sl} (h : Ro.RowsIn KC w (some ⟨b, a, none⟩) n L R) (hm : m = n) (hi : i = 4 → n = 0) : Ro.RowsIn KC w (if i = 4 then some ⟨b, 0, none⟩ else some ⟨b, a, none⟩) m L R := by
  subst hm
  split
  · rename_i h4
    obtain ⟨h1, h2, h3, h5⟩ := h
    exact ⟨h1, h2, ⟨h3.1, .inl (hi h4)⟩, h5⟩
  · exact h
theorem FLc : ∀ i < 5, (FL.getD i cd0).compat.length ≤ 1000000 := by decide
theorem apart_of {w1 w2 : World} {ga : Nat} {R : List Sl} (h : RowsOwn KC w2 w1.heap.size (some ⟨ga, 0, none⟩) 5 5 FL R) : Apart w1.heap.size w2.heap.size ga R := by
  have hl : R.length = 5 := h.2.2.1
  refine ⟨(h.2.1.lt ga rfl).1, (h.2.1.lt ga rfl).2, hl, fun j hj => (h.2.2.2.1 j (by omega)).1, fun j hj g hg => ?_, fun i j hi hj hne g hg => ?_⟩
  · refine ⟨((h.2.2.2.1 j (by omega)).2.lt g hg).1, ((h.2.2.2.1 j (by omega)).2.lt g hg).2, fun e => ?_⟩
    rcases h.apart j (by omega) with h1 | h1
    · rw [hg] at h1; cases h1
    · exact h1 (by rw [hg, e]; rfl)
  · rcases h.2.2.2.2 i j (by omega) (by omega) hne with h1 | h1
    · rw [hg] at h1; cases h1
    · rw [hg] at h1; exact fun e => h1 e.symm
end Go.Proofs.YtlnndbhnjhdbfaaDoor.Kc
