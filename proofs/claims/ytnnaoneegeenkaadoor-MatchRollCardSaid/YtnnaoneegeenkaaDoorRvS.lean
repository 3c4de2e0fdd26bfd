/- What is asked of the roll, and the document's answers: the law RollAsks. -/
import Derived.Test.YtnnaoneegeenkaaDoorRvN
namespace Go.Proofs.YtnnaoneegeenkaaDoor.Kq
open Go.ChangeShapes Go.WideShapes Go.ChangeAt Go.RowKit Own Ro wordsNames Kc
open Ka (i64s i64s_len i64s_at)
open Rm (Fams T5 table_ok table_none)

set_option maxRecDepth 100000 in
set_option maxHeartbeats 8000000 in
theorem same64_any (A B : Option Addr) (c d n : Nat) (l : List Int) (w : World) (hn : n = l.length) (hm : n ≤ 9223372036854775807) (hA : CellsIn w 1 A n (i64s l)) (hB : CellsIn w 1 B n (i64s l)) :
    Calls Tryd.prog 33 #[.slice A n c, .slice B n d] w fun e w' => e = .returned (.bool true) ∧ Below w.heap.size w w' := by
  have GA := Lib.hid hA
  have GB := Lib.hid hB
  have HN := Lib.hid hn
  clear hA hB hn
  go_enter Tryd.func33, Tryd.ntmps33
  go_wp2_with fail
  go_loopw [5] (fun i wr => ∃ k : Nat, k ≤ n ∧ i = .int .i64 (k : Int) ∧ ∃ q, wr = w.drewN q) (fun i _ => n - (RowKit.intOf i).toNat)
  case atStart => exact ⟨0, Nat.zero_le _, rfl, 0, rfl⟩
  case round =>
    obtain ⟨k, hk, rfl, q, rfl⟩ := hrel
    by_cases hlt : k < n
    · have l1 : (0 : Int) ≤ (k : Int) := by omega
      have l2 : (k : Int) < (n : Int) := by omega
      obtain ⟨b, o, rfl, _, hc1⟩ := GA.out.at (by omega)
      obtain ⟨b2, o2, rfl, _, hc2⟩ := GB.out.at (by omega)
      have e1 := hc1 k _ (i64s_at l k (by rw [← HN.out]; exact hlt))
      have e2 := hc2 k _ (i64s_at l k (by rw [← HN.out]; exact hlt))
      generalize l.getD k 0 = x at e1 e2
      clear hc1 hc2
      go_wp2_with fail
      go_quiet (fail)
      go_wp2_with fail
      go_roundw
      case rel => exact ⟨k + 1, by omega, by go_num, ⟨_, rfl⟩⟩
      case measure => simp [RowKit.intOf]; omega
    · have HK := Lib.hid (show k = n by omega)
      have zk : ¬ (k : Int) < (n : Int) := by omega
      go_wp2_with fail
      go_ret
      exact ⟨rfl, below_dr (Below.refl _ _) q⟩
theorem found_one {nm : List UInt8} {d d' : Cd} {er er' : Int} (h : FindRel nm d er) (h' : FindRel nm d' er') : d = d' ∧ er = er' := by
  rcases h with ⟨m, n, rfl⟩ | ⟨m, rfl, rfl⟩ <;> rcases h' with ⟨m', n', rfl⟩ | ⟨m', rfl, rfl⟩
  · obtain ⟨i, hi, rfl⟩ := SL_at m
    obtain ⟨j, hj, rfl⟩ := SL_at m'
    obtain rfl := SLd i hi j hj (n.trans n'.symm)
    exact ⟨rfl, rfl⟩
  · exact absurd n (m' d m)
  · exact absurd n' (m d' m')
  · exact ⟨rfl, rfl⟩
theorem mild_big {d : Cd} (h : MildC 63 d) : MildC 1099511627776 d := ⟨Nat.le_trans h.1 (by decide), Nat.le_trans h.2.1 (by decide), Nat.le_trans h.2.2.1 (by decide), Nat.le_trans h.2.2.2.1 (by decide), fun k => Nat.le_trans (h.2.2.2.2 k) (by decide)⟩
theorem mild_found {nm : List UInt8} {d : Cd} {er : Int} (h : FindRel nm d er) : MildC 1099511627776 d := by
  rcases h with ⟨m, _, _⟩ | ⟨_, rfl, _⟩
  · obtain ⟨i, hi, rfl⟩ := SL_at m
    exact mild_big (mild_SL i)
  · exact mild_zero _
theorem mild_of (nm : List UInt8) : MildL 1099511627776 (ofL nm) := by
  have h22 : (ofL nm).length ≤ 22 := by
    unfold ofL
    split
    · simp only [pkL, List.length_map]; exact ofJ_le nm 22
    · exact Nat.zero_le _
  refine ⟨Nat.le_trans h22 (by decide), fun k => ?_⟩
  by_cases hk : k < (ofL nm).length
  · have e : (ofL nm).getD k cd0 = SL.getD ((ofJ nm 22).getD k 0) cd0 := by
      unfold ofL at hk ⊢
      split at hk
      · next h => rw [if_pos h]; exact pkL_at _ _ _ (by simpa [pkL] using hk)
      · exact absurd hk (Nat.not_lt_zero k)
    rw [e]
    exact mild_big (mild_SL _)
  · rw [List.getD_eq_getElem?_getD, List.getElem?_eq_none (by omega)]
    exact mild_zero _
/-- A card in a box. -/
def BoxC (bx : Nat) (d : Cd) (r : Sl) (W : World) : Prop := bx < W.heap.size ∧ ∀ j u, (cells7 d r)[j]? = some u → W.cell? ⟨bx, j, none⟩ = some u
theorem boxC_new (w : World) (d : Cd) (r : Sl) : BoxC w.heap.size d r (w.alloc (.cells (cells7 d r) 30)) := ⟨by simp, fun j u hu => by
  rw [World.cell?_alloc_at _ _ _ _ rfl]
  exact hu⟩
theorem BoxC.below {bx : Nat} {d : Cd} {r : Sl} {W W' : World} (h : BoxC bx d r W) (hb : Below W.heap.size W W') : BoxC bx d r W' := ⟨Nat.lt_of_lt_of_le h.1 hb.size, fun j u hu => (hb.cell (p := ⟨bx, j, none⟩) h.1).trans (h.2 j u hu)⟩
def TablePost (nm : List UInt8) (w : World) (e : Ending) (w' : World) : Prop := ∃ A c, e = .returned (.tuple #[.slice A (lookT (tabsI 5) nm).length c, .int .i64 (if lookT (tabsI 5) nm = [] then 6 else 0)]) ∧ CellsIn w' 1 A (lookT (tabsI 5) nm).length (i64s (lookT (tabsI 5) nm)) ∧ Below w.heap.size w w'
theorem rTable_any (nm : List UInt8) (w : World) (h : T5 w) (hs : nm.length ≤ maxLen) : Calls Tryd.prog 12 #[.string (str nm)] w (TablePost nm w) := by
  by_cases hm : nm ∈ Fams
  · obtain ⟨f, n, T, hf, hn⟩ := fam_found nm hm
    have h1 : nm.length ≤ 1000 := by
      have : ∀ x ∈ Fams, x.length ≤ 1000 := by decide
      exact this nm hm
    refine (table_ok hf w h h1).mono ?_
    rintro e w' ⟨g, rfl, hg, hh, hb⟩
    refine ⟨some ⟨g, 0, none⟩, n, ?_, ⟨by rw [i64s_len]; omega, .inr ⟨g, 0, rfl, (Array.getElem?_eq_some_iff.1 hh).1, fun j u hu => ?_⟩⟩, hb⟩
    · rw [if_neg (fun h => (look_fams nm).1 h hm), ← hn]
    · rw [Nat.zero_add, Lib.cell_of_heap hh j, List.getElem?_toArray]
      exact hu
  · refine (table_none nm w hm hs).mono ?_
    rintro e w' ⟨rfl, hb⟩
    have h0 := (look_fams nm).2 hm
    refine ⟨none, 0, by rw [if_pos h0, h0]; rfl, ⟨?_, .inl ?_⟩, hb⟩
    · rw [h0]; rfl
    · rw [h0]; rfl
end Go.Proofs.YtnnaoneegeenkaaDoor.Kq
