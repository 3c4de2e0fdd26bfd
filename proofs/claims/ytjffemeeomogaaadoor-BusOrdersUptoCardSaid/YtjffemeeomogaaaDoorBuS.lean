/- Order of any list, as it stands in the law; the law's comparison. -/
import Derived.Test.YtjffemeeomogaaaDoorBuR
import Derived.Test.YtjffemeeomogaaaDoorBuP
namespace Go.Proofs.YtjffemeeomogaaaDoor.Bu
open Go.ChangeShapes Go.WideShapes Go.ChangeAt Go.RowKit Own Ro St

def Bad (l : List Int) : Prop := 4096 < l.length ∨ ∃ i, i < l.length ∧ ¬ plc (l.getD i 0)
def OrdV (down : Bool) (l Z : List Int) (er : Int) : Prop := (Bad l ∧ Z = [] ∧ er = 1) ∨ (¬ Bad l ∧ Fe (okey down) l Z ∧ Srt (okey down) Z ∧ Z.length = l.length ∧ er = 0)
theorem OrdV.same {down : Bool} {l Z Z' : List Int} {er er' : Int} (h : OrdV down l Z er) (g : OrdV down l Z' er') : Z' = Z ∧ er' = er := by
  rcases h with ⟨h0, rfl, rfl⟩ | ⟨h0, h1, h2, _, rfl⟩ <;> rcases g with ⟨g0, rfl, rfl⟩ | ⟨g0, g1, g2, _, rfl⟩
  · exact ⟨rfl, rfl⟩
  · exact absurd h0 g0
  · exact absurd g0 h0
  · exact ⟨(unique h1 g1 h2 g2).symm, rfl⟩
theorem OrdV.len {down : Bool} {l Z : List Int} {er : Int} (h : OrdV down l Z er) : Z.length ≤ 4096 := by
  rcases h with ⟨_, rfl, _⟩ | ⟨h0, _, _, h3, _⟩
  · simp
  · rw [h3]
    unfold Bad at h0
    omega
def OrdP (down : Bool) (l : List Int) (w : World) (e : Ending) (w' : World) : Prop := ∃ (A' : Option Addr) (c' : Nat) (Z : List Int) (er : Int), e = .returned (.tuple #[.slice A' Z.length c', .int .i64 er]) ∧ OrdV down l Z er ∧ w'.ownsRow w.heap.size 3 1 (.slice A' Z.length c') Z.length (ints Z) ∧ Below w.heap.size w w'
theorem good_of {l : List Int} (h : ¬ Bad l) : l.length ≤ 4096 ∧ ∀ i, i < l.length → plc (l.getD i 0) := by
  unfold Bad at h
  refine ⟨by omega, fun i hi => ?_⟩
  by_cases c : plc (l.getD i 0)
  · exact c
  · exact absurd (.inr ⟨i, hi, c⟩) h
theorem order_any (A : Option Addr) (c n : Nat) (l : List Int) (down : Bool) (w : World) (hT : Tb w) (hn : n = l.length) (hm : n ≤ 9223372036854775807) (hs : CellsIn w 1 A n (ints l)) : Calls Tryd.prog 39 #[.slice A n c, .bool down] w (OrdP down l w) := by
  subst hn
  by_cases hb : Bad l
  · refine (order_bad A c l.length l down w rfl hm hs hb).mono ?_
    rintro e w' ⟨rfl, rfl⟩
    exact ⟨none, 0, [], 1, rfl, .inl ⟨hb, rfl, rfl⟩, own_nilK _ _ _ _, Below.refl _ _⟩
  · obtain ⟨g1, g2⟩ := good_of hb
    refine (order_ok A c l.length l down w hT rfl g1 hs g2).mono ?_
    rintro e w' ⟨g, Z, rfl, _, h1, h2, h3, h4, h5⟩
    exact ⟨_, l.length, Z, 0, by rw [h3], .inr ⟨hb, h1, h2, h3, rfl⟩, by rw [h3]; exact h4, h5⟩
theorem refOrder_any (A : Option Addr) (c n : Nat) (l : List Int) (down : Bool) (w : World) (hn : n = l.length) (hm : n ≤ 9223372036854775807) (hs : CellsIn w 1 A n (ints l)) : Calls Tryd.prog 40 #[.slice A n c, .bool down] w (OrdP down l w) := by
  subst hn
  by_cases hb : Bad l
  · refine (refOrder_bad A c l.length l down w rfl hm hs hb).mono ?_
    rintro e w' ⟨rfl, rfl⟩
    exact ⟨none, 0, [], 1, rfl, .inl ⟨hb, rfl, rfl⟩, own_nilK _ _ _ _, Below.refl _ _⟩
  · obtain ⟨g1, g2⟩ := good_of hb
    refine (refOrder_ok A c l.length l down w rfl g1 hs g2).mono ?_
    rintro e w' ⟨A', c', Z, rfl, h1, h2, h3, h4, h5⟩
    exact ⟨A', c', Z, 0, by rw [h3], .inr ⟨hb, h1, h2, h3, rfl⟩, by rw [h3]; exact h4, h5⟩
set_option maxRecDepth 100000 in
set_option maxHeartbeats 8000000 in
theorem sameInts_any (A B : Option Addr) (c d n : Nat) (l : List Int) (w : World) (hn : n = l.length) (hm : n ≤ 9223372036854775807) (hA : CellsIn w 1 A n (ints l)) (hB : CellsIn w 1 B n (ints l)) :
    Calls Tryd.prog 41 #[.slice A n c, .slice B n d] w fun e w' => e = .returned (.bool true) ∧ ∃ q, w' = w.drewN q := by
  have GA := Lib.hid hA
  have GB := Lib.hid hB
  have HN := Lib.hid hn
  clear hA hB hn
  go_enter Tryd.func41, Tryd.ntmps41
  go_wp2_with fail
  go_loopw [5] (fun i wr => ∃ k : Nat, k ≤ n ∧ i = .int .i64 (k : Int) ∧ ∃ q, wr = w.drewN q) (fun i _ => n - (RowKit.intOf i).toNat)
  case atStart => exact ⟨0, Nat.zero_le _, rfl, 0, rfl⟩
  case round =>
    obtain ⟨k, hk, rfl, q, rfl⟩ := hrel
    by_cases hlt : k < n
    · have l1 : (0 : Int) ≤ (k : Int) := by omega
      have l2 : (k : Int) < (n : Int) := by omega
      obtain ⟨b, o, rfl, _, hc1⟩ := GA.out.at (by omega)
      obtain ⟨b2, o2, rfl, _, hc2⟩ := GB.out.at (by omega)
      have e1 := hc1 k _ (ints_at l k (by rw [← HN.out]; exact hlt))
      have e2 := hc2 k _ (ints_at l k (by rw [← HN.out]; exact hlt))
      generalize l.getD k 0 = x at e1 e2
      clear hc1 hc2
      go_wp2_with fail
      go_quiet (fail)
      go_wp2_with fail
      go_roundw
      case rel => exact ⟨k + 1, by omega, by go_num, ⟨_, rfl⟩⟩
      case measure => simp [RowKit.intOf]; omega
    · have HK := Lib.hid (show k = n by omega)
      have zk : ¬ (k : Int) < (n : Int) := by omega
      go_wp2_with fail
      go_ret
      exact ⟨rfl, ⟨_, rfl⟩⟩
end Go.Proofs.YtjffemeeomogaaaDoor.Bu
