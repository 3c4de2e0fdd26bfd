/- The plan's reads and init functions against the document's. -/
import Derived.Test.YtnnaoneegeenkaaDoorRpC
namespace Go.Proofs.YtnnaoneegeenkaaDoor.Rp
open Go.ChangeShapes Go.WideShapes Go.ChangeAt Go.RowKit Own Ro Kc
open Kq (Tx Fm rdV rdV_at famRow)

/-- The reads of a plan. -/
def rd3 (l : List (Tx × Int)) : List Value := l.flatMap fun r => [.string (str r.1), .string tableS, .int .i64 r.2]
theorem rd3_at (l : List (Tx × Int)) (j : Nat) (h : j < l.length) : (rd3 l)[j * 3 + 0]? = some (.string (str (l.getD j ([], 0)).1)) ∧ (rd3 l)[j * 3 + 1]? = some (.string tableS) ∧ (rd3 l)[j * 3 + 2]? = some (.int .i64 (l.getD j ([], 0)).2) := by
  unfold rd3
  rw [flat_at (fun r : Tx × Int => [Value.string (str r.1), .string tableS, .int .i64 r.2]) 3 (fun _ => rfl) l j 0 (by omega), flat_at (fun r : Tx × Int => [Value.string (str r.1), .string tableS, .int .i64 r.2]) 3 (fun _ => rfl) l j 1 (by omega), flat_at (fun r : Tx × Int => [Value.string (str r.1), .string tableS, .int .i64 r.2]) 3 (fun _ => rfl) l j 2 (by omega), some_at l ([], 0) j h]
  exact ⟨rfl, rfl, rfl⟩
set_option maxRecDepth 100000 in
set_option maxHeartbeats 8000000 in
theorem sameReads_any (A B : Option Addr) (c d n : Nat) (l : List (Tx × Int)) (w : World) (hn : n = l.length) (hm : n ≤ 100) (hA : CellsIn w 3 A n (rd3 l)) (hB : CellsIn w 2 B n (rdV l)) :
    Calls Tryd.prog 29 #[.slice A n c, .slice B n d] w fun e w' => e = .returned (.bool true) ∧ Below w.heap.size w w' := by
  have GA := Lib.hid hA
  have GB := Lib.hid hB
  have HN := Lib.hid hn
  have qt : (tableS.toList == tableS.toList) = true := by simp
  clear hA hB hn
  go_enter Tryd.func29, Tryd.ntmps29
  go_wp2_with fail
  go_loopw [5] (fun i wr => ∃ k : Nat, k ≤ n ∧ i = .int .i64 (k : Int) ∧ ∃ q, wr = w.drewN q) (fun i _ => n - (RowKit.intOf i).toNat)
  case atStart => exact ⟨0, Nat.zero_le _, rfl, 0, rfl⟩
  case round =>
    obtain ⟨k, hk, rfl, q, rfl⟩ := hrel
    by_cases hlt : k < n
    · have l1 : (0 : Int) ≤ (k : Int) := by omega
      have l2 : (k : Int) < (n : Int) := by omega
      obtain ⟨b, o, rfl, _, hc1⟩ := GA.out.at (by omega)
      obtain ⟨b2, o2, rfl, _, hc2⟩ := GB.out.at (by omega)
      have h3 := rd3_at l k (by rw [← HN.out]; exact hlt)
      have h2 := rdV_at l k (by rw [← HN.out]; exact hlt)
      have e0 : w.cell? ⟨b, o + k * 3, none⟩ = some (.string (str (l.getD k ([], 0)).1)) := hc1 _ _ h3.1
      have e1 : w.cell? ⟨b, o + k * 3 + 1, none⟩ = some (.string tableS) := hc1 _ _ h3.2.1
      have e2 : w.cell? ⟨b, o + k * 3 + 2, none⟩ = some (.int .i64 (l.getD k ([], 0)).2) := hc1 _ _ h3.2.2
      have f0 : w.cell? ⟨b2, o2 + k * 2, none⟩ = some (.string (str (l.getD k ([], 0)).1)) := hc2 _ _ h2.1
      have f1 : w.cell? ⟨b2, o2 + k * 2 + 1, none⟩ = some (.int .i64 (l.getD k ([], 0)).2) := hc2 _ _ h2.2
      generalize str (l.getD k ([], 0)).1 = x at e0 f0
      generalize (l.getD k ([], 0)).2 = y at e2 f1
      clear hc1 hc2 h3 h2
      go_wp2_with fail
      go_quiet (fail)
      go_wp2_with fail
      go_roundw
      case rel => exact ⟨k + 1, by omega, by go_num, ⟨_, rfl⟩⟩
      case measure => simp [RowKit.intOf]; omega
    · have HK := Lib.hid (show k = n by omega)
      have zk : ¬ (k : Int) < (n : Int) := by omega
      go_wp2_with fail
      go_ret
      exact ⟨rfl, below_dr (Below.refl _ _) q⟩
end Go.Proofs.YtnnaoneegeenkaaDoor.Rp
