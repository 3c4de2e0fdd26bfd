/- The contracts of the law's own comparisons, thirties, sixties and texts, where the two lists are the same. -/
import Derived.Test.YtfafhkhamaccfaaClA
import Derived.Test.YtfafhkhamaccfaaOwn
import Derived.Deep.QuietTactic
import Derived.BigQuiet
namespace Go.Proofs.Ytfafhkhamaccfaa.Cl
open Go.ChangeShapes Go.WideShapes Go.ChangeAt Go.RowKit Own

def Drawn (w w' : World) : Prop := ∃ n, w' = w.drewN n
theorem Drawn.refl (w : World) : Drawn w w := ⟨0, rfl⟩
theorem add_none (b off j : Nat) : (⟨b, off, none⟩ : Addr).add j = ⟨b, off + j, none⟩ := by
  unfold Addr.add
  split
  · rename_i e; subst e; rfl
  · rfl
/-- A cell of a slice that holds something. -/
theorem src_get {w : World} {A : Option Addr} {m c : Nat} {xs : List Value} (h : Src w A m c xs) (hm : 0 < m) : ∃ b off, A = some ⟨b, off, none⟩ ∧ b < w.heap.size ∧ ∀ i u, xs[i]? = some u → w.cell? ⟨b, off + i, none⟩ = some u := by
  rcases h with ⟨_, rfl, _⟩ | ⟨ad, rfl, hl, hc⟩
  · omega
  · obtain ⟨b, off, spot⟩ := ad
    have h0 : 0 < xs.length := by omega
    have h1 := hc 0 _ (List.getElem?_eq_getElem h0)
    have hs : spot = none := by simpa [Addr.add] using World.cell?_spot h1
    subst hs
    refine ⟨b, off, rfl, ?_, fun i u hu => ?_⟩
    · have := cell_lt h1
      rw [add_none] at this
      exact this
    · have := hc i u hu
      rw [add_none] at this
      exact this
def nats (k : IntKind) (xs : List Nat) : List Value := xs.map fun (x : Nat) => .int k (x : Int)
theorem nats_len (k : IntKind) (xs : List Nat) : (nats k xs).length = xs.length := by simp [nats]
theorem nats_at (k : IntKind) (xs : List Nat) (i : Nat) (h : i < xs.length) : (nats k xs)[i]? = some (.int k ((xs.getD i 0 : Nat) : Int)) := by
  unfold nats
  rw [List.getElem?_map, List.getElem?_eq_getElem h, List.getD_eq_getElem?_getD, List.getElem?_eq_getElem h]
  rfl
theorem nats_one (k : IntKind) (xs : List Nat) : ∀ u ∈ nats k xs, u.oneCell' = true := by
  intro u hu
  obtain ⟨x, _, rfl⟩ := List.mem_map.1 hu
  rfl
def strs (xs : List ByteArray) : List Value := xs.map Value.string
theorem strs_len (xs : List ByteArray) : (strs xs).length = xs.length := by simp [strs]
theorem strs_at (xs : List ByteArray) (i : Nat) (h : i < xs.length) : (strs xs)[i]? = some (.string (xs.getD i ByteArray.empty)) := by
  unfold strs
  rw [List.getElem?_map, List.getElem?_eq_getElem h, List.getD_eq_getElem?_getD, List.getElem?_eq_getElem h]
  rfl
theorem strs_one (xs : List ByteArray) : ∀ u ∈ strs xs, u.oneCell' = true := by
  intro u hu
  obtain ⟨x, _, rfl⟩ := List.mem_map.1 hu
  rfl

end Go.Proofs.Ytfafhkhamaccfaa.Cl
