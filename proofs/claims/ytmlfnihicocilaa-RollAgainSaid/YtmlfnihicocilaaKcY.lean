/- Lists of cards copied and compared: Twins, SameAll, sameCards. -/
import Derived.Test.YtmlfnihicocilaaKcX
namespace Go.Proofs.Ytmlfnihicocilaa.Kc
open Go.ChangeShapes Go.WideShapes Go.ChangeAt Go.RowKit Own Ro wordsNames

theorem info_card : (Try.prog.info? 34).map (fun i => (i.zero, i.size, i.bytes)) = some (some (.agg #[.string ⟨#[]⟩, .string ⟨#[]⟩, .int .u8 0, .slice none 0 0, .int .i8 0, .string ⟨#[]⟩, .int .i16 0]), 7, 96) := by kernel_rfl
theorem src_new7 (w : World) (xs : Array Value) (t : TypeId) {g : Nat} (hg : g = w.heap.size) (h7 : xs.size = 7) : SrcK 7 (w.alloc (.cells xs t)) (some ⟨g, 0, none⟩) 1 1 xs.toList := by
  subst hg
  exact .inr ⟨_, rfl, by simp [h7], fun j u hu => by
    rw [Ro.add_plain, Lib.cell_of_heap (heap_alloc_new w _), Nat.zero_add]
    simpa using hu⟩
/-- Cards in memory of the call's own. -/
def MadeL (L : List Cd) (w : World) (e : Ending) (w' : World) : Prop :=
  ∃ A c n R, e = .returned (.slice A n c) ∧ Ro.RowsOwn KC w' w.heap.size A n c L R ∧ Below w.heap.size w w'
theorem cards_eq (L L2 : List Cd) (h : L.length = L2.length) : L = L2 ↔ ∀ i, i < L.length → L.getD i cd0 = L2.getD i cd0 := by
  constructor
  · rintro rfl i _
    rfl
  · exact fun h2 => list_ext cd0 h h2
end Go.Proofs.Ytmlfnihicocilaa.Kc
