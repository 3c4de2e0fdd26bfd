/- The document's answers: the cards, an array, a card by its name. -/
import Derived.Test.YtnnaoneegeenkaaDoorRvG
import Derived.Test.YtnnaoneegeenkaaDoorRlR
namespace Go.Proofs.YtnnaoneegeenkaaDoor.Kq
open Go.ChangeShapes Go.WideShapes Go.ChangeAt Go.RowKit Own Ro wordsNames Kc
open Ka (i64s i64s_len i64s_at)

def CardsPost (w : World) (e : Ending) (w' : World) : Prop := ∃ A c R, e = .returned (.slice A 22 c) ∧ RowsOwn KC w' 0 A 22 c SL R ∧ Below w.heap.size w w'
set_option maxRecDepth 100000 in
set_option maxHeartbeats 8000000 in
theorem refCards_any (w : World) : Calls Tryd.prog 58 #[] w (CardsPost w) := by
  have HS := Lib.hid (refStands_any w)
  go_enter Tryd.func58, Tryd.ntmps58
  go_wp2_with fail
  refine HS.out.mono ?_
  rintro e w1 ⟨rfl, hb, c, f, tb, RC, RF, RT, hq, _, _⟩
  have hn : c.2.1 = 22 := by rw [hq.cl.1, SL_len]
  obtain ⟨ca, cn, cc⟩ := c
  obtain rfl : cn = 22 := hn
  have HF : Hid (CardsPost w (.returned (.slice ca 22 cc)) w1) := Lib.hid ⟨ca, cc, RC, rfl, hq.cl, hb⟩
  have c0 := hq.cell (j := 0) rfl
  simp only [slV] at c0
  clear hq hb HS
  go_wp2_with fail
  go_ret
  exact HF.out
def NumsPost (nm : List UInt8) (w : World) (e : Ending) (w' : World) : Prop := ∃ r : Sl, e = .returned (.tuple #[slV r, .int .i64 (if lookT (tabsI 5) nm = [] then 6 else 0)]) ∧ r.2.1 = (lookT (tabsI 5) nm).length ∧ CellsIn w' 1 r.1 r.2.1 (i64s (lookT (tabsI 5) nm)) ∧ Below w.heap.size w w'
def RFindPost (nm : List UInt8) (w : World) (e : Ending) (w' : World) : Prop :=
  ∃ d r er, e = .returned (.tuple #[cardV d r, .int .i64 er]) ∧ FindRel nm d er ∧ r.2.1 = d.compat.length ∧ w'.ownsRow 0 9 1 (slV r) r.2.1 (strs d.compat) ∧ Below w.heap.size w w'
end Go.Proofs.YtnnaoneegeenkaaDoor.Kq
