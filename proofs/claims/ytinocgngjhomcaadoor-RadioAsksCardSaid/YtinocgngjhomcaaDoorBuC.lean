/- The document's array of the third family, whole; where windows begin, which a place is in, slots (P10.1). -/
import Derived.Test.YtinocgngjhomcaaDoorBuB
import Derived.Deep.RegionLaw
namespace Go.Proofs.YtinocgngjhomcaaDoor.Bu
open Go.ChangeShapes Go.WideShapes Go.ChangeAt Go.RowKit Own Ro

def firstV : List Value := (firsts mk 20).set 0 (.int .i64 271672320)
theorem nums_tab : firstV.set 19 (.int .i64 411830640) = tabV := by rfl
set_option maxRecDepth 100000 in
set_option maxHeartbeats 8000000 in
theorem first_any (w : World) : Calls Tryd.prog 52 #[] w (fun e w' => ∃ g c, e = .returned (.slice (some ⟨g, 0, none⟩) 20 c) ∧ w'.ownsRow w.heap.size 2 1 (.slice (some ⟨g, 0, none⟩) 20 c) 20 firstV ∧ Below w.heap.size w w') := by
  have HM := Lib.hid (made_any w)
  go_enter Tryd.func52, Tryd.ntmps52
  go_wp2_with fail
  refine HM.out.mono ?_
  rintro e w2 ⟨A, c, rfl, h1, h2⟩
  obtain ⟨g, rfl, hg1, hg2⟩ := own_shapeK h1 (by omega)
  have O := Lib.hid h1
  have B := Lib.hid h2
  have c0 : w2.cell? ⟨g, 0, none⟩ = some (.int .i64 271668224) := by rw [h1.cellAt 0 (by omega)]; rfl
  have f0 : w2.frozen? ⟨g, 0, none⟩ = false := h1.frozenAt 0
  clear h1 h2 HM
  go_wp2_with fail
  go_ret
  exact ⟨g, c, rfl, (O.out.stored 0 _).1, B.out.setCell (p := ⟨g, 0, none⟩) hg1 _⟩
set_option maxRecDepth 100000 in
set_option maxHeartbeats 8000000 in
theorem nums_any (w : World) : Calls Tryd.prog 45 #[] w (fun e w' => ∃ g c, e = .returned (.slice (some ⟨g, 0, none⟩) 20 c) ∧ w.heap.size ≤ g ∧ w'.ownsRow w.heap.size 2 1 (.slice (some ⟨g, 0, none⟩) 20 c) 20 tabV ∧ Below w.heap.size w w') := by
  have HM := Lib.hid (first_any w)
  have HE := Lib.hid (fun V => entry08_any 19 V (by omega) (by omega))
  rw [show e08 19 = 20000000 from rfl] at HE
  go_enter Tryd.func45, Tryd.ntmps45
  go_wp2_with fail
  refine HM.out.mono ?_
  rintro e w2 ⟨g, c, rfl, h1, h2⟩
  obtain ⟨_, hgg, hg1, hg2⟩ := own_shapeK h1 (by omega)
  injection hgg with hgg
  injection hgg with hgg
  subst hgg
  have O := Lib.hid h1
  have B := Lib.hid h2
  have c0 : w2.cell? ⟨g, 19, none⟩ = some (.int .i64 371830640) := by rw [h1.cellAt 19 (by omega)]; rfl
  have f0 : w2.frozen? ⟨g, 19, none⟩ = false := h1.frozenAt 19
  clear h1 h2 HM
  go_wp2_with fail
  go_region_law (first | (go_simp; go_at_call 53; refine (HE.out _).mono ?_; rintro e w9 ⟨rfl, rfl⟩))
  all_goals
    have ws : IntKind.i64.wrap (371830640 + IntKind.i64.wrap 40000000) = 411830640 := by decide
    rw [ws]
    go_wp2_with fail
    go_ret
    exact ⟨g, c, rfl, hg1, by rw [← nums_tab]; exact (O.out.stored 19 _).1.drew, below_dr (B.out.setCell (p := ⟨g, 19, none⟩) hg1 _) 1⟩
/-- What Begin answers. -/
def begV (i : Int) : Int × Int := if 0 ≤ i ∧ i < 20 then (ent i, 0) else (0, 1)
end Go.Proofs.YtinocgngjhomcaaDoor.Bu
