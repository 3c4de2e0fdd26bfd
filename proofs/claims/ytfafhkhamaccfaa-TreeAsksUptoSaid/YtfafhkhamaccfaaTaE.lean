/- End: the program's, the document's. -/
import Derived.Test.YtfafhkhamaccfaaTaD
namespace Go.Proofs.Ytfafhkhamaccfaa.Tr
open Go.ChangeShapes Go.WideShapes Go.ChangeAt Go.RowKit Own wordsNames

/-- What End says. -/
def EndV (L : List Nd) (i er z : Int) : Prop := (er ≠ 0 ∧ z = 0) ∨ (er = 0 ∧ ∃ e : Nat, z = (e : Int) ∧ EndAt L L.length i.toNat e)
theorem endV_one {L : List Nd} {i er z z' : Int} (h : EndV L i er z) (h' : EndV L i er z') : z = z' := by
  rcases h with ⟨h1, h2⟩ | ⟨h1, e, h2, h3⟩ <;> rcases h' with ⟨g1, g2⟩ | ⟨g1, e', g2, g3⟩
  · omega
  · exact absurd g1 h1
  · exact absurd h1 g1
  · have := end_one h3 g3
    omega
set_option maxHeartbeats 2000000 in
theorem refEnd_any (A : Option Addr) (c n : Nat) (L : List Nd) (R : List Sl) (i er : Int) (w : World) (hp : Pl L i er) (hm : Mild L) (hA : NodesIn w A n L R) :
    Calls Try.prog 12 #[.slice A n c, .int .i64 i] w fun e w' => ∃ z, e = .returned (.tuple #[.int .i64 z, .int .i64 er]) ∧ EndV L i er z ∧ Below w.heap.size w w' := by
  have HW := Lib.hid (wrong_any A c n L R i er w hp hm hA)
  rcases pl_err hp with rfl | rfl | ⟨rfl, h1, h2, hb⟩
  · clear hp hm hA
    go_enter Try.func12, Try.ntmps12
    go_wp2_with fail
    refine HW.out.mono ?_
    rintro e w2 ⟨rfl, hb⟩
    go_wp2_with fail
    go_ret2
    exact ⟨0, rfl, .inl ⟨by omega, rfl⟩, hb⟩
  · clear hp hm hA
    go_enter Try.func12, Try.ntmps12
    go_wp2_with fail
    refine HW.out.mono ?_
    rintro e w2 ⟨rfl, hb⟩
    go_wp2_with fail
    go_ret2
    exact ⟨0, rfl, .inl ⟨by omega, rfl⟩, hb⟩
  · obtain ⟨j, rfl⟩ : ∃ j : Nat, i = (j : Int) := ⟨i.toNat, by omega⟩
    have hn := hA.1
    subst hn
    have hnb : L.length ≤ 16777216 := hm.1
    have HA := Lib.hid fun (W : World) (hW : Below w.heap.size w W) => refEndOf_any A c L.length j L R W (by omega) hnb hb (hA.below hW)
    clear hp hm hA hb h1 h2
    go_enter Try.func12, Try.ntmps12
    go_wp2_with fail
    refine HW.out.mono ?_
    rintro e w2 ⟨rfl, hb⟩
    have HB := Lib.hid hb
    clear hb
    go_wp2_with fail
    refine (HA.out _ HB.out).mono ?_
    rintro e w3 ⟨z, rfl, hz, hb3⟩
    have HB3 := Lib.hid (bt HB.out hb3)
    have HZ := Lib.hid hz
    clear hz hb3
    go_wp2_with fail
    go_ret2
    exact ⟨_, rfl, .inr ⟨rfl, z, rfl, HZ.out⟩, HB3.out⟩
set_option maxHeartbeats 2000000 in
theorem tEnd_any (A : Option Addr) (c n : Nat) (L : List Nd) (R : List Sl) (i er : Int) (w : World) (hp : Pl L i er) (hm : Mild L) (hw : Wf L) (hcp : Caps R) (hA : NodesIn w A n L R) :
    Calls Try.prog 11 #[.slice A n c, .int .i64 i] w fun e w' => ∃ z, e = .returned (.tuple #[.int .i64 z, .int .i64 er]) ∧ EndV L i er z ∧ Below w.heap.size w w' := by
  have HP := Lib.hid (place_any A c n L R i er w hp hm hw hcp hA)
  rcases pl_err hp with rfl | rfl | ⟨rfl, h1, h2, hb⟩
  · clear hp hm hA hw hcp
    go_enter Try.func11, Try.ntmps11
    go_wp2_with fail
    refine HP.out.mono ?_
    rintro e w2 ⟨rfl, hb⟩
    go_wp2_with fail
    go_ret2
    exact ⟨0, rfl, .inl ⟨by omega, rfl⟩, hb⟩
  · clear hp hm hA hw hcp
    go_enter Try.func11, Try.ntmps11
    go_wp2_with fail
    refine HP.out.mono ?_
    rintro e w2 ⟨rfl, hb⟩
    go_wp2_with fail
    go_ret2
    exact ⟨0, rfl, .inl ⟨by omega, rfl⟩, hb⟩
  · obtain ⟨j, rfl⟩ : ∃ j : Nat, i = (j : Int) := ⟨i.toNat, by omega⟩
    have hn := hA.1
    subst hn
    have hnb : L.length ≤ 16777216 := hm.1
    have HA := Lib.hid fun (W : World) (hW : Below w.heap.size w W) => endOf_any A c L.length j L R W (by omega) hnb (hA.below hW)
    clear hp hm hA hw hcp hb h1 h2
    go_enter Try.func11, Try.ntmps11
    go_wp2_with fail
    refine HP.out.mono ?_
    rintro e w2 ⟨rfl, hb⟩
    have HB := Lib.hid hb
    clear hb
    go_wp2_with fail
    refine (HA.out _ HB.out).mono ?_
    rintro e w3 ⟨z, rfl, hz, hb3⟩
    have HB3 := Lib.hid (bt HB.out hb3)
    have HZ := Lib.hid hz
    clear hz hb3
    go_wp2_with fail
    go_ret2
    exact ⟨_, rfl, .inr ⟨rfl, z, rfl, HZ.out⟩, HB3.out⟩
end Go.Proofs.Ytfafhkhamaccfaa.Tr
