/- match's quirks: the map of closures, Quirk. -/
import Derived.Test.YtnnaoneegeenkaaRmZ
namespace Go.Proofs.Ytnnaoneegeenkaa.Mq
open Go.ChangeShapes Go.WideShapes Go.ChangeAt Go.RowKit Own Ro Kc Go.Maps Go.WideMaps
open Rm (wpList_insert_own rd fnV)

def slowN : List UInt8 := [115, 108, 111, 119]
def halfN : List UInt8 := [104, 97, 108, 102]
def doubleN : List UInt8 := [100, 111, 117, 98, 108, 101]
def oddN : List UInt8 := [111, 100, 100]
def Qs : List (List UInt8) := [[], slowN, halfN, doubleN, oddN]
/-- The map of closures. -/
def DQ : DataW Value := (((((DataW.map []).put (.string []) (.held (fnV 25))).put (.string slowN) (.held (fnV 26))).put (.string halfN) (.held (fnV 27))).put (.string doubleN) (.held (fnV 28))).put (.string oddN) (.held (fnV 29))
set_option maxRecDepth 100000 in
set_option maxHeartbeats 8000000 in
theorem turns_any (w : World) : Calls Try.prog 18 #[] w (fun e w' => e = .returned (.map (some w.heap.size)) ∧ w'.ownsMap Try.prog 9 rd w.heap.size 5 DQ ∧ Below w.heap.size w w') := by
  have hmm := @run_makeMap Try.prog
  have HM := Lib.hid (World.ownsMap_made w Try.prog 9 rd)
  have HB := Lib.hid (grows' w (.map #[] 0))
  go_enter Try.func18, Try.ntmps18
  go_wp2_with ((with_reducible (show wpList _ _ _ ((⟨none, .insert _ _ _ _, _, _, _, _⟩ : Oper) :: _) _ _)); refine wpList_insert_own _ rfl _ _ _ 51 rfl 9 40 nameLaw Try.underlying51 rd w.heap.size _ _ rfl HM.out (by unfold maxLen; omega) _ _ _ rfl rfl (keyOf_string_mk Try.underlying9 (by decide)) _ [] rfl ?_; intro w1 hm1 hg1; replace HM := Lib.hid hm1; replace HB := Lib.hid (HB.out.grown hg1 HB.out.size (fun k hk => by injection hk with hk; omega)); clear hm1 hg1)
  go_ret
  exact ⟨rfl, HM.out, HB.out⟩
/-- What a quirk makes of a number. -/
def qnV (f : Nat) (n : Int) : Int := if f = 25 then n else if f = 26 then wrap64 (n.tdiv 4) else if f = 27 then wrap64 (n.tdiv 2) else if f = 28 then wrap64 (n + n) else if n.tmod 2 = 0 then n else wrap64 (-n)
end Go.Proofs.Ytnnaoneegeenkaa.Mq
