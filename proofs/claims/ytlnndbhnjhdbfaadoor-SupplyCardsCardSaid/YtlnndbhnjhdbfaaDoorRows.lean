/-
  NARROWER THAN 'FOR EVERY INPUT', by the rows' own cells (each row's printed sentence says how): SupplyCards: laid · BusTable: laid.
  DERIVED. THE GIVEN ROWS OF THIS SEAT. 2 by the template 'for every input the law returns true; each argument reads behind the call as it read before'; 0 by the template 'total and deterministic' (their statements: YtlnndbhnjhdbfaaDoorTotals.lean).
  GIVEN WITH THE SEED: the statements are not yours to turn. If you find one false, say at which input.
  Laid BY PROGRAM, IN A SANDBOX (cutbox-rows.mjs): the forced cells as the released guide's own fill.sh prints them over the translation d5909c92aa8458a3… (all of the seat's roots in one cut). By AI agents, Wed Nov 11 2026. No macro, syntax, notation, axiom, sorry.
-/
import Derived.Test.YtlnndbhnjhdbfaaDoorChecked
import GoSem.Claim
import GoSem.ClaimJoined
import GoSem.ClaimMapViews
import Derived.JoinedTies
import Derived.KernelRfl
namespace Go.Proofs.YtlnndbhnjhdbfaaDoor
/- THE CELL 'sum', in the pinned program and in every row, IS THE sha256 OF THE DUMP (.gsa) THAT YtlnndbhnjhdbfaaDoorProg.lean LOADS. Nothing in Lean hashes anything: it is a label: what it is worth is what the hold of that sum in a sandbox is worth. -/
noncomputable def Tryd.pinned : Pinned := { name := "ytlnndbhnjhdbfaadoor", sum := "d5909c92aa8458a3e1f986464825db280f6f61cd506271debbb8793175dc6486", checked := Tryd.checked }
namespace Rows
def none {H : Type} : Left H := { results := [], args := [] }

/- WHAT THE LISTED PACKAGE-LEVEL VARIABLES READ AS WHEN THE CALL BEGINS. Each datum BY PROGRAM (the guide's laid-datum.mjs) off the statement by which the dump's own 'gosem.cut.vars' lays the variable. In a bare row this is a premise. The card (YtlnndbhnjhdbfaaDoorCards.lean) ties it to the program's text. -/
def laid_reveille_supply_table {H : Type} : DataW H := .agg [.lit (.int .i64 800000), .lit (.int .i64 2312500), .lit (.int .i64 3325000), .lit (.int .i64 4337500), .lit (.int .i64 5350000), .lit (.int .i64 6362500), .lit (.int .i64 7375000), .lit (.int .i64 8387500), .lit (.int .i64 9400000), .lit (.int .i64 10412500), .lit (.int .i64 11425000), .lit (.int .i64 12437500), .lit (.int .i64 13450000), .lit (.int .i64 14462500), .lit (.int .i64 15475000), .lit (.int .i64 16487500), .lit (.int .i64 17500000), .lit (.int .i64 18512500), .lit (.int .i64 19525000), .lit (.int .i64 20537500), .lit (.int .i64 21550000), .lit (.int .i64 22562500), .lit (.int .i64 23575000), .lit (.int .i64 25000000)]
def laid_reveille_bus_table {H : Type} : DataW H := .agg [.lit (.int .i64 271672320), .lit (.int .i64 279750992), .lit (.int .i64 284866528), .lit (.int .i64 289982064), .lit (.int .i64 295097600), .lit (.int .i64 300213136), .lit (.int .i64 305328672), .lit (.int .i64 310444208), .lit (.int .i64 315559744), .lit (.int .i64 320675280), .lit (.int .i64 325790816), .lit (.int .i64 330906352), .lit (.int .i64 336021888), .lit (.int .i64 341137424), .lit (.int .i64 346252960), .lit (.int .i64 351368496), .lit (.int .i64 356484032), .lit (.int .i64 361599568), .lit (.int .i64 366715104), .lit (.int .i64 411830640)]

/-- 'reveillelaw09.SupplyCards': WHATEVER THE INPUT: true; the input reads as it did. -/
def supplyCardsSpec : ChangeSpec := { name := "supplyCards", fn := fun _ => fun
  | [] => { results := [.lit (.bool true)], args := [] }
  | _ => none }
def supplyCardsRow : OpenClaim := { program := "ytlnndbhnjhdbfaadoor", sum := "d5909c92aa8458a3e1f986464825db280f6f61cd506271debbb8793175dc6486", func := "reveille/reveillelaw09.SupplyCards", spec := "supplyCards", inPlace := ["internal/bytealg.IndexByteString"], unfollowed := true, recurses := true, named := ["reveille/supply.table"], apart := false, laid := [("reveille/supply.table", laid_reveille_supply_table)] }
def SupplyCardsSaid : Prop := supplyCardsRow.holds Tryd.pinned (OpenSpec.ofChange supplyCardsSpec)

/-- ITS FALSE NEIGHBOUR: 'it returns false'. Refute it at one input. -/
def supplyCardsWrong : ChangeSpec := { name := "supplyCards", fn := fun _ => fun
  | [] => { results := [.lit (.bool false)], args := [] }
  | _ => none }
def SupplyCardsWrongFalsely : Prop := supplyCardsRow.holds Tryd.pinned (OpenSpec.ofChange supplyCardsWrong)

/-- 'reveillelaw10.BusTable': WHATEVER THE INPUT: true; the input reads as it did. -/
def busTableSpec : ChangeSpec := { name := "busTable", fn := fun _ => fun
  | [] => { results := [.lit (.bool true)], args := [] }
  | _ => none }
def busTableRow : OpenClaim := { program := "ytlnndbhnjhdbfaadoor", sum := "d5909c92aa8458a3e1f986464825db280f6f61cd506271debbb8793175dc6486", func := "reveille/reveillelaw10.BusTable", spec := "busTable", named := ["reveille/bus.table"], apart := false, laid := [("reveille/bus.table", laid_reveille_bus_table)] }
def BusTableSaid : Prop := busTableRow.holds Tryd.pinned (OpenSpec.ofChange busTableSpec)

/-- ITS FALSE NEIGHBOUR: 'it returns false'. Refute it at one input. -/
def busTableWrong : ChangeSpec := { name := "busTable", fn := fun _ => fun
  | [] => { results := [.lit (.bool false)], args := [] }
  | _ => none }
def BusTableWrongFalsely : Prop := busTableRow.holds Tryd.pinned (OpenSpec.ofChange busTableWrong)

/- THE SECOND FORM. 'bulk': how many values and letters a reading holds, each counted each time it is reached (what is shared counts as often as it is met; a slice's spare places count too). A statement '..UptoSaid' is the law's where the arguments, and the package variables that the reading takes, are together of bulk at most 1048576: NARROWER than '..Said'. Prove '..Said' where nothing that the law and all that it calls make is longer than what came in: it says more and counts as full. Else prove '..UptoSaid'. A law counts once. -/
mutual
def uptoBulk {H : Type} : DataW H → Nat
  | .lit (.string bytes) => bytes.length + 1
  | .lit _ => 1
  | .nil => 1
  | .ptr d => uptoBulk d + 1
  | .slice elems spare => uptoBulkAll elems + uptoBulkAll spare + 1
  | .agg parts => uptoBulkAll parts + 1
  | .iface _ d => uptoBulk d + 1
  | .map entries => uptoBulkEntries entries + 1
  | .held _ => 1
def uptoBulkAll {H : Type} : List (DataW H) → Nat
  | [] => 0
  | d :: r => uptoBulk d + uptoBulkAll r
def uptoBulkEntries {H : Type} : List (Lit × DataW H) → Nat
  | [] => 0
  | x :: r => uptoBulkEntry x + uptoBulkEntries r
def uptoBulkEntry {H : Type} : Lit × DataW H → Nat
  | (.string bytes, d) => bytes.length + uptoBulk d + 1
  | (_, d) => uptoBulk d + 1
 end
def uptoSmall : (H : Type) → List (DataW H) → Bool := fun _ ds => decide (uptoBulkAll ds ≤ 1048576)
def OpenSpec.upto (s : _root_.Go.ChangeSpec) : _root_.Go.OpenSpec := { _root_.Go.OpenSpec.ofChange s with cond := some uptoSmall }

/-- 'reveillelaw09.SupplyCards', WHERE WHAT IT READS IS OF BULK AT MOST 1048576: true; the input reads as it did. -/
def supplyCardsUptoRow : OpenClaim := { program := "ytlnndbhnjhdbfaadoor", sum := "d5909c92aa8458a3e1f986464825db280f6f61cd506271debbb8793175dc6486", func := "reveille/reveillelaw09.SupplyCards", spec := "supplyCards", inPlace := ["internal/bytealg.IndexByteString"], unfollowed := true, recurses := true, named := ["reveille/supply.table"], apart := false, laid := [("reveille/supply.table", laid_reveille_supply_table)], narrowed := true }
def SupplyCardsUptoSaid : Prop := supplyCardsUptoRow.holds Tryd.pinned (OpenSpec.upto supplyCardsSpec)

/-- 'reveillelaw10.BusTable', WHERE WHAT IT READS IS OF BULK AT MOST 1048576: true; the input reads as it did. -/
def busTableUptoRow : OpenClaim := { program := "ytlnndbhnjhdbfaadoor", sum := "d5909c92aa8458a3e1f986464825db280f6f61cd506271debbb8793175dc6486", func := "reveille/reveillelaw10.BusTable", spec := "busTable", named := ["reveille/bus.table"], apart := false, laid := [("reveille/bus.table", laid_reveille_bus_table)], narrowed := true }
def BusTableUptoSaid : Prop := busTableUptoRow.holds Tryd.pinned (OpenSpec.upto busTableSpec)

end Rows
end Go.Proofs.YtlnndbhnjhdbfaaDoor
