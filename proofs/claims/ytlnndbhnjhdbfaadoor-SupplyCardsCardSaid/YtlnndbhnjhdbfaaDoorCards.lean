/-
  DERIVED. GIVEN WITH THE SEED: THE CARDS: each row of YtlnndbhnjhdbfaaDoorRows.lean that lists a variable, with what it lists TIED to the program's text (the seventh form; the later family's looks); each row that meets fmt, with fmt's text TOLD by the authors' own Lean function (tested against real Go, not proved from fmt's source: count such statements apart). THE CARD IS WHAT COUNTS. Prove the row's statement (the work); the ties are given (YtlnndbhnjhdbfaaDoorTie.lean); close each card by the builder's one call (the guide's Derived/Test/ToyasCard.lean, 'card_holds'). Laid BY PROGRAM, IN A SANDBOX (cutbox-door.mjs). By AI agents, Wed Nov 11 2026. No macro, syntax, notation, axiom, sorry.
-/
import Derived.Test.YtlnndbhnjhdbfaaDoorRows
import GoSem.ClaimSeven
namespace Go.Proofs.YtlnndbhnjhdbfaaDoor
namespace Rows

/-- THE TIED CARD OF 'reveillelaw09.SupplyCards'. -/
def supplyCardsCard : Claim7 := { stood := { row := supplyCardsRow, standIns := [], harness := (true, "8d6d625d639efa0bd84bfabdcb2b30d5db930eec46d762d9b36dead608810103"), looks := false }, kinds := [], alts := [], laidByText := true, laidKinds := [.data], laidTests := true, laidLooks := .later }
def SupplyCardsCardSaid : Prop := Claim7.holds Tryd.pinned (.plain (OpenSpec.ofChange supplyCardsSpec)) supplyCardsCard

/-- THE TIED CARD OF 'reveillelaw10.BusTable'. -/
def busTableCard : Claim7 := { stood := { row := busTableRow, standIns := [], harness := (true, "8d6d625d639efa0bd84bfabdcb2b30d5db930eec46d762d9b36dead608810103"), looks := false }, kinds := [], alts := [], laidByText := true, laidKinds := [.data], laidTests := true, laidLooks := .later }
def BusTableCardSaid : Prop := Claim7.holds Tryd.pinned (.plain (OpenSpec.ofChange busTableSpec)) busTableCard

/-- THE SECOND FORM's CARD OF 'reveillelaw09.SupplyCards'. -/
def supplyCardsUptoCard : Claim7 := { stood := { row := supplyCardsUptoRow, standIns := [], harness := (true, "8d6d625d639efa0bd84bfabdcb2b30d5db930eec46d762d9b36dead608810103"), looks := false }, kinds := [], alts := [], laidByText := true, laidKinds := [.data], laidTests := true, laidLooks := .later }
def SupplyCardsUptoCardSaid : Prop := Claim7.holds Tryd.pinned (.plain (OpenSpec.upto supplyCardsSpec)) supplyCardsUptoCard

/-- THE SECOND FORM's CARD OF 'reveillelaw10.BusTable'. -/
def busTableUptoCard : Claim7 := { stood := { row := busTableUptoRow, standIns := [], harness := (true, "8d6d625d639efa0bd84bfabdcb2b30d5db930eec46d762d9b36dead608810103"), looks := false }, kinds := [], alts := [], laidByText := true, laidKinds := [.data], laidTests := true, laidLooks := .later }
def BusTableUptoCardSaid : Prop := Claim7.holds Tryd.pinned (.plain (OpenSpec.upto busTableSpec)) busTableUptoCard
end Rows
end Go.Proofs.YtlnndbhnjhdbfaaDoor
