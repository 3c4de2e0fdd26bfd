/-
  DERIVED. GIVEN WITH THE SEED: THE CARDS: each row of YtkjhngnpbdlmiaaDoorRows.lean that lists a variable, with what it lists TIED to the program's text (the seventh form; the later family's looks); each row that meets fmt, with fmt's text TOLD by the authors' own Lean function (tested against real Go, not proved from fmt's source: count such statements apart). THE CARD IS WHAT COUNTS. Prove the row's statement (the work); the ties are given (YtkjhngnpbdlmiaaDoorTie.lean); close each card by the builder's one call (the guide's Derived/Test/ToyasCard.lean, 'card_holds'). Laid BY PROGRAM, IN A SANDBOX (cutbox-door.mjs). By AI agents, Wed Nov 11 2026. No macro, syntax, notation, axiom, sorry.
-/
import Derived.Test.YtkjhngnpbdlmiaaDoorRows
import GoSem.ClaimSeven
namespace Go.Proofs.YtkjhngnpbdlmiaaDoor
namespace Rows

/-- THE TIED CARD OF 'reveillelaw02.CellsNames'. -/
def cellsNamesCard : Claim7 := { stood := { row := cellsNamesRow, standIns := [], harness := (true, "ffcfbbfe6d30c960bb08600017cd30f1ffd38cff5e0611eebf632ae25aff8f16"), looks := false }, kinds := [], alts := [], laidByText := true, laidKinds := [.data, .data, .data], laidTests := true, laidLooks := .later }
def CellsNamesCardSaid : Prop := Claim7.holds Tryd.pinned (.plain (OpenSpec.ofChange cellsNamesSpec)) cellsNamesCard

/-- THE SECOND FORM's CARD OF 'reveillelaw02.CellsNames'. -/
def cellsNamesUptoCard : Claim7 := { stood := { row := cellsNamesUptoRow, standIns := [], harness := (true, "ffcfbbfe6d30c960bb08600017cd30f1ffd38cff5e0611eebf632ae25aff8f16"), looks := false }, kinds := [], alts := [], laidByText := true, laidKinds := [.data, .data, .data], laidTests := true, laidLooks := .later }
def CellsNamesUptoCardSaid : Prop := Claim7.holds Tryd.pinned (.plain (OpenSpec.upto cellsNamesSpec)) cellsNamesUptoCard
end Rows
end Go.Proofs.YtkjhngnpbdlmiaaDoor
