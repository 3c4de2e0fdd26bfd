/-
  DERIVED. GIVEN WITH THE SEED: THE CARDS: each row of YtomhfmcmjcghoaaGreatDoorRows.lean that lists a variable, with what it lists TIED to the program's text (the seventh form; the later family's looks); each row that meets fmt, with fmt's text TOLD by the authors' own Lean function (tested against real Go, not proved from fmt's source: count such statements apart). THE CARD IS WHAT COUNTS. Prove the row's statement (the work); the ties are given (YtomhfmcmjcghoaaGreatDoorTie.lean); close each card by the builder's one call (the guide's Derived/Test/ToyasCard.lean, 'card_holds'). Laid BY PROGRAM, IN A SANDBOX (cutbox-door.mjs). By AI agents, Wed Nov 11 2026. No macro, syntax, notation, axiom, sorry.
-/
import Derived.Test.YtomhfmcmjcghoaaGreatDoorRows
import GoSem.ClaimSeven
namespace Go.Proofs.YtomhfmcmjcghoaaGreatDoor
namespace Rows

/-- THE TIED CARD OF 'reveillelaw02.CellsShows'. -/
def cellsShowsCard : Claim7 := { stood := { row := cellsShowsRow, standIns := [], harness := (true, "0aa2c85cf7db838d13507caab8e55eeb70ca4d5208348aa9c7dfbb359f9df9e2"), looks := true }, kinds := [], alts := [], laidByText := true, laidKinds := [.data, .data, .data, .data, .sentinel, .sentinel, .pinned], laidTests := true, laidLooks := .later }
def CellsShowsCardSaid : Prop := Claim7.holds Tryz.pinned (.plain (OpenSpec.ofChange cellsShowsSpec)) cellsShowsCard

/-- THE TIED CARD OF 'reveillelaw02.CellsBack'. -/
def cellsBackCard : Claim7 := { stood := { row := cellsBackRow, standIns := [], harness := (true, "0aa2c85cf7db838d13507caab8e55eeb70ca4d5208348aa9c7dfbb359f9df9e2"), looks := true }, kinds := [], alts := [], laidByText := true, laidKinds := [.data, .data, .data, .data, .sentinel, .sentinel, .pinned], laidTests := true, laidLooks := .later }
def CellsBackCardSaid : Prop := Claim7.holds Tryz.pinned (.plain (OpenSpec.ofChange cellsBackSpec)) cellsBackCard

/-- THE TIED CARD OF 'reveillelaw02.CellsShown'. -/
def cellsShownCard : Claim7 := { stood := { row := cellsShownRow, standIns := [], harness := (true, "0aa2c85cf7db838d13507caab8e55eeb70ca4d5208348aa9c7dfbb359f9df9e2"), looks := true }, kinds := [], alts := [], laidByText := true, laidKinds := [.data, .data, .data, .data, .sentinel, .sentinel, .pinned], laidTests := true, laidLooks := .later }
def CellsShownCardSaid : Prop := Claim7.holds Tryz.pinned (.plain (OpenSpec.ofChange cellsShownSpec)) cellsShownCard

/-- THE SECOND FORM's CARD OF 'reveillelaw02.CellsShows'. -/
def cellsShowsUptoCard : Claim7 := { stood := { row := cellsShowsUptoRow, standIns := [], harness := (true, "0aa2c85cf7db838d13507caab8e55eeb70ca4d5208348aa9c7dfbb359f9df9e2"), looks := true }, kinds := [], alts := [], laidByText := true, laidKinds := [.data, .data, .data, .data, .sentinel, .sentinel, .pinned], laidTests := true, laidLooks := .later }
def CellsShowsUptoCardSaid : Prop := Claim7.holds Tryz.pinned (.plain (OpenSpec.upto cellsShowsSpec)) cellsShowsUptoCard

/-- THE SECOND FORM's CARD OF 'reveillelaw02.CellsBack'. -/
def cellsBackUptoCard : Claim7 := { stood := { row := cellsBackUptoRow, standIns := [], harness := (true, "0aa2c85cf7db838d13507caab8e55eeb70ca4d5208348aa9c7dfbb359f9df9e2"), looks := true }, kinds := [], alts := [], laidByText := true, laidKinds := [.data, .data, .data, .data, .sentinel, .sentinel, .pinned], laidTests := true, laidLooks := .later }
def CellsBackUptoCardSaid : Prop := Claim7.holds Tryz.pinned (.plain (OpenSpec.upto cellsBackSpec)) cellsBackUptoCard

/-- THE SECOND FORM's CARD OF 'reveillelaw02.CellsShown'. -/
def cellsShownUptoCard : Claim7 := { stood := { row := cellsShownUptoRow, standIns := [], harness := (true, "0aa2c85cf7db838d13507caab8e55eeb70ca4d5208348aa9c7dfbb359f9df9e2"), looks := true }, kinds := [], alts := [], laidByText := true, laidKinds := [.data, .data, .data, .data, .sentinel, .sentinel, .pinned], laidTests := true, laidLooks := .later }
def CellsShownUptoCardSaid : Prop := Claim7.holds Tryz.pinned (.plain (OpenSpec.upto cellsShownSpec)) cellsShownUptoCard
end Rows
end Go.Proofs.YtomhfmcmjcghoaaGreatDoor
