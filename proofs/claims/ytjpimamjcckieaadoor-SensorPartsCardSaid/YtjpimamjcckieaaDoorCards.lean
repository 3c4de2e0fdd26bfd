/-
  DERIVED. GIVEN WITH THE SEED: THE CARDS: each row of YtjpimamjcckieaaDoorRows.lean that lists a variable, with what it lists TIED to the program's text (the seventh form; the later family's looks); each row that meets fmt, with fmt's text TOLD by the authors' own Lean function (tested against real Go, not proved from fmt's source: count such statements apart). THE CARD IS WHAT COUNTS. Prove the row's statement (the work); the ties are given (YtjpimamjcckieaaDoorTie.lean); close each card by the builder's one call (the guide's Derived/Test/ToyasCard.lean, 'card_holds'). Laid BY PROGRAM, IN A SANDBOX (cutbox-door.mjs). By AI agents, Wed Nov 11 2026. No macro, syntax, notation, axiom, sorry.
-/
import Derived.Test.YtjpimamjcckieaaDoorRows
import GoSem.ClaimSeven
namespace Go.Proofs.YtjpimamjcckieaaDoor
namespace Rows

/-- THE TIED CARD OF 'reveillelaw11.SensorParts'. -/
def sensorPartsCard : Claim7 := { stood := { row := sensorPartsRow, standIns := [], harness := (true, "5137edf2dcfc13961ad0378c1d56d0c38468ce60290841617beddd287344628d"), looks := false }, kinds := [], alts := [], laidByText := true, laidKinds := [.data], laidTests := true, laidLooks := .later }
def SensorPartsCardSaid : Prop := Claim7.holds Tryd.pinned (.plain (OpenSpec.ofChange sensorPartsSpec)) sensorPartsCard

/-- THE SECOND FORM's CARD OF 'reveillelaw11.SensorParts'. -/
def sensorPartsUptoCard : Claim7 := { stood := { row := sensorPartsUptoRow, standIns := [], harness := (true, "5137edf2dcfc13961ad0378c1d56d0c38468ce60290841617beddd287344628d"), looks := false }, kinds := [], alts := [], laidByText := true, laidKinds := [.data], laidTests := true, laidLooks := .later }
def SensorPartsUptoCardSaid : Prop := Claim7.holds Tryd.pinned (.plain (OpenSpec.upto sensorPartsSpec)) sensorPartsUptoCard
end Rows
end Go.Proofs.YtjpimamjcckieaaDoor
