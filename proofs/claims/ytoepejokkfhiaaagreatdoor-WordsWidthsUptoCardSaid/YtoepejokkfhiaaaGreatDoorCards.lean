/-
  DERIVED. GIVEN WITH THE SEED: THE CARDS: each row of YtoepejokkfhiaaaGreatDoorRows.lean that lists a variable, with what it lists TIED to the program's text (the seventh form; the later family's looks); each row that meets fmt, with fmt's text TOLD by the authors' own Lean function (tested against real Go, not proved from fmt's source: count such statements apart). THE CARD IS WHAT COUNTS. Prove the row's statement (the work); the ties are given (YtoepejokkfhiaaaGreatDoorTie.lean); close each card by the builder's one call (the guide's Derived/Test/ToyasCard.lean, 'card_holds'). Laid BY PROGRAM, IN A SANDBOX (cutbox-door.mjs). By AI agents, Wed Nov 11 2026. No macro, syntax, notation, axiom, sorry.
-/
import Derived.Test.YtoepejokkfhiaaaGreatDoorRows
import GoSem.ClaimSeven
namespace Go.Proofs.YtoepejokkfhiaaaGreatDoor
namespace Rows

/-- THE TIED CARD OF 'reveillelaw01.WordsClosed'. -/
def wordsClosedCard : Claim7 := { stood := { row := wordsClosedRow, standIns := [], harness := (true, "0d6f51405b77ac38362fb9c627f0ab28bc9d0cb8c219add43217930c1eb5fb3f"), looks := true }, kinds := [], alts := [], laidByText := true, laidKinds := [.data, .data, .data, .data, .sentinel, .sentinel, .pinned], laidTests := true, laidLooks := .later }
def WordsClosedCardSaid : Prop := Claim7.holds Tryz.pinned (.plain (OpenSpec.ofChange wordsClosedSpec)) wordsClosedCard

/-- THE TIED CARD OF 'reveillelaw01.WordsBack'. -/
def wordsBackCard : Claim7 := { stood := { row := wordsBackRow, standIns := [], harness := (true, "0d6f51405b77ac38362fb9c627f0ab28bc9d0cb8c219add43217930c1eb5fb3f"), looks := true }, kinds := [], alts := [], laidByText := true, laidKinds := [.data, .data, .data, .data, .sentinel, .sentinel, .pinned], laidTests := true, laidLooks := .later }
def WordsBackCardSaid : Prop := Claim7.holds Tryz.pinned (.plain (OpenSpec.ofChange wordsBackSpec)) wordsBackCard

/-- THE TIED CARD OF 'reveillelaw01.WordsWidths'. -/
def wordsWidthsCard : Claim7 := { stood := { row := wordsWidthsRow, standIns := [], harness := (true, "0d6f51405b77ac38362fb9c627f0ab28bc9d0cb8c219add43217930c1eb5fb3f"), looks := true }, kinds := [], alts := [], laidByText := true, laidKinds := [.data, .data, .data, .data, .sentinel, .sentinel, .pinned], laidTests := true, laidLooks := .later }
def WordsWidthsCardSaid : Prop := Claim7.holds Tryz.pinned (.plain (OpenSpec.ofChange wordsWidthsSpec)) wordsWidthsCard

/-- THE TIED CARD OF 'reveillelaw01.WordsTurns'. -/
def wordsTurnsCard : Claim7 := { stood := { row := wordsTurnsRow, standIns := [], harness := (true, "0d6f51405b77ac38362fb9c627f0ab28bc9d0cb8c219add43217930c1eb5fb3f"), looks := true }, kinds := [], alts := [], laidByText := true, laidKinds := [.data, .data, .data, .data, .sentinel, .sentinel, .pinned], laidTests := true, laidLooks := .later }
def WordsTurnsCardSaid : Prop := Claim7.holds Tryz.pinned (.plain (OpenSpec.ofChange wordsTurnsSpec)) wordsTurnsCard

/-- THE SECOND FORM's CARD OF 'reveillelaw01.WordsClosed'. -/
def wordsClosedUptoCard : Claim7 := { stood := { row := wordsClosedUptoRow, standIns := [], harness := (true, "0d6f51405b77ac38362fb9c627f0ab28bc9d0cb8c219add43217930c1eb5fb3f"), looks := true }, kinds := [], alts := [], laidByText := true, laidKinds := [.data, .data, .data, .data, .sentinel, .sentinel, .pinned], laidTests := true, laidLooks := .later }
def WordsClosedUptoCardSaid : Prop := Claim7.holds Tryz.pinned (.plain (OpenSpec.upto wordsClosedSpec)) wordsClosedUptoCard

/-- THE SECOND FORM's CARD OF 'reveillelaw01.WordsBack'. -/
def wordsBackUptoCard : Claim7 := { stood := { row := wordsBackUptoRow, standIns := [], harness := (true, "0d6f51405b77ac38362fb9c627f0ab28bc9d0cb8c219add43217930c1eb5fb3f"), looks := true }, kinds := [], alts := [], laidByText := true, laidKinds := [.data, .data, .data, .data, .sentinel, .sentinel, .pinned], laidTests := true, laidLooks := .later }
def WordsBackUptoCardSaid : Prop := Claim7.holds Tryz.pinned (.plain (OpenSpec.upto wordsBackSpec)) wordsBackUptoCard

/-- THE SECOND FORM's CARD OF 'reveillelaw01.WordsWidths'. -/
def wordsWidthsUptoCard : Claim7 := { stood := { row := wordsWidthsUptoRow, standIns := [], harness := (true, "0d6f51405b77ac38362fb9c627f0ab28bc9d0cb8c219add43217930c1eb5fb3f"), looks := true }, kinds := [], alts := [], laidByText := true, laidKinds := [.data, .data, .data, .data, .sentinel, .sentinel, .pinned], laidTests := true, laidLooks := .later }
def WordsWidthsUptoCardSaid : Prop := Claim7.holds Tryz.pinned (.plain (OpenSpec.upto wordsWidthsSpec)) wordsWidthsUptoCard

/-- THE SECOND FORM's CARD OF 'reveillelaw01.WordsTurns'. -/
def wordsTurnsUptoCard : Claim7 := { stood := { row := wordsTurnsUptoRow, standIns := [], harness := (true, "0d6f51405b77ac38362fb9c627f0ab28bc9d0cb8c219add43217930c1eb5fb3f"), looks := true }, kinds := [], alts := [], laidByText := true, laidKinds := [.data, .data, .data, .data, .sentinel, .sentinel, .pinned], laidTests := true, laidLooks := .later }
def WordsTurnsUptoCardSaid : Prop := Claim7.holds Tryz.pinned (.plain (OpenSpec.upto wordsTurnsSpec)) wordsTurnsUptoCard
end Rows
end Go.Proofs.YtoepejokkfhiaaaGreatDoor
