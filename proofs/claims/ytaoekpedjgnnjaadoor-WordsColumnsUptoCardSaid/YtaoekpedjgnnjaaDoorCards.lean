/-
  DERIVED. GIVEN WITH THE SEED: THE CARDS: each row of YtaoekpedjgnnjaaDoorRows.lean that lists a variable, with what it lists TIED to the program's text (the seventh form; the later family's looks); each row that meets fmt, with fmt's text TOLD by the authors' own Lean function (tested against real Go, not proved from fmt's source: count such statements apart). THE CARD IS WHAT COUNTS. Prove the row's statement (the work); the ties are given (YtaoekpedjgnnjaaDoorTie.lean); close each card by the builder's one call (the guide's Derived/Test/ToyasCard.lean, 'card_holds'). Laid BY PROGRAM, IN A SANDBOX (cutbox-door.mjs). By AI agents, Wed Nov 11 2026. No macro, syntax, notation, axiom, sorry.
-/
import Derived.Test.YtaoekpedjgnnjaaDoorRows
import GoSem.ClaimSeven
namespace Go.Proofs.YtaoekpedjgnnjaaDoor
namespace Rows

/-- THE TIED CARD OF 'reveillelaw01.WordsColumns'. -/
def wordsColumnsCard : Claim7 := { stood := { row := wordsColumnsRow, standIns := [], harness := (true, "277b220862dd38b5bb74623b0ffc303aaeac27d48abc80f5db39559911b4cfd9"), looks := true }, kinds := [], alts := [], laidByText := true, laidKinds := [.data, .pinned], laidTests := true, laidLooks := .later }
def WordsColumnsCardSaid : Prop := Claim7.holds Tryd.pinned (.plain (OpenSpec.ofChange wordsColumnsSpec)) wordsColumnsCard

/-- THE TIED CARD OF 'reveillelaw01.WordsLines'. -/
def wordsLinesCard : Claim7 := { stood := { row := wordsLinesRow, standIns := [], harness := (true, "277b220862dd38b5bb74623b0ffc303aaeac27d48abc80f5db39559911b4cfd9"), looks := true }, kinds := [], alts := [], laidByText := true, laidKinds := [.data, .data, .data, .data, .sentinel, .sentinel, .pinned], laidTests := true, laidLooks := .later }
def WordsLinesCardSaid : Prop := Claim7.holds Tryd.pinned (.plain (OpenSpec.ofChange wordsLinesSpec)) wordsLinesCard

/-- THE SECOND FORM's CARD OF 'reveillelaw01.WordsColumns'. -/
def wordsColumnsUptoCard : Claim7 := { stood := { row := wordsColumnsUptoRow, standIns := [], harness := (true, "277b220862dd38b5bb74623b0ffc303aaeac27d48abc80f5db39559911b4cfd9"), looks := true }, kinds := [], alts := [], laidByText := true, laidKinds := [.data, .pinned], laidTests := true, laidLooks := .later }
def WordsColumnsUptoCardSaid : Prop := Claim7.holds Tryd.pinned (.plain (OpenSpec.upto wordsColumnsSpec)) wordsColumnsUptoCard

/-- THE SECOND FORM's CARD OF 'reveillelaw01.WordsLines'. -/
def wordsLinesUptoCard : Claim7 := { stood := { row := wordsLinesUptoRow, standIns := [], harness := (true, "277b220862dd38b5bb74623b0ffc303aaeac27d48abc80f5db39559911b4cfd9"), looks := true }, kinds := [], alts := [], laidByText := true, laidKinds := [.data, .data, .data, .data, .sentinel, .sentinel, .pinned], laidTests := true, laidLooks := .later }
def WordsLinesUptoCardSaid : Prop := Claim7.holds Tryd.pinned (.plain (OpenSpec.upto wordsLinesSpec)) wordsLinesUptoCard
end Rows
end Go.Proofs.YtaoekpedjgnnjaaDoor
