/-
  DERIVED. GIVEN WITH THE SEED: THE CARDS: each row of YtoepejokkfhiaaaDoorRows.lean that lists a variable, with what it lists TIED to the program's text (the seventh form; the later family's looks); each row that meets fmt, with fmt's text TOLD by the authors' own Lean function (tested against real Go, not proved from fmt's source: count such statements apart). THE CARD IS WHAT COUNTS. Prove the row's statement (the work); the ties are given (YtoepejokkfhiaaaDoorTie.lean); close each card by the builder's one call (the guide's Derived/Test/ToyasCard.lean, 'card_holds'). Laid BY PROGRAM, IN A SANDBOX (cutbox-door.mjs). By AI agents, Wed Nov 11 2026. No macro, syntax, notation, axiom, sorry.
-/
import Derived.Test.YtoepejokkfhiaaaDoorRows
import GoSem.ClaimSeven
namespace Go.Proofs.YtoepejokkfhiaaaDoor
namespace Rows

/-- THE TIED CARD OF 'reveillelaw01.WordsShows'. -/
def wordsShowsCard : Claim7 := { stood := { row := wordsShowsRow, standIns := [], harness := (true, "bd50a2f1cd4e20f31ec44e283b67f4f810f28dc4dc9184d149092131726a4d51"), looks := true }, kinds := [], alts := [], laidByText := true, laidKinds := [.data, .pinned], laidTests := true, laidLooks := .later }
def WordsShowsCardSaid : Prop := Claim7.holds Tryd.pinned (.plain (OpenSpec.ofChange wordsShowsSpec)) wordsShowsCard

/-- THE TIED CARD OF 'reveillelaw01.WordsColumns'. -/
def wordsColumnsCard : Claim7 := { stood := { row := wordsColumnsRow, standIns := [], harness := (true, "bd50a2f1cd4e20f31ec44e283b67f4f810f28dc4dc9184d149092131726a4d51"), looks := true }, kinds := [], alts := [], laidByText := true, laidKinds := [.data, .pinned], laidTests := true, laidLooks := .later }
def WordsColumnsCardSaid : Prop := Claim7.holds Tryd.pinned (.plain (OpenSpec.ofChange wordsColumnsSpec)) wordsColumnsCard

/-- THE TIED CARD OF 'reveillelaw01.WordsLines'. -/
def wordsLinesCard : Claim7 := { stood := { row := wordsLinesRow, standIns := [], harness := (true, "bd50a2f1cd4e20f31ec44e283b67f4f810f28dc4dc9184d149092131726a4d51"), looks := true }, kinds := [], alts := [], laidByText := true, laidKinds := [.data, .data, .data, .data, .sentinel, .sentinel, .pinned], laidTests := true, laidLooks := .later }
def WordsLinesCardSaid : Prop := Claim7.holds Tryd.pinned (.plain (OpenSpec.ofChange wordsLinesSpec)) wordsLinesCard

/-- THE SECOND FORM's CARD OF 'reveillelaw01.WordsShows'. -/
def wordsShowsUptoCard : Claim7 := { stood := { row := wordsShowsUptoRow, standIns := [], harness := (true, "bd50a2f1cd4e20f31ec44e283b67f4f810f28dc4dc9184d149092131726a4d51"), looks := true }, kinds := [], alts := [], laidByText := true, laidKinds := [.data, .pinned], laidTests := true, laidLooks := .later }
def WordsShowsUptoCardSaid : Prop := Claim7.holds Tryd.pinned (.plain (OpenSpec.upto wordsShowsSpec)) wordsShowsUptoCard

/-- THE SECOND FORM's CARD OF 'reveillelaw01.WordsColumns'. -/
def wordsColumnsUptoCard : Claim7 := { stood := { row := wordsColumnsUptoRow, standIns := [], harness := (true, "bd50a2f1cd4e20f31ec44e283b67f4f810f28dc4dc9184d149092131726a4d51"), looks := true }, kinds := [], alts := [], laidByText := true, laidKinds := [.data, .pinned], laidTests := true, laidLooks := .later }
def WordsColumnsUptoCardSaid : Prop := Claim7.holds Tryd.pinned (.plain (OpenSpec.upto wordsColumnsSpec)) wordsColumnsUptoCard

/-- THE SECOND FORM's CARD OF 'reveillelaw01.WordsLines'. -/
def wordsLinesUptoCard : Claim7 := { stood := { row := wordsLinesUptoRow, standIns := [], harness := (true, "bd50a2f1cd4e20f31ec44e283b67f4f810f28dc4dc9184d149092131726a4d51"), looks := true }, kinds := [], alts := [], laidByText := true, laidKinds := [.data, .data, .data, .data, .sentinel, .sentinel, .pinned], laidTests := true, laidLooks := .later }
def WordsLinesUptoCardSaid : Prop := Claim7.holds Tryd.pinned (.plain (OpenSpec.upto wordsLinesSpec)) wordsLinesUptoCard
end Rows
end Go.Proofs.YtoepejokkfhiaaaDoor
