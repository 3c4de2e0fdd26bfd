/-
  DERIVED. GIVEN WITH THE SEED: THE CARDS: each row of YtinocgngjhomcaaDoorRows.lean that lists a variable, with what it lists TIED to the program's text (the seventh form; the later family's looks); each row that meets fmt, with fmt's text TOLD by the authors' own Lean function (tested against real Go, not proved from fmt's source: count such statements apart). THE CARD IS WHAT COUNTS. Prove the row's statement (the work); the ties are given (YtinocgngjhomcaaDoorTie.lean); close each card by the builder's one call (the guide's Derived/Test/ToyasCard.lean, 'card_holds'). Laid BY PROGRAM, IN A SANDBOX (cutbox-door.mjs). By AI agents, Wed Nov 11 2026. No macro, syntax, notation, axiom, sorry.
-/
import Derived.Test.YtinocgngjhomcaaDoorRows
import GoSem.ClaimSeven
namespace Go.Proofs.YtinocgngjhomcaaDoor
namespace Rows

/-- THE TIED CARD OF 'reveillelaw12.RadioAsks'. -/
def radioAsksCard : Claim7 := { stood := { row := radioAsksRow, standIns := [], harness := (true, "489f1daa762c5bd642fe5ccefbcd130ae727066ebc5f37da3dbd58fbb2a5b0dc"), looks := false }, kinds := [], alts := [], laidByText := true, laidKinds := [.data], laidTests := true, laidLooks := .later }
def RadioAsksCardSaid : Prop := Claim7.holds Tryd.pinned (.plain (OpenSpec.ofChange radioAsksSpec)) radioAsksCard

/-- THE TIED CARD OF 'reveillelaw12.RadioCards'. -/
def radioCardsCard : Claim7 := { stood := { row := radioCardsRow, standIns := [], harness := (true, "489f1daa762c5bd642fe5ccefbcd130ae727066ebc5f37da3dbd58fbb2a5b0dc"), looks := false }, kinds := [], alts := [], laidByText := true, laidKinds := [.data], laidTests := true, laidLooks := .later }
def RadioCardsCardSaid : Prop := Claim7.holds Tryd.pinned (.plain (OpenSpec.ofChange radioCardsSpec)) radioCardsCard

/-- THE TIED CARD OF 'reveillelaw12.RadioStands'. -/
def radioStandsCard : Claim7 := { stood := { row := radioStandsRow, standIns := [], harness := (true, "489f1daa762c5bd642fe5ccefbcd130ae727066ebc5f37da3dbd58fbb2a5b0dc"), looks := false }, kinds := [], alts := [], laidByText := true, laidKinds := [.data, .data, .data], laidTests := true, laidLooks := .later }
def RadioStandsCardSaid : Prop := Claim7.holds Tryd.pinned (.plain (OpenSpec.ofChange radioStandsSpec)) radioStandsCard

/-- THE TIED CARD OF 'reveillelaw12.RadioHops'. -/
def radioHopsCard : Claim7 := { stood := { row := radioHopsRow, standIns := [], harness := (true, "489f1daa762c5bd642fe5ccefbcd130ae727066ebc5f37da3dbd58fbb2a5b0dc"), looks := false }, kinds := [], alts := [], laidByText := true, laidKinds := [.data], laidTests := true, laidLooks := .later }
def RadioHopsCardSaid : Prop := Claim7.holds Tryd.pinned (.plain (OpenSpec.ofChange radioHopsSpec)) radioHopsCard

/-- THE TIED CARD OF 'reveillelaw12.RadioTurns'. -/
def radioTurnsCard : Claim7 := { stood := { row := radioTurnsRow, standIns := [], harness := (true, "489f1daa762c5bd642fe5ccefbcd130ae727066ebc5f37da3dbd58fbb2a5b0dc"), looks := false }, kinds := [], alts := [], laidByText := true, laidKinds := [.data], laidTests := true, laidLooks := .later }
def RadioTurnsCardSaid : Prop := Claim7.holds Tryd.pinned (.plain (OpenSpec.ofChange radioTurnsSpec)) radioTurnsCard

/-- THE TIED CARD OF 'reveillelaw12.RadioNone'. -/
def radioNoneCard : Claim7 := { stood := { row := radioNoneRow, standIns := [], harness := (true, "489f1daa762c5bd642fe5ccefbcd130ae727066ebc5f37da3dbd58fbb2a5b0dc"), looks := false }, kinds := [], alts := [], laidByText := true, laidKinds := [.data], laidTests := true, laidLooks := .later }
def RadioNoneCardSaid : Prop := Claim7.holds Tryd.pinned (.plain (OpenSpec.ofChange radioNoneSpec)) radioNoneCard

/-- THE SECOND FORM's CARD OF 'reveillelaw12.RadioAsks'. -/
def radioAsksUptoCard : Claim7 := { stood := { row := radioAsksUptoRow, standIns := [], harness := (true, "489f1daa762c5bd642fe5ccefbcd130ae727066ebc5f37da3dbd58fbb2a5b0dc"), looks := false }, kinds := [], alts := [], laidByText := true, laidKinds := [.data], laidTests := true, laidLooks := .later }
def RadioAsksUptoCardSaid : Prop := Claim7.holds Tryd.pinned (.plain (OpenSpec.upto radioAsksSpec)) radioAsksUptoCard

/-- THE SECOND FORM's CARD OF 'reveillelaw12.RadioCards'. -/
def radioCardsUptoCard : Claim7 := { stood := { row := radioCardsUptoRow, standIns := [], harness := (true, "489f1daa762c5bd642fe5ccefbcd130ae727066ebc5f37da3dbd58fbb2a5b0dc"), looks := false }, kinds := [], alts := [], laidByText := true, laidKinds := [.data], laidTests := true, laidLooks := .later }
def RadioCardsUptoCardSaid : Prop := Claim7.holds Tryd.pinned (.plain (OpenSpec.upto radioCardsSpec)) radioCardsUptoCard

/-- THE SECOND FORM's CARD OF 'reveillelaw12.RadioStands'. -/
def radioStandsUptoCard : Claim7 := { stood := { row := radioStandsUptoRow, standIns := [], harness := (true, "489f1daa762c5bd642fe5ccefbcd130ae727066ebc5f37da3dbd58fbb2a5b0dc"), looks := false }, kinds := [], alts := [], laidByText := true, laidKinds := [.data, .data, .data], laidTests := true, laidLooks := .later }
def RadioStandsUptoCardSaid : Prop := Claim7.holds Tryd.pinned (.plain (OpenSpec.upto radioStandsSpec)) radioStandsUptoCard

/-- THE SECOND FORM's CARD OF 'reveillelaw12.RadioHops'. -/
def radioHopsUptoCard : Claim7 := { stood := { row := radioHopsUptoRow, standIns := [], harness := (true, "489f1daa762c5bd642fe5ccefbcd130ae727066ebc5f37da3dbd58fbb2a5b0dc"), looks := false }, kinds := [], alts := [], laidByText := true, laidKinds := [.data], laidTests := true, laidLooks := .later }
def RadioHopsUptoCardSaid : Prop := Claim7.holds Tryd.pinned (.plain (OpenSpec.upto radioHopsSpec)) radioHopsUptoCard

/-- THE SECOND FORM's CARD OF 'reveillelaw12.RadioTurns'. -/
def radioTurnsUptoCard : Claim7 := { stood := { row := radioTurnsUptoRow, standIns := [], harness := (true, "489f1daa762c5bd642fe5ccefbcd130ae727066ebc5f37da3dbd58fbb2a5b0dc"), looks := false }, kinds := [], alts := [], laidByText := true, laidKinds := [.data], laidTests := true, laidLooks := .later }
def RadioTurnsUptoCardSaid : Prop := Claim7.holds Tryd.pinned (.plain (OpenSpec.upto radioTurnsSpec)) radioTurnsUptoCard

/-- THE SECOND FORM's CARD OF 'reveillelaw12.RadioNone'. -/
def radioNoneUptoCard : Claim7 := { stood := { row := radioNoneUptoRow, standIns := [], harness := (true, "489f1daa762c5bd642fe5ccefbcd130ae727066ebc5f37da3dbd58fbb2a5b0dc"), looks := false }, kinds := [], alts := [], laidByText := true, laidKinds := [.data], laidTests := true, laidLooks := .later }
def RadioNoneUptoCardSaid : Prop := Claim7.holds Tryd.pinned (.plain (OpenSpec.upto radioNoneSpec)) radioNoneUptoCard
end Rows
end Go.Proofs.YtinocgngjhomcaaDoor
