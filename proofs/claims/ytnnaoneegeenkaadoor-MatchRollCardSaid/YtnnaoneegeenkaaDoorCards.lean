/-
  DERIVED. GIVEN WITH THE SEED: THE CARDS: each row of YtnnaoneegeenkaaDoorRows.lean that lists a variable, with what it lists TIED to the program's text (the seventh form; the later family's looks); each row that meets fmt, with fmt's text TOLD by the authors' own Lean function (tested against real Go, not proved from fmt's source: count such statements apart). THE CARD IS WHAT COUNTS. Prove the row's statement (the work); the ties are given (YtnnaoneegeenkaaDoorTie.lean); close each card by the builder's one call (the guide's Derived/Test/ToyasCard.lean, 'card_holds'). Laid BY PROGRAM, IN A SANDBOX (cutbox-door.mjs). By AI agents, Wed Nov 11 2026. No macro, syntax, notation, axiom, sorry.
-/
import Derived.Test.YtnnaoneegeenkaaDoorRows
import GoSem.ClaimSeven
namespace Go.Proofs.YtnnaoneegeenkaaDoor
namespace Rows

/-- THE TIED CARD OF 'reveillelaw13.RollPlan'. -/
def rollPlanCard : Claim7 := { stood := { row := rollPlanRow, standIns := [], harness := (true, "6b3f1481645e087b611a41ded90dea179cf38aa13853a63babe2ea21ba1f372a"), looks := false }, kinds := [], alts := [], laidByText := true, laidKinds := [.data, .data, .data, .data, .data], laidTests := true, laidLooks := .later }
def RollPlanCardSaid : Prop := Claim7.holds Tryd.pinned (.plain (OpenSpec.ofChange rollPlanSpec)) rollPlanCard

/-- THE TIED CARD OF 'reveillelaw13.RollKept'. -/
def rollKeptCard : Claim7 := { stood := { row := rollKeptRow, standIns := [], harness := (true, "6b3f1481645e087b611a41ded90dea179cf38aa13853a63babe2ea21ba1f372a"), looks := false }, kinds := [], alts := [], laidByText := true, laidKinds := [.data, .data, .data, .data, .data], laidTests := true, laidLooks := .later }
def RollKeptCardSaid : Prop := Claim7.holds Tryd.pinned (.plain (OpenSpec.ofChange rollKeptSpec)) rollKeptCard

/-- THE TIED CARD OF 'reveillelaw14.MatchSettings'. -/
def matchSettingsCard : Claim7 := { stood := { row := matchSettingsRow, standIns := [], harness := (true, "6b3f1481645e087b611a41ded90dea179cf38aa13853a63babe2ea21ba1f372a"), looks := false }, kinds := [], alts := [], laidByText := true, laidKinds := [.data, .data, .data, .data, .data], laidTests := true, laidLooks := .later }
def MatchSettingsCardSaid : Prop := Claim7.holds Tryd.pinned (.plain (OpenSpec.ofChange matchSettingsSpec)) matchSettingsCard

/-- THE TIED CARD OF 'reveillelaw14.MatchRoll'. -/
def matchRollCard : Claim7 := { stood := { row := matchRollRow, standIns := [], harness := (true, "6b3f1481645e087b611a41ded90dea179cf38aa13853a63babe2ea21ba1f372a"), looks := false }, kinds := [], alts := [], laidByText := true, laidKinds := [.data, .data, .data, .data, .data], laidTests := true, laidLooks := .later }
def MatchRollCardSaid : Prop := Claim7.holds Tryd.pinned (.plain (OpenSpec.ofChange matchRollSpec)) matchRollCard

/-- THE SECOND FORM's CARD OF 'reveillelaw13.RollPlan'. -/
def rollPlanUptoCard : Claim7 := { stood := { row := rollPlanUptoRow, standIns := [], harness := (true, "6b3f1481645e087b611a41ded90dea179cf38aa13853a63babe2ea21ba1f372a"), looks := false }, kinds := [], alts := [], laidByText := true, laidKinds := [.data, .data, .data, .data, .data], laidTests := true, laidLooks := .later }
def RollPlanUptoCardSaid : Prop := Claim7.holds Tryd.pinned (.plain (OpenSpec.upto rollPlanSpec)) rollPlanUptoCard

/-- THE SECOND FORM's CARD OF 'reveillelaw13.RollKept'. -/
def rollKeptUptoCard : Claim7 := { stood := { row := rollKeptUptoRow, standIns := [], harness := (true, "6b3f1481645e087b611a41ded90dea179cf38aa13853a63babe2ea21ba1f372a"), looks := false }, kinds := [], alts := [], laidByText := true, laidKinds := [.data, .data, .data, .data, .data], laidTests := true, laidLooks := .later }
def RollKeptUptoCardSaid : Prop := Claim7.holds Tryd.pinned (.plain (OpenSpec.upto rollKeptSpec)) rollKeptUptoCard

/-- THE SECOND FORM's CARD OF 'reveillelaw14.MatchSettings'. -/
def matchSettingsUptoCard : Claim7 := { stood := { row := matchSettingsUptoRow, standIns := [], harness := (true, "6b3f1481645e087b611a41ded90dea179cf38aa13853a63babe2ea21ba1f372a"), looks := false }, kinds := [], alts := [], laidByText := true, laidKinds := [.data, .data, .data, .data, .data], laidTests := true, laidLooks := .later }
def MatchSettingsUptoCardSaid : Prop := Claim7.holds Tryd.pinned (.plain (OpenSpec.upto matchSettingsSpec)) matchSettingsUptoCard

/-- THE SECOND FORM's CARD OF 'reveillelaw14.MatchRoll'. -/
def matchRollUptoCard : Claim7 := { stood := { row := matchRollUptoRow, standIns := [], harness := (true, "6b3f1481645e087b611a41ded90dea179cf38aa13853a63babe2ea21ba1f372a"), looks := false }, kinds := [], alts := [], laidByText := true, laidKinds := [.data, .data, .data, .data, .data], laidTests := true, laidLooks := .later }
def MatchRollUptoCardSaid : Prop := Claim7.holds Tryd.pinned (.plain (OpenSpec.upto matchRollSpec)) matchRollUptoCard
end Rows
end Go.Proofs.YtnnaoneegeenkaaDoor
