/-
  No cell of these rows narrows 'for every input' (looked for: loops, veiled, ifaces, maps, wideKeys, modest, calm, conditions, laid).
  DERIVED. THE GIVEN ROWS OF THIS SEAT. 3 by the template 'for every input the law returns true; each argument reads behind the call as it read before'; 0 by the template 'total and deterministic' (their statements: YtkjhngnpbdlmiaaTotals.lean).
  GIVEN WITH THE SEED: the statements are not yours to turn. If you find one false, say at which input.
  Laid BY PROGRAM, IN A SANDBOX (cutbox-rows.mjs): the forced cells as the released guide's own fill.sh prints them over the translation 1c85a72452e37d44… (all of the seat's roots in one cut). By AI agents, Wed Nov 11 2026. No macro, syntax, notation, axiom, sorry.
-/
import Derived.Test.YtkjhngnpbdlmiaaChecked
import GoSem.Claim
import GoSem.ClaimJoined
import GoSem.ClaimMapViews
import Derived.JoinedTies
import Derived.KernelRfl
namespace Go.Proofs.Ytkjhngnpbdlmiaa
/- THE CELL 'sum', in the pinned program and in every row, IS THE sha256 OF THE DUMP (.gsa) THAT YtkjhngnpbdlmiaaProg.lean LOADS. Nothing in Lean hashes anything: it is a label: what it is worth is what the hold of that sum in a sandbox is worth. -/
noncomputable def Try.pinned : Pinned := { name := "ytkjhngnpbdlmiaa", sum := "1c85a72452e37d446c0b2641058983a39559bd35a3a4169463bcec7d78e0d5ae", checked := Try.checked }
namespace Rows
def none {H : Type} : Left H := { results := [], args := [] }

/-- 'reveillelaw02.CellsReads': WHATEVER THE INPUT: true; the input reads as it did. -/
def cellsReadsSpec : ChangeSpec := { name := "cellsReads", fn := fun _ => fun
  | [d] => { results := [.lit (.bool true)], args := [d] }
  | _ => none }
def cellsReadsRow : OpenClaim := { program := "ytkjhngnpbdlmiaa", sum := "1c85a72452e37d446c0b2641058983a39559bd35a3a4169463bcec7d78e0d5ae", func := "reveille/reveillelaw02.CellsReads", spec := "cellsReads", inPlace := ["internal/bytealg.IndexByte"], unfollowed := true, recurses := true, apart := false }
def CellsReadsSaid : Prop := cellsReadsRow.holds Try.pinned (OpenSpec.ofChange cellsReadsSpec)

/-- ITS FALSE NEIGHBOUR: 'it returns false'. Refute it at one input. -/
def cellsReadsWrong : ChangeSpec := { name := "cellsReads", fn := fun _ => fun
  | [d] => { results := [.lit (.bool false)], args := [d] }
  | _ => none }
def CellsReadsWrongFalsely : Prop := cellsReadsRow.holds Try.pinned (OpenSpec.ofChange cellsReadsWrong)

/-- 'reveillelaw02.CellsMakes': WHATEVER THE INPUT: true; the input reads as it did. -/
def cellsMakesSpec : ChangeSpec := { name := "cellsMakes", fn := fun _ => fun
  | [d1, d2, d3] => { results := [.lit (.bool true)], args := [d1, d2, d3] }
  | _ => none }
def cellsMakesRow : OpenClaim := { program := "ytkjhngnpbdlmiaa", sum := "1c85a72452e37d446c0b2641058983a39559bd35a3a4169463bcec7d78e0d5ae", func := "reveille/reveillelaw02.CellsMakes", spec := "cellsMakes", inPlace := ["internal/bytealg.IndexByteString"], apart := false }
def CellsMakesSaid : Prop := cellsMakesRow.holds Try.pinned (OpenSpec.ofChange cellsMakesSpec)

/-- ITS FALSE NEIGHBOUR: 'it returns false'. Refute it at one input. -/
def cellsMakesWrong : ChangeSpec := { name := "cellsMakes", fn := fun _ => fun
  | [d1, d2, d3] => { results := [.lit (.bool false)], args := [d1, d2, d3] }
  | _ => none }
def CellsMakesWrongFalsely : Prop := cellsMakesRow.holds Try.pinned (OpenSpec.ofChange cellsMakesWrong)

/-- 'reveillelaw02.CellsReaders': WHATEVER THE INPUT: true; the input reads as it did. -/
def cellsReadersSpec : ChangeSpec := { name := "cellsReaders", fn := fun _ => fun
  | [d1, d2, d3] => { results := [.lit (.bool true)], args := [d1, d2, d3] }
  | _ => none }
def cellsReadersRow : OpenClaim := { program := "ytkjhngnpbdlmiaa", sum := "1c85a72452e37d446c0b2641058983a39559bd35a3a4169463bcec7d78e0d5ae", func := "reveille/reveillelaw02.CellsReaders", spec := "cellsReaders", inPlace := ["internal/bytealg.IndexByte"], apart := false }
def CellsReadersSaid : Prop := cellsReadersRow.holds Try.pinned (OpenSpec.ofChange cellsReadersSpec)

/-- ITS FALSE NEIGHBOUR: 'it returns false'. Refute it at one input. -/
def cellsReadersWrong : ChangeSpec := { name := "cellsReaders", fn := fun _ => fun
  | [d1, d2, d3] => { results := [.lit (.bool false)], args := [d1, d2, d3] }
  | _ => none }
def CellsReadersWrongFalsely : Prop := cellsReadersRow.holds Try.pinned (OpenSpec.ofChange cellsReadersWrong)

/- THE SECOND FORM. 'bulk': how many values and letters a reading holds, each counted each time it is reached (what is shared counts as often as it is met; a slice's spare places count too). A statement '..UptoSaid' is the law's where the arguments, and the package variables that the reading takes, are together of bulk at most 1048576: NARROWER than '..Said'. Prove '..Said' where nothing that the law and all that it calls make is longer than what came in: it says more and counts as full. Else prove '..UptoSaid'. A law counts once. -/
mutual
def uptoBulk {H : Type} : DataW H → Nat
  | .lit (.string bytes) => bytes.length + 1
  | .lit _ => 1
  | .nil => 1
  | .ptr d => uptoBulk d + 1
  | .slice elems spare => uptoBulkAll elems + uptoBulkAll spare + 1
  | .agg parts => uptoBulkAll parts + 1
  | .iface _ d => uptoBulk d + 1
  | .map entries => uptoBulkEntries entries + 1
  | .held _ => 1
def uptoBulkAll {H : Type} : List (DataW H) → Nat
  | [] => 0
  | d :: r => uptoBulk d + uptoBulkAll r
def uptoBulkEntries {H : Type} : List (Lit × DataW H) → Nat
  | [] => 0
  | x :: r => uptoBulkEntry x + uptoBulkEntries r
def uptoBulkEntry {H : Type} : Lit × DataW H → Nat
  | (.string bytes, d) => bytes.length + uptoBulk d + 1
  | (_, d) => uptoBulk d + 1
 end
def uptoSmall : (H : Type) → List (DataW H) → Bool := fun _ ds => decide (uptoBulkAll ds ≤ 1048576)
def OpenSpec.upto (s : _root_.Go.ChangeSpec) : _root_.Go.OpenSpec := { _root_.Go.OpenSpec.ofChange s with cond := some uptoSmall }

/-- 'reveillelaw02.CellsReads', WHERE WHAT IT READS IS OF BULK AT MOST 1048576: true; the input reads as it did. -/
def cellsReadsUptoRow : OpenClaim := { program := "ytkjhngnpbdlmiaa", sum := "1c85a72452e37d446c0b2641058983a39559bd35a3a4169463bcec7d78e0d5ae", func := "reveille/reveillelaw02.CellsReads", spec := "cellsReads", inPlace := ["internal/bytealg.IndexByte"], unfollowed := true, recurses := true, apart := false, narrowed := true }
def CellsReadsUptoSaid : Prop := cellsReadsUptoRow.holds Try.pinned (OpenSpec.upto cellsReadsSpec)

/-- 'reveillelaw02.CellsMakes', WHERE WHAT IT READS IS OF BULK AT MOST 1048576: true; the input reads as it did. -/
def cellsMakesUptoRow : OpenClaim := { program := "ytkjhngnpbdlmiaa", sum := "1c85a72452e37d446c0b2641058983a39559bd35a3a4169463bcec7d78e0d5ae", func := "reveille/reveillelaw02.CellsMakes", spec := "cellsMakes", inPlace := ["internal/bytealg.IndexByteString"], apart := false, narrowed := true }
def CellsMakesUptoSaid : Prop := cellsMakesUptoRow.holds Try.pinned (OpenSpec.upto cellsMakesSpec)

/-- 'reveillelaw02.CellsReaders', WHERE WHAT IT READS IS OF BULK AT MOST 1048576: true; the input reads as it did. -/
def cellsReadersUptoRow : OpenClaim := { program := "ytkjhngnpbdlmiaa", sum := "1c85a72452e37d446c0b2641058983a39559bd35a3a4169463bcec7d78e0d5ae", func := "reveille/reveillelaw02.CellsReaders", spec := "cellsReaders", inPlace := ["internal/bytealg.IndexByte"], apart := false, narrowed := true }
def CellsReadersUptoSaid : Prop := cellsReadersUptoRow.holds Try.pinned (OpenSpec.upto cellsReadersSpec)

end Rows
end Go.Proofs.Ytkjhngnpbdlmiaa
