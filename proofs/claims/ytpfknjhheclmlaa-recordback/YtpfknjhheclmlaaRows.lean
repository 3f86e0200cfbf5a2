/-
  No cell of these rows narrows 'for every input' (looked for: loops, veiled, ifaces, maps, wideKeys, modest, calm, conditions, laid).
  DERIVED. THE GIVEN ROWS OF THIS SEAT. 6 by the template 'for every input the law returns true; each argument reads behind the call as it read before'; 0 by the template 'total and deterministic' (their statements: YtpfknjhheclmlaaTotals.lean).
  GIVEN WITH THE SEED: the statements are not yours to turn. If you find one false, say at which input.
  Laid BY PROGRAM, IN A SANDBOX (cutbox-rows.mjs): the forced cells as the released guide's own fill.sh prints them over the translation fb553152ad49c341… (all of the seat's roots in one cut). By AI agents, Wed Nov 11 2026. No macro, syntax, notation, axiom, sorry.
-/
import Derived.Test.YtpfknjhheclmlaaChecked
import GoSem.Claim
import GoSem.ClaimJoined
import GoSem.ClaimMapViews
import Derived.JoinedTies
import Derived.KernelRfl
namespace Go.Proofs.Ytpfknjhheclmlaa
/- THE CELL 'sum', in the pinned program and in every row, IS THE sha256 OF THE DUMP (.gsa) THAT YtpfknjhheclmlaaProg.lean LOADS. Nothing in Lean hashes anything: it is a label: what it is worth is what the hold of that sum in a sandbox is worth. -/
noncomputable def Try.pinned : Pinned := { name := "ytpfknjhheclmlaa", sum := "fb553152ad49c3418336d74ea3de0aa85cff2cba5e38ef33ca4cc11b633138ff", checked := Try.checked }
namespace Rows
def none {H : Type} : Left H := { results := [], args := [] }

/-- 'backwaterlaw07.RecordWrites': WHATEVER THE INPUT: true; the input reads as it did. -/
def recordWritesSpec : ChangeSpec := { name := "recordWrites", fn := fun _ => fun
  | [d1, d2, d3] => { results := [.lit (.bool true)], args := [d1, d2, d3] }
  | _ => none }
def recordWritesRow : OpenClaim := { program := "ytpfknjhheclmlaa", sum := "fb553152ad49c3418336d74ea3de0aa85cff2cba5e38ef33ca4cc11b633138ff", func := "backwater/backwaterlaw07.RecordWrites", spec := "recordWrites", unfollowed := true, recurses := true, apart := false }
def RecordWritesSaid : Prop := recordWritesRow.holds Try.pinned (OpenSpec.ofChange recordWritesSpec)

/-- ITS FALSE NEIGHBOUR: 'it returns false'. Refute it at one input. -/
def recordWritesWrong : ChangeSpec := { name := "recordWrites", fn := fun _ => fun
  | [d1, d2, d3] => { results := [.lit (.bool false)], args := [d1, d2, d3] }
  | _ => none }
def RecordWritesWrongFalsely : Prop := recordWritesRow.holds Try.pinned (OpenSpec.ofChange recordWritesWrong)

/-- 'backwaterlaw07.RecordReads': WHATEVER THE INPUT: true; the input reads as it did. -/
def recordReadsSpec : ChangeSpec := { name := "recordReads", fn := fun _ => fun
  | [d] => { results := [.lit (.bool true)], args := [d] }
  | _ => none }
def recordReadsRow : OpenClaim := { program := "ytpfknjhheclmlaa", sum := "fb553152ad49c3418336d74ea3de0aa85cff2cba5e38ef33ca4cc11b633138ff", func := "backwater/backwaterlaw07.RecordReads", spec := "recordReads", unfollowed := true, recurses := true, apart := false }
def RecordReadsSaid : Prop := recordReadsRow.holds Try.pinned (OpenSpec.ofChange recordReadsSpec)

/-- ITS FALSE NEIGHBOUR: 'it returns false'. Refute it at one input. -/
def recordReadsWrong : ChangeSpec := { name := "recordReads", fn := fun _ => fun
  | [d] => { results := [.lit (.bool false)], args := [d] }
  | _ => none }
def RecordReadsWrongFalsely : Prop := recordReadsRow.holds Try.pinned (OpenSpec.ofChange recordReadsWrong)

/-- 'backwaterlaw07.RecordSnaps': WHATEVER THE INPUT: true; the input reads as it did. -/
def recordSnapsSpec : ChangeSpec := { name := "recordSnaps", fn := fun _ => fun
  | [d1, d2] => { results := [.lit (.bool true)], args := [d1, d2] }
  | _ => none }
def recordSnapsRow : OpenClaim := { program := "ytpfknjhheclmlaa", sum := "fb553152ad49c3418336d74ea3de0aa85cff2cba5e38ef33ca4cc11b633138ff", func := "backwater/backwaterlaw07.RecordSnaps", spec := "recordSnaps", unfollowed := true, recurses := true, apart := false }
def RecordSnapsSaid : Prop := recordSnapsRow.holds Try.pinned (OpenSpec.ofChange recordSnapsSpec)

/-- ITS FALSE NEIGHBOUR: 'it returns false'. Refute it at one input. -/
def recordSnapsWrong : ChangeSpec := { name := "recordSnaps", fn := fun _ => fun
  | [d1, d2] => { results := [.lit (.bool false)], args := [d1, d2] }
  | _ => none }
def RecordSnapsWrongFalsely : Prop := recordSnapsRow.holds Try.pinned (OpenSpec.ofChange recordSnapsWrong)

/-- 'backwaterlaw07.RecordBack': WHATEVER THE INPUT: true; the input reads as it did. -/
def recordBackSpec : ChangeSpec := { name := "recordBack", fn := fun _ => fun
  | [d1, d2, d3] => { results := [.lit (.bool true)], args := [d1, d2, d3] }
  | _ => none }
def recordBackRow : OpenClaim := { program := "ytpfknjhheclmlaa", sum := "fb553152ad49c3418336d74ea3de0aa85cff2cba5e38ef33ca4cc11b633138ff", func := "backwater/backwaterlaw07.RecordBack", spec := "recordBack", unfollowed := true, recurses := true, apart := false }
def RecordBackSaid : Prop := recordBackRow.holds Try.pinned (OpenSpec.ofChange recordBackSpec)

/-- ITS FALSE NEIGHBOUR: 'it returns false'. Refute it at one input. -/
def recordBackWrong : ChangeSpec := { name := "recordBack", fn := fun _ => fun
  | [d1, d2, d3] => { results := [.lit (.bool false)], args := [d1, d2, d3] }
  | _ => none }
def RecordBackWrongFalsely : Prop := recordBackRow.holds Try.pinned (OpenSpec.ofChange recordBackWrong)

/-- 'backwaterlaw07.RecordNodes': WHATEVER THE INPUT: true; the input reads as it did. -/
def recordNodesSpec : ChangeSpec := { name := "recordNodes", fn := fun _ => fun
  | [d1, d2, d3] => { results := [.lit (.bool true)], args := [d1, d2, d3] }
  | _ => none }
def recordNodesRow : OpenClaim := { program := "ytpfknjhheclmlaa", sum := "fb553152ad49c3418336d74ea3de0aa85cff2cba5e38ef33ca4cc11b633138ff", func := "backwater/backwaterlaw07.RecordNodes", spec := "recordNodes", unfollowed := true, recurses := true, apart := false }
def RecordNodesSaid : Prop := recordNodesRow.holds Try.pinned (OpenSpec.ofChange recordNodesSpec)

/-- ITS FALSE NEIGHBOUR: 'it returns false'. Refute it at one input. -/
def recordNodesWrong : ChangeSpec := { name := "recordNodes", fn := fun _ => fun
  | [d1, d2, d3] => { results := [.lit (.bool false)], args := [d1, d2, d3] }
  | _ => none }
def RecordNodesWrongFalsely : Prop := recordNodesRow.holds Try.pinned (OpenSpec.ofChange recordNodesWrong)

/-- 'backwaterlaw07.RecordCuts': WHATEVER THE INPUT: true; the input reads as it did. -/
def recordCutsSpec : ChangeSpec := { name := "recordCuts", fn := fun _ => fun
  | [d1, d2, d3] => { results := [.lit (.bool true)], args := [d1, d2, d3] }
  | _ => none }
def recordCutsRow : OpenClaim := { program := "ytpfknjhheclmlaa", sum := "fb553152ad49c3418336d74ea3de0aa85cff2cba5e38ef33ca4cc11b633138ff", func := "backwater/backwaterlaw07.RecordCuts", spec := "recordCuts", unfollowed := true, recurses := true, apart := false }
def RecordCutsSaid : Prop := recordCutsRow.holds Try.pinned (OpenSpec.ofChange recordCutsSpec)

/-- ITS FALSE NEIGHBOUR: 'it returns false'. Refute it at one input. -/
def recordCutsWrong : ChangeSpec := { name := "recordCuts", fn := fun _ => fun
  | [d1, d2, d3] => { results := [.lit (.bool false)], args := [d1, d2, d3] }
  | _ => none }
def RecordCutsWrongFalsely : Prop := recordCutsRow.holds Try.pinned (OpenSpec.ofChange recordCutsWrong)

/- THE SECOND FORM. 'bulk': how many values and letters a reading holds, each counted each time it is reached (what is shared counts as often as it is met; a slice's spare places count too). A statement '..UptoSaid' is the law's where the arguments, and the package variables that the reading takes, are together of bulk at most 1048576: NARROWER than '..Said'. Prove '..Said' where nothing that the law and all that it calls make is longer than what came in: it says more and counts as full. Else prove '..UptoSaid'. A law counts once. -/
mutual
def uptoBulk {H : Type} : DataW H → Nat
  | .lit (.string bytes) => bytes.length + 1
  | .lit _ => 1
  | .nil => 1
  | .ptr d => uptoBulk d + 1
  | .slice elems spare => uptoBulkAll elems + uptoBulkAll spare + 1
  | .agg parts => uptoBulkAll parts + 1
  | .iface _ d => uptoBulk d + 1
  | .map entries => uptoBulkEntries entries + 1
  | .held _ => 1
def uptoBulkAll {H : Type} : List (DataW H) → Nat
  | [] => 0
  | d :: r => uptoBulk d + uptoBulkAll r
def uptoBulkEntries {H : Type} : List (Lit × DataW H) → Nat
  | [] => 0
  | x :: r => uptoBulkEntry x + uptoBulkEntries r
def uptoBulkEntry {H : Type} : Lit × DataW H → Nat
  | (.string bytes, d) => bytes.length + uptoBulk d + 1
  | (_, d) => uptoBulk d + 1
 end
def uptoSmall : (H : Type) → List (DataW H) → Bool := fun _ ds => decide (uptoBulkAll ds ≤ 1048576)
def OpenSpec.upto (s : _root_.Go.ChangeSpec) : _root_.Go.OpenSpec := { _root_.Go.OpenSpec.ofChange s with cond := some uptoSmall }

/-- 'backwaterlaw07.RecordWrites', WHERE WHAT IT READS IS OF BULK AT MOST 1048576: true; the input reads as it did. -/
def recordWritesUptoRow : OpenClaim := { program := "ytpfknjhheclmlaa", sum := "fb553152ad49c3418336d74ea3de0aa85cff2cba5e38ef33ca4cc11b633138ff", func := "backwater/backwaterlaw07.RecordWrites", spec := "recordWrites", unfollowed := true, recurses := true, apart := false, narrowed := true }
def RecordWritesUptoSaid : Prop := recordWritesUptoRow.holds Try.pinned (OpenSpec.upto recordWritesSpec)

/-- 'backwaterlaw07.RecordReads', WHERE WHAT IT READS IS OF BULK AT MOST 1048576: true; the input reads as it did. -/
def recordReadsUptoRow : OpenClaim := { program := "ytpfknjhheclmlaa", sum := "fb553152ad49c3418336d74ea3de0aa85cff2cba5e38ef33ca4cc11b633138ff", func := "backwater/backwaterlaw07.RecordReads", spec := "recordReads", unfollowed := true, recurses := true, apart := false, narrowed := true }
def RecordReadsUptoSaid : Prop := recordReadsUptoRow.holds Try.pinned (OpenSpec.upto recordReadsSpec)

/-- 'backwaterlaw07.RecordSnaps', WHERE WHAT IT READS IS OF BULK AT MOST 1048576: true; the input reads as it did. -/
def recordSnapsUptoRow : OpenClaim := { program := "ytpfknjhheclmlaa", sum := "fb553152ad49c3418336d74ea3de0aa85cff2cba5e38ef33ca4cc11b633138ff", func := "backwater/backwaterlaw07.RecordSnaps", spec := "recordSnaps", unfollowed := true, recurses := true, apart := false, narrowed := true }
def RecordSnapsUptoSaid : Prop := recordSnapsUptoRow.holds Try.pinned (OpenSpec.upto recordSnapsSpec)

/-- 'backwaterlaw07.RecordBack', WHERE WHAT IT READS IS OF BULK AT MOST 1048576: true; the input reads as it did. -/
def recordBackUptoRow : OpenClaim := { program := "ytpfknjhheclmlaa", sum := "fb553152ad49c3418336d74ea3de0aa85cff2cba5e38ef33ca4cc11b633138ff", func := "backwater/backwaterlaw07.RecordBack", spec := "recordBack", unfollowed := true, recurses := true, apart := false, narrowed := true }
def RecordBackUptoSaid : Prop := recordBackUptoRow.holds Try.pinned (OpenSpec.upto recordBackSpec)

/-- 'backwaterlaw07.RecordNodes', WHERE WHAT IT READS IS OF BULK AT MOST 1048576: true; the input reads as it did. -/
def recordNodesUptoRow : OpenClaim := { program := "ytpfknjhheclmlaa", sum := "fb553152ad49c3418336d74ea3de0aa85cff2cba5e38ef33ca4cc11b633138ff", func := "backwater/backwaterlaw07.RecordNodes", spec := "recordNodes", unfollowed := true, recurses := true, apart := false, narrowed := true }
def RecordNodesUptoSaid : Prop := recordNodesUptoRow.holds Try.pinned (OpenSpec.upto recordNodesSpec)

/-- 'backwaterlaw07.RecordCuts', WHERE WHAT IT READS IS OF BULK AT MOST 1048576: true; the input reads as it did. -/
def recordCutsUptoRow : OpenClaim := { program := "ytpfknjhheclmlaa", sum := "fb553152ad49c3418336d74ea3de0aa85cff2cba5e38ef33ca4cc11b633138ff", func := "backwater/backwaterlaw07.RecordCuts", spec := "recordCuts", unfollowed := true, recurses := true, apart := false, narrowed := true }
def RecordCutsUptoSaid : Prop := recordCutsUptoRow.holds Try.pinned (OpenSpec.upto recordCutsSpec)

end Rows
end Go.Proofs.Ytpfknjhheclmlaa
