/-
  No cell of these rows narrows 'for every input' (looked for: loops, veiled, ifaces, maps, wideKeys, modest, calm, conditions, laid).
  DERIVED. THE GIVEN ROWS OF THIS SEAT. 3 by the template 'for every input the law returns true; each argument reads behind the call as it read before'; 0 by the template 'total and deterministic' (their statements: YtbgninmkglgfeaaTotals.lean).
  GIVEN WITH THE SEED: the statements are not yours to turn. If you find one false, say at which input.
  Laid BY PROGRAM, IN A SANDBOX (cutbox-rows.mjs): the forced cells as the released guide's own fill.sh prints them over the translation 3dbec089a3c38f5d… (all of the seat's roots in one cut). By AI agents, Wed Nov 11 2026. No macro, syntax, notation, axiom, sorry.
-/
import Derived.Test.YtbgninmkglgfeaaChecked
import GoSem.Claim
import GoSem.ClaimJoined
import GoSem.ClaimMapViews
import Derived.JoinedTies
import Derived.KernelRfl
namespace Go.Proofs.Ytbgninmkglgfeaa
/- THE CELL 'sum', in the pinned program and in every row, IS THE sha256 OF THE DUMP (.gsa) THAT YtbgninmkglgfeaaProg.lean LOADS. Nothing in Lean hashes anything: it is a label: what it is worth is what the hold of that sum in a sandbox is worth. -/
noncomputable def Try.pinned : Pinned := { name := "ytbgninmkglgfeaa", sum := "3dbec089a3c38f5d37c699eb7e7bb3c1dab6960bbc2ce9552c5aa77074bff401", checked := Try.checked }
namespace Rows
def none {H : Type} : Left H := { results := [], args := [] }

/-- 'backwaterlaw07.RecordReads': WHATEVER THE INPUT: true; the input reads as it did. -/
def recordReadsSpec : ChangeSpec := { name := "recordReads", fn := fun _ => fun
  | [d] => { results := [.lit (.bool true)], args := [d] }
  | _ => none }
def recordReadsRow : OpenClaim := { program := "ytbgninmkglgfeaa", sum := "3dbec089a3c38f5d37c699eb7e7bb3c1dab6960bbc2ce9552c5aa77074bff401", func := "backwater/backwaterlaw07.RecordReads", spec := "recordReads", unfollowed := true, recurses := true, apart := false }
def RecordReadsSaid : Prop := recordReadsRow.holds Try.pinned (OpenSpec.ofChange recordReadsSpec)

/-- ITS FALSE NEIGHBOUR: 'it returns false'. Refute it at one input. -/
def recordReadsWrong : ChangeSpec := { name := "recordReads", fn := fun _ => fun
  | [d] => { results := [.lit (.bool false)], args := [d] }
  | _ => none }
def RecordReadsWrongFalsely : Prop := recordReadsRow.holds Try.pinned (OpenSpec.ofChange recordReadsWrong)

/-- 'backwaterlaw07.RecordSnaps': WHATEVER THE INPUT: true; the input reads as it did. -/
def recordSnapsSpec : ChangeSpec := { name := "recordSnaps", fn := fun _ => fun
  | [d1, d2] => { results := [.lit (.bool true)], args := [d1, d2] }
  | _ => none }
def recordSnapsRow : OpenClaim := { program := "ytbgninmkglgfeaa", sum := "3dbec089a3c38f5d37c699eb7e7bb3c1dab6960bbc2ce9552c5aa77074bff401", func := "backwater/backwaterlaw07.RecordSnaps", spec := "recordSnaps", unfollowed := true, recurses := true, apart := false }
def RecordSnapsSaid : Prop := recordSnapsRow.holds Try.pinned (OpenSpec.ofChange recordSnapsSpec)

/-- ITS FALSE NEIGHBOUR: 'it returns false'. Refute it at one input. -/
def recordSnapsWrong : ChangeSpec := { name := "recordSnaps", fn := fun _ => fun
  | [d1, d2] => { results := [.lit (.bool false)], args := [d1, d2] }
  | _ => none }
def RecordSnapsWrongFalsely : Prop := recordSnapsRow.holds Try.pinned (OpenSpec.ofChange recordSnapsWrong)

/-- 'backwaterlaw07.RecordNodes': WHATEVER THE INPUT: true; the input reads as it did. -/
def recordNodesSpec : ChangeSpec := { name := "recordNodes", fn := fun _ => fun
  | [d1, d2, d3] => { results := [.lit (.bool true)], args := [d1, d2, d3] }
  | _ => none }
def recordNodesRow : OpenClaim := { program := "ytbgninmkglgfeaa", sum := "3dbec089a3c38f5d37c699eb7e7bb3c1dab6960bbc2ce9552c5aa77074bff401", func := "backwater/backwaterlaw07.RecordNodes", spec := "recordNodes", unfollowed := true, recurses := true, apart := false }
def RecordNodesSaid : Prop := recordNodesRow.holds Try.pinned (OpenSpec.ofChange recordNodesSpec)

/-- ITS FALSE NEIGHBOUR: 'it returns false'. Refute it at one input. -/
def recordNodesWrong : ChangeSpec := { name := "recordNodes", fn := fun _ => fun
  | [d1, d2, d3] => { results := [.lit (.bool false)], args := [d1, d2, d3] }
  | _ => none }
def RecordNodesWrongFalsely : Prop := recordNodesRow.holds Try.pinned (OpenSpec.ofChange recordNodesWrong)

/- THE SECOND FORM. 'bulk': how many values and letters a reading holds, each counted each time it is reached (what is shared counts as often as it is met; a slice's spare places count too). A statement '..UptoSaid' is the law's where the arguments, and the package variables that the reading takes, are together of bulk at most 1048576: NARROWER than '..Said'. Prove '..Said' where nothing that the law and all that it calls make is longer than what came in: it says more and counts as full. Else prove '..UptoSaid'. A law counts once. -/
mutual
def uptoBulk {H : Type} : DataW H → Nat
  | .lit (.string bytes) => bytes.length + 1
  | .lit _ => 1
  | .nil => 1
  | .ptr d => uptoBulk d + 1
  | .slice elems spare => uptoBulkAll elems + uptoBulkAll spare + 1
  | .agg parts => uptoBulkAll parts + 1
  | .iface _ d => uptoBulk d + 1
  | .map entries => uptoBulkEntries entries + 1
  | .held _ => 1
def uptoBulkAll {H : Type} : List (DataW H) → Nat
  | [] => 0
  | d :: r => uptoBulk d + uptoBulkAll r
def uptoBulkEntries {H : Type} : List (Lit × DataW H) → Nat
  | [] => 0
  | x :: r => uptoBulkEntry x + uptoBulkEntries r
def uptoBulkEntry {H : Type} : Lit × DataW H → Nat
  | (.string bytes, d) => bytes.length + uptoBulk d + 1
  | (_, d) => uptoBulk d + 1
 end
def uptoSmall : (H : Type) → List (DataW H) → Bool := fun _ ds => decide (uptoBulkAll ds ≤ 1048576)
def OpenSpec.upto (s : _root_.Go.ChangeSpec) : _root_.Go.OpenSpec := { _root_.Go.OpenSpec.ofChange s with cond := some uptoSmall }

/-- 'backwaterlaw07.RecordReads', WHERE WHAT IT READS IS OF BULK AT MOST 1048576: true; the input reads as it did. -/
def recordReadsUptoRow : OpenClaim := { program := "ytbgninmkglgfeaa", sum := "3dbec089a3c38f5d37c699eb7e7bb3c1dab6960bbc2ce9552c5aa77074bff401", func := "backwater/backwaterlaw07.RecordReads", spec := "recordReads", unfollowed := true, recurses := true, apart := false, narrowed := true }
def RecordReadsUptoSaid : Prop := recordReadsUptoRow.holds Try.pinned (OpenSpec.upto recordReadsSpec)

/-- 'backwaterlaw07.RecordSnaps', WHERE WHAT IT READS IS OF BULK AT MOST 1048576: true; the input reads as it did. -/
def recordSnapsUptoRow : OpenClaim := { program := "ytbgninmkglgfeaa", sum := "3dbec089a3c38f5d37c699eb7e7bb3c1dab6960bbc2ce9552c5aa77074bff401", func := "backwater/backwaterlaw07.RecordSnaps", spec := "recordSnaps", unfollowed := true, recurses := true, apart := false, narrowed := true }
def RecordSnapsUptoSaid : Prop := recordSnapsUptoRow.holds Try.pinned (OpenSpec.upto recordSnapsSpec)

/-- 'backwaterlaw07.RecordNodes', WHERE WHAT IT READS IS OF BULK AT MOST 1048576: true; the input reads as it did. -/
def recordNodesUptoRow : OpenClaim := { program := "ytbgninmkglgfeaa", sum := "3dbec089a3c38f5d37c699eb7e7bb3c1dab6960bbc2ce9552c5aa77074bff401", func := "backwater/backwaterlaw07.RecordNodes", spec := "recordNodes", unfollowed := true, recurses := true, apart := false, narrowed := true }
def RecordNodesUptoSaid : Prop := recordNodesUptoRow.holds Try.pinned (OpenSpec.upto recordNodesSpec)

end Rows
end Go.Proofs.Ytbgninmkglgfeaa
