/-
  No cell of these rows narrows 'for every input' (looked for: loops, veiled, ifaces, maps, wideKeys, modest, calm, conditions, laid).
  DERIVED. THE GIVEN ROWS OF THIS SEAT. 3 by the template 'for every input the law returns true; each argument reads behind the call as it read before'; 0 by the template 'total and deterministic' (their statements: YtgbdplammniidaaGreatTotals.lean).
  GIVEN WITH THE SEED: the statements are not yours to turn. If you find one false, say at which input.
  Laid BY PROGRAM, IN A SANDBOX (cutbox-rows.mjs): the forced cells as the released guide's own fill.sh prints them over the translation 721e121615fce636… (all of the seat's roots in one cut). By AI agents, Wed Nov 11 2026. No macro, syntax, notation, axiom, sorry.
-/
import Derived.Test.YtgbdplammniidaaGreatChecked
import GoSem.Claim
import GoSem.ClaimJoined
import GoSem.ClaimMapViews
import Derived.JoinedTies
import Derived.KernelRfl
namespace Go.Proofs.YtgbdplammniidaaGreat
/- THE CELL 'sum', in the pinned program and in every row, IS THE sha256 OF THE DUMP (.gsa) THAT YtgbdplammniidaaGreatProg.lean LOADS. Nothing in Lean hashes anything: it is a label: what it is worth is what the hold of that sum in a sandbox is worth. -/
noncomputable def Tryz.pinned : Pinned := { name := "ytgbdplammniidaagreat", sum := "721e121615fce636204b4647fd5b804ab0a37c8bb7f52cf897b8c84f333141ae", checked := Tryz.checked }
namespace Rows
def none {H : Type} : Left H := { results := [], args := [] }

/-- 'backwaterlaw06.TreeSame': WHATEVER THE INPUT: true; the input reads as it did. -/
def treeSameSpec : ChangeSpec := { name := "treeSame", fn := fun _ => fun
  | [d1, d2] => { results := [.lit (.bool true)], args := [d1, d2] }
  | _ => none }
def treeSameRow : OpenClaim := { program := "ytgbdplammniidaagreat", sum := "721e121615fce636204b4647fd5b804ab0a37c8bb7f52cf897b8c84f333141ae", func := "backwater/backwaterlaw06.TreeSame", spec := "treeSame", inPlace := ["slices.overlaps[backwater/api.Kid]"], unfollowed := true, recurses := true, apart := false }
def TreeSameSaid : Prop := treeSameRow.holds Tryz.pinned (OpenSpec.ofChange treeSameSpec)

/-- ITS FALSE NEIGHBOUR: 'it returns false'. Refute it at one input. -/
def treeSameWrong : ChangeSpec := { name := "treeSame", fn := fun _ => fun
  | [d1, d2] => { results := [.lit (.bool false)], args := [d1, d2] }
  | _ => none }
def TreeSameWrongFalsely : Prop := treeSameRow.holds Tryz.pinned (OpenSpec.ofChange treeSameWrong)

/-- 'backwaterlaw06.TreeHard': WHATEVER THE INPUT: true; the input reads as it did. -/
def treeHardSpec : ChangeSpec := { name := "treeHard", fn := fun _ => fun
  | [d1, d2, d3] => { results := [.lit (.bool true)], args := [d1, d2, d3] }
  | _ => none }
def treeHardRow : OpenClaim := { program := "ytgbdplammniidaagreat", sum := "721e121615fce636204b4647fd5b804ab0a37c8bb7f52cf897b8c84f333141ae", func := "backwater/backwaterlaw06.TreeHard", spec := "treeHard", inPlace := ["slices.overlaps[backwater/api.Kid]"], unfollowed := true, recurses := true, apart := false }
def TreeHardSaid : Prop := treeHardRow.holds Tryz.pinned (OpenSpec.ofChange treeHardSpec)

/-- ITS FALSE NEIGHBOUR: 'it returns false'. Refute it at one input. -/
def treeHardWrong : ChangeSpec := { name := "treeHard", fn := fun _ => fun
  | [d1, d2, d3] => { results := [.lit (.bool false)], args := [d1, d2, d3] }
  | _ => none }
def TreeHardWrongFalsely : Prop := treeHardRow.holds Tryz.pinned (OpenSpec.ofChange treeHardWrong)

/-- 'backwaterlaw06.TreeLoops': WHATEVER THE INPUT: true; the input reads as it did. -/
def treeLoopsSpec : ChangeSpec := { name := "treeLoops", fn := fun _ => fun
  | [d1, d2] => { results := [.lit (.bool true)], args := [d1, d2] }
  | _ => none }
def treeLoopsRow : OpenClaim := { program := "ytgbdplammniidaagreat", sum := "721e121615fce636204b4647fd5b804ab0a37c8bb7f52cf897b8c84f333141ae", func := "backwater/backwaterlaw06.TreeLoops", spec := "treeLoops", inPlace := ["slices.overlaps[backwater/api.Kid]"], unfollowed := true, recurses := true, apart := false }
def TreeLoopsSaid : Prop := treeLoopsRow.holds Tryz.pinned (OpenSpec.ofChange treeLoopsSpec)

/-- ITS FALSE NEIGHBOUR: 'it returns false'. Refute it at one input. -/
def treeLoopsWrong : ChangeSpec := { name := "treeLoops", fn := fun _ => fun
  | [d1, d2] => { results := [.lit (.bool false)], args := [d1, d2] }
  | _ => none }
def TreeLoopsWrongFalsely : Prop := treeLoopsRow.holds Tryz.pinned (OpenSpec.ofChange treeLoopsWrong)

/- THE SECOND FORM. 'bulk': how many values and letters a reading holds, each counted each time it is reached (what is shared counts as often as it is met; a slice's spare places count too). A statement '..UptoSaid' is the law's where the arguments, and the package variables that the reading takes, are together of bulk at most 1048576: NARROWER than '..Said'. Prove '..Said' where nothing that the law and all that it calls make is longer than what came in: it says more and counts as full. Else prove '..UptoSaid'. A law counts once. -/
mutual
def uptoBulk {H : Type} : DataW H → Nat
  | .lit (.string bytes) => bytes.length + 1
  | .lit _ => 1
  | .nil => 1
  | .ptr d => uptoBulk d + 1
  | .slice elems spare => uptoBulkAll elems + uptoBulkAll spare + 1
  | .agg parts => uptoBulkAll parts + 1
  | .iface _ d => uptoBulk d + 1
  | .map entries => uptoBulkEntries entries + 1
  | .held _ => 1
def uptoBulkAll {H : Type} : List (DataW H) → Nat
  | [] => 0
  | d :: r => uptoBulk d + uptoBulkAll r
def uptoBulkEntries {H : Type} : List (Lit × DataW H) → Nat
  | [] => 0
  | x :: r => uptoBulkEntry x + uptoBulkEntries r
def uptoBulkEntry {H : Type} : Lit × DataW H → Nat
  | (.string bytes, d) => bytes.length + uptoBulk d + 1
  | (_, d) => uptoBulk d + 1
 end
def uptoSmall : (H : Type) → List (DataW H) → Bool := fun _ ds => decide (uptoBulkAll ds ≤ 1048576)
def OpenSpec.upto (s : _root_.Go.ChangeSpec) : _root_.Go.OpenSpec := { _root_.Go.OpenSpec.ofChange s with cond := some uptoSmall }

/-- 'backwaterlaw06.TreeSame', WHERE WHAT IT READS IS OF BULK AT MOST 1048576: true; the input reads as it did. -/
def treeSameUptoRow : OpenClaim := { program := "ytgbdplammniidaagreat", sum := "721e121615fce636204b4647fd5b804ab0a37c8bb7f52cf897b8c84f333141ae", func := "backwater/backwaterlaw06.TreeSame", spec := "treeSame", inPlace := ["slices.overlaps[backwater/api.Kid]"], unfollowed := true, recurses := true, apart := false, narrowed := true }
def TreeSameUptoSaid : Prop := treeSameUptoRow.holds Tryz.pinned (OpenSpec.upto treeSameSpec)

/-- 'backwaterlaw06.TreeHard', WHERE WHAT IT READS IS OF BULK AT MOST 1048576: true; the input reads as it did. -/
def treeHardUptoRow : OpenClaim := { program := "ytgbdplammniidaagreat", sum := "721e121615fce636204b4647fd5b804ab0a37c8bb7f52cf897b8c84f333141ae", func := "backwater/backwaterlaw06.TreeHard", spec := "treeHard", inPlace := ["slices.overlaps[backwater/api.Kid]"], unfollowed := true, recurses := true, apart := false, narrowed := true }
def TreeHardUptoSaid : Prop := treeHardUptoRow.holds Tryz.pinned (OpenSpec.upto treeHardSpec)

/-- 'backwaterlaw06.TreeLoops', WHERE WHAT IT READS IS OF BULK AT MOST 1048576: true; the input reads as it did. -/
def treeLoopsUptoRow : OpenClaim := { program := "ytgbdplammniidaagreat", sum := "721e121615fce636204b4647fd5b804ab0a37c8bb7f52cf897b8c84f333141ae", func := "backwater/backwaterlaw06.TreeLoops", spec := "treeLoops", inPlace := ["slices.overlaps[backwater/api.Kid]"], unfollowed := true, recurses := true, apart := false, narrowed := true }
def TreeLoopsUptoSaid : Prop := treeLoopsUptoRow.holds Tryz.pinned (OpenSpec.upto treeLoopsSpec)

end Rows
end Go.Proofs.YtgbdplammniidaaGreat
