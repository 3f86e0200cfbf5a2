/-
  No cell of these rows narrows 'for every input' (looked for: loops, veiled, ifaces, maps, wideKeys, modest, calm, conditions, laid).
  DERIVED. THE GIVEN ROWS OF THIS SEAT. 6 by the template 'for every input the law returns true; each argument reads behind the call as it read before'; 0 by the template 'total and deterministic' (their statements: YtloojakcknnilaaGreatTotals.lean).
  GIVEN WITH THE SEED: the statements are not yours to turn. If you find one false, say at which input.
  Laid BY PROGRAM, IN A SANDBOX (cutbox-rows.mjs): the forced cells as the released guide's own fill.sh prints them over the translation bb63a02accbf017b… (all of the seat's roots in one cut). By AI agents, Wed Nov 11 2026. No macro, syntax, notation, axiom, sorry.
-/
import Derived.Test.YtloojakcknnilaaGreatChecked
import GoSem.Claim
import GoSem.ClaimJoined
import GoSem.ClaimMapViews
import Derived.JoinedTies
import Derived.KernelRfl
namespace Go.Proofs.YtloojakcknnilaaGreat
/- THE CELL 'sum', in the pinned program and in every row, IS THE sha256 OF THE DUMP (.gsa) THAT YtloojakcknnilaaGreatProg.lean LOADS. Nothing in Lean hashes anything: it is a label: what it is worth is what the hold of that sum in a sandbox is worth. -/
noncomputable def Tryz.pinned : Pinned := { name := "ytloojakcknnilaagreat", sum := "bb63a02accbf017b132f2456be46b9b1b0415c58cdd694b3d3f58e9b702511e9", checked := Tryz.checked }
namespace Rows
def none {H : Type} : Left H := { results := [], args := [] }

/-- 'backwaterlaw06.TreeApplies': WHATEVER THE INPUT: true; the input reads as it did. -/
def treeAppliesSpec : ChangeSpec := { name := "treeApplies", fn := fun _ => fun
  | [d1, d2] => { results := [.lit (.bool true)], args := [d1, d2] }
  | _ => none }
def treeAppliesRow : OpenClaim := { program := "ytloojakcknnilaagreat", sum := "bb63a02accbf017b132f2456be46b9b1b0415c58cdd694b3d3f58e9b702511e9", func := "backwater/backwaterlaw06.TreeApplies", spec := "treeApplies", inPlace := ["slices.overlaps[backwater/api.Kid]"], unfollowed := true, recurses := true, apart := false }
def TreeAppliesSaid : Prop := treeAppliesRow.holds Tryz.pinned (OpenSpec.ofChange treeAppliesSpec)

/-- ITS FALSE NEIGHBOUR: 'it returns false'. Refute it at one input. -/
def treeAppliesWrong : ChangeSpec := { name := "treeApplies", fn := fun _ => fun
  | [d1, d2] => { results := [.lit (.bool false)], args := [d1, d2] }
  | _ => none }
def TreeAppliesWrongFalsely : Prop := treeAppliesRow.holds Tryz.pinned (OpenSpec.ofChange treeAppliesWrong)

/-- 'backwaterlaw06.TreeFolds': WHATEVER THE INPUT: true; the input reads as it did. -/
def treeFoldsSpec : ChangeSpec := { name := "treeFolds", fn := fun _ => fun
  | [d1, d2] => { results := [.lit (.bool true)], args := [d1, d2] }
  | _ => none }
def treeFoldsRow : OpenClaim := { program := "ytloojakcknnilaagreat", sum := "bb63a02accbf017b132f2456be46b9b1b0415c58cdd694b3d3f58e9b702511e9", func := "backwater/backwaterlaw06.TreeFolds", spec := "treeFolds", inPlace := ["slices.overlaps[backwater/api.Kid]"], unfollowed := true, recurses := true, apart := false }
def TreeFoldsSaid : Prop := treeFoldsRow.holds Tryz.pinned (OpenSpec.ofChange treeFoldsSpec)

/-- ITS FALSE NEIGHBOUR: 'it returns false'. Refute it at one input. -/
def treeFoldsWrong : ChangeSpec := { name := "treeFolds", fn := fun _ => fun
  | [d1, d2] => { results := [.lit (.bool false)], args := [d1, d2] }
  | _ => none }
def TreeFoldsWrongFalsely : Prop := treeFoldsRow.holds Tryz.pinned (OpenSpec.ofChange treeFoldsWrong)

/-- 'backwaterlaw06.TreeStays': WHATEVER THE INPUT: true; the input reads as it did. -/
def treeStaysSpec : ChangeSpec := { name := "treeStays", fn := fun _ => fun
  | [d] => { results := [.lit (.bool true)], args := [d] }
  | _ => none }
def treeStaysRow : OpenClaim := { program := "ytloojakcknnilaagreat", sum := "bb63a02accbf017b132f2456be46b9b1b0415c58cdd694b3d3f58e9b702511e9", func := "backwater/backwaterlaw06.TreeStays", spec := "treeStays", inPlace := ["slices.overlaps[backwater/api.Kid]"], unfollowed := true, recurses := true, apart := false }
def TreeStaysSaid : Prop := treeStaysRow.holds Tryz.pinned (OpenSpec.ofChange treeStaysSpec)

/-- ITS FALSE NEIGHBOUR: 'it returns false'. Refute it at one input. -/
def treeStaysWrong : ChangeSpec := { name := "treeStays", fn := fun _ => fun
  | [d] => { results := [.lit (.bool false)], args := [d] }
  | _ => none }
def TreeStaysWrongFalsely : Prop := treeStaysRow.holds Tryz.pinned (OpenSpec.ofChange treeStaysWrong)

/-- 'backwaterlaw06.TreeUndoes': WHATEVER THE INPUT: true; the input reads as it did. -/
def treeUndoesSpec : ChangeSpec := { name := "treeUndoes", fn := fun _ => fun
  | [d1, d2] => { results := [.lit (.bool true)], args := [d1, d2] }
  | _ => none }
def treeUndoesRow : OpenClaim := { program := "ytloojakcknnilaagreat", sum := "bb63a02accbf017b132f2456be46b9b1b0415c58cdd694b3d3f58e9b702511e9", func := "backwater/backwaterlaw06.TreeUndoes", spec := "treeUndoes", inPlace := ["slices.overlaps[backwater/api.Kid]"], unfollowed := true, recurses := true, apart := false }
def TreeUndoesSaid : Prop := treeUndoesRow.holds Tryz.pinned (OpenSpec.ofChange treeUndoesSpec)

/-- ITS FALSE NEIGHBOUR: 'it returns false'. Refute it at one input. -/
def treeUndoesWrong : ChangeSpec := { name := "treeUndoes", fn := fun _ => fun
  | [d1, d2] => { results := [.lit (.bool false)], args := [d1, d2] }
  | _ => none }
def TreeUndoesWrongFalsely : Prop := treeUndoesRow.holds Tryz.pinned (OpenSpec.ofChange treeUndoesWrong)

/-- 'backwaterlaw06.TreeRenames': WHATEVER THE INPUT: true; the input reads as it did. -/
def treeRenamesSpec : ChangeSpec := { name := "treeRenames", fn := fun _ => fun
  | [d1, d2] => { results := [.lit (.bool true)], args := [d1, d2] }
  | _ => none }
def treeRenamesRow : OpenClaim := { program := "ytloojakcknnilaagreat", sum := "bb63a02accbf017b132f2456be46b9b1b0415c58cdd694b3d3f58e9b702511e9", func := "backwater/backwaterlaw06.TreeRenames", spec := "treeRenames", inPlace := ["slices.overlaps[backwater/api.Kid]"], unfollowed := true, recurses := true, apart := false }
def TreeRenamesSaid : Prop := treeRenamesRow.holds Tryz.pinned (OpenSpec.ofChange treeRenamesSpec)

/-- ITS FALSE NEIGHBOUR: 'it returns false'. Refute it at one input. -/
def treeRenamesWrong : ChangeSpec := { name := "treeRenames", fn := fun _ => fun
  | [d1, d2] => { results := [.lit (.bool false)], args := [d1, d2] }
  | _ => none }
def TreeRenamesWrongFalsely : Prop := treeRenamesRow.holds Tryz.pinned (OpenSpec.ofChange treeRenamesWrong)

/-- 'backwaterlaw06.TreeStores': WHATEVER THE INPUT: true; the input reads as it did. -/
def treeStoresSpec : ChangeSpec := { name := "treeStores", fn := fun _ => fun
  | [d1, d2, d3] => { results := [.lit (.bool true)], args := [d1, d2, d3] }
  | _ => none }
def treeStoresRow : OpenClaim := { program := "ytloojakcknnilaagreat", sum := "bb63a02accbf017b132f2456be46b9b1b0415c58cdd694b3d3f58e9b702511e9", func := "backwater/backwaterlaw06.TreeStores", spec := "treeStores", inPlace := ["slices.overlaps[backwater/api.Kid]"], unfollowed := true, recurses := true, apart := false }
def TreeStoresSaid : Prop := treeStoresRow.holds Tryz.pinned (OpenSpec.ofChange treeStoresSpec)

/-- ITS FALSE NEIGHBOUR: 'it returns false'. Refute it at one input. -/
def treeStoresWrong : ChangeSpec := { name := "treeStores", fn := fun _ => fun
  | [d1, d2, d3] => { results := [.lit (.bool false)], args := [d1, d2, d3] }
  | _ => none }
def TreeStoresWrongFalsely : Prop := treeStoresRow.holds Tryz.pinned (OpenSpec.ofChange treeStoresWrong)

/- THE SECOND FORM. 'bulk': how many values and letters a reading holds, each counted each time it is reached (what is shared counts as often as it is met; a slice's spare places count too). A statement '..UptoSaid' is the law's where the arguments, and the package variables that the reading takes, are together of bulk at most 1048576: NARROWER than '..Said'. Prove '..Said' where nothing that the law and all that it calls make is longer than what came in: it says more and counts as full. Else prove '..UptoSaid'. A law counts once. -/
mutual
def uptoBulk {H : Type} : DataW H → Nat
  | .lit (.string bytes) => bytes.length + 1
  | .lit _ => 1
  | .nil => 1
  | .ptr d => uptoBulk d + 1
  | .slice elems spare => uptoBulkAll elems + uptoBulkAll spare + 1
  | .agg parts => uptoBulkAll parts + 1
  | .iface _ d => uptoBulk d + 1
  | .map entries => uptoBulkEntries entries + 1
  | .held _ => 1
def uptoBulkAll {H : Type} : List (DataW H) → Nat
  | [] => 0
  | d :: r => uptoBulk d + uptoBulkAll r
def uptoBulkEntries {H : Type} : List (Lit × DataW H) → Nat
  | [] => 0
  | x :: r => uptoBulkEntry x + uptoBulkEntries r
def uptoBulkEntry {H : Type} : Lit × DataW H → Nat
  | (.string bytes, d) => bytes.length + uptoBulk d + 1
  | (_, d) => uptoBulk d + 1
 end
def uptoSmall : (H : Type) → List (DataW H) → Bool := fun _ ds => decide (uptoBulkAll ds ≤ 1048576)
def OpenSpec.upto (s : _root_.Go.ChangeSpec) : _root_.Go.OpenSpec := { _root_.Go.OpenSpec.ofChange s with cond := some uptoSmall }

/-- 'backwaterlaw06.TreeApplies', WHERE WHAT IT READS IS OF BULK AT MOST 1048576: true; the input reads as it did. -/
def treeAppliesUptoRow : OpenClaim := { program := "ytloojakcknnilaagreat", sum := "bb63a02accbf017b132f2456be46b9b1b0415c58cdd694b3d3f58e9b702511e9", func := "backwater/backwaterlaw06.TreeApplies", spec := "treeApplies", inPlace := ["slices.overlaps[backwater/api.Kid]"], unfollowed := true, recurses := true, apart := false, narrowed := true }
def TreeAppliesUptoSaid : Prop := treeAppliesUptoRow.holds Tryz.pinned (OpenSpec.upto treeAppliesSpec)

/-- 'backwaterlaw06.TreeFolds', WHERE WHAT IT READS IS OF BULK AT MOST 1048576: true; the input reads as it did. -/
def treeFoldsUptoRow : OpenClaim := { program := "ytloojakcknnilaagreat", sum := "bb63a02accbf017b132f2456be46b9b1b0415c58cdd694b3d3f58e9b702511e9", func := "backwater/backwaterlaw06.TreeFolds", spec := "treeFolds", inPlace := ["slices.overlaps[backwater/api.Kid]"], unfollowed := true, recurses := true, apart := false, narrowed := true }
def TreeFoldsUptoSaid : Prop := treeFoldsUptoRow.holds Tryz.pinned (OpenSpec.upto treeFoldsSpec)

/-- 'backwaterlaw06.TreeStays', WHERE WHAT IT READS IS OF BULK AT MOST 1048576: true; the input reads as it did. -/
def treeStaysUptoRow : OpenClaim := { program := "ytloojakcknnilaagreat", sum := "bb63a02accbf017b132f2456be46b9b1b0415c58cdd694b3d3f58e9b702511e9", func := "backwater/backwaterlaw06.TreeStays", spec := "treeStays", inPlace := ["slices.overlaps[backwater/api.Kid]"], unfollowed := true, recurses := true, apart := false, narrowed := true }
def TreeStaysUptoSaid : Prop := treeStaysUptoRow.holds Tryz.pinned (OpenSpec.upto treeStaysSpec)

/-- 'backwaterlaw06.TreeUndoes', WHERE WHAT IT READS IS OF BULK AT MOST 1048576: true; the input reads as it did. -/
def treeUndoesUptoRow : OpenClaim := { program := "ytloojakcknnilaagreat", sum := "bb63a02accbf017b132f2456be46b9b1b0415c58cdd694b3d3f58e9b702511e9", func := "backwater/backwaterlaw06.TreeUndoes", spec := "treeUndoes", inPlace := ["slices.overlaps[backwater/api.Kid]"], unfollowed := true, recurses := true, apart := false, narrowed := true }
def TreeUndoesUptoSaid : Prop := treeUndoesUptoRow.holds Tryz.pinned (OpenSpec.upto treeUndoesSpec)

/-- 'backwaterlaw06.TreeRenames', WHERE WHAT IT READS IS OF BULK AT MOST 1048576: true; the input reads as it did. -/
def treeRenamesUptoRow : OpenClaim := { program := "ytloojakcknnilaagreat", sum := "bb63a02accbf017b132f2456be46b9b1b0415c58cdd694b3d3f58e9b702511e9", func := "backwater/backwaterlaw06.TreeRenames", spec := "treeRenames", inPlace := ["slices.overlaps[backwater/api.Kid]"], unfollowed := true, recurses := true, apart := false, narrowed := true }
def TreeRenamesUptoSaid : Prop := treeRenamesUptoRow.holds Tryz.pinned (OpenSpec.upto treeRenamesSpec)

/-- 'backwaterlaw06.TreeStores', WHERE WHAT IT READS IS OF BULK AT MOST 1048576: true; the input reads as it did. -/
def treeStoresUptoRow : OpenClaim := { program := "ytloojakcknnilaagreat", sum := "bb63a02accbf017b132f2456be46b9b1b0415c58cdd694b3d3f58e9b702511e9", func := "backwater/backwaterlaw06.TreeStores", spec := "treeStores", inPlace := ["slices.overlaps[backwater/api.Kid]"], unfollowed := true, recurses := true, apart := false, narrowed := true }
def TreeStoresUptoSaid : Prop := treeStoresUptoRow.holds Tryz.pinned (OpenSpec.upto treeStoresSpec)

end Rows
end Go.Proofs.YtloojakcknnilaaGreat
