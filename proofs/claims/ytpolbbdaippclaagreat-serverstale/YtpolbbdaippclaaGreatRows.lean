/-
  No cell of these rows narrows 'for every input' (looked for: loops, veiled, ifaces, maps, wideKeys, modest, calm, conditions, laid).
  DERIVED. THE GIVEN ROWS OF THIS SEAT. 3 by the template 'for every input the law returns true; each argument reads behind the call as it read before'; 0 by the template 'total and deterministic' (their statements: YtpolbbdaippclaaGreatTotals.lean).
  GIVEN WITH THE SEED: the statements are not yours to turn. If you find one false, say at which input.
  Laid BY PROGRAM, IN A SANDBOX (cutbox-rows.mjs): the forced cells as the released guide's own fill.sh prints them over the translation 0706e27a90aa26ad… (all of the seat's roots in one cut). By AI agents, Wed Nov 11 2026. No macro, syntax, notation, axiom, sorry.
-/
import Derived.Test.YtpolbbdaippclaaGreatChecked
import GoSem.Claim
import GoSem.ClaimJoined
import GoSem.ClaimMapViews
import Derived.JoinedTies
import Derived.KernelRfl
namespace Go.Proofs.YtpolbbdaippclaaGreat
/- THE CELL 'sum', in the pinned program and in every row, IS THE sha256 OF THE DUMP (.gsa) THAT YtpolbbdaippclaaGreatProg.lean LOADS. Nothing in Lean hashes anything: it is a label: what it is worth is what the hold of that sum in a sandbox is worth. -/
noncomputable def Tryz.pinned : Pinned := { name := "ytpolbbdaippclaagreat", sum := "0706e27a90aa26ad25ea45de60d33f64bd6292d233c347664724a56b225652f6", checked := Tryz.checked }
namespace Rows
def none {H : Type} : Left H := { results := [], args := [] }

/-- 'backwaterlaw12.ServerStale': WHATEVER THE INPUT: true; the input reads as it did. -/
def serverStaleSpec : ChangeSpec := { name := "serverStale", fn := fun _ => fun
  | [d1, d2, d3] => { results := [.lit (.bool true)], args := [d1, d2, d3] }
  | _ => none }
def serverStaleRow : OpenClaim := { program := "ytpolbbdaippclaagreat", sum := "0706e27a90aa26ad25ea45de60d33f64bd6292d233c347664724a56b225652f6", func := "backwater/backwaterlaw12.ServerStale", spec := "serverStale", inPlace := ["maps.clone", "slices.overlaps[backwater/api.Kid]"], unfollowed := true, recurses := true, apart := false }
def ServerStaleSaid : Prop := serverStaleRow.holds Tryz.pinned (OpenSpec.ofChange serverStaleSpec)

/-- ITS FALSE NEIGHBOUR: 'it returns false'. Refute it at one input. -/
def serverStaleWrong : ChangeSpec := { name := "serverStale", fn := fun _ => fun
  | [d1, d2, d3] => { results := [.lit (.bool false)], args := [d1, d2, d3] }
  | _ => none }
def ServerStaleWrongFalsely : Prop := serverStaleRow.holds Tryz.pinned (OpenSpec.ofChange serverStaleWrong)

/-- 'backwaterlaw12.ServerNone': WHATEVER THE INPUT: true; the input reads as it did. -/
def serverNoneSpec : ChangeSpec := { name := "serverNone", fn := fun _ => fun
  | [d1, d2] => { results := [.lit (.bool true)], args := [d1, d2] }
  | _ => none }
def serverNoneRow : OpenClaim := { program := "ytpolbbdaippclaagreat", sum := "0706e27a90aa26ad25ea45de60d33f64bd6292d233c347664724a56b225652f6", func := "backwater/backwaterlaw12.ServerNone", spec := "serverNone", inPlace := ["slices.overlaps[backwater/api.Kid]", "maps.clone"], unfollowed := true, recurses := true, apart := false }
def ServerNoneSaid : Prop := serverNoneRow.holds Tryz.pinned (OpenSpec.ofChange serverNoneSpec)

/-- ITS FALSE NEIGHBOUR: 'it returns false'. Refute it at one input. -/
def serverNoneWrong : ChangeSpec := { name := "serverNone", fn := fun _ => fun
  | [d1, d2] => { results := [.lit (.bool false)], args := [d1, d2] }
  | _ => none }
def ServerNoneWrongFalsely : Prop := serverNoneRow.holds Tryz.pinned (OpenSpec.ofChange serverNoneWrong)

/-- 'backwatertop.TopLate': WHATEVER THE INPUT: true; the input reads as it did. -/
def topLateSpec : ChangeSpec := { name := "topLate", fn := fun _ => fun
  | [d1, d2] => { results := [.lit (.bool true)], args := [d1, d2] }
  | _ => none }
def topLateRow : OpenClaim := { program := "ytpolbbdaippclaagreat", sum := "0706e27a90aa26ad25ea45de60d33f64bd6292d233c347664724a56b225652f6", func := "backwater/backwatertop.TopLate", spec := "topLate", inPlace := ["maps.clone", "slices.overlaps[backwater/api.Kid]"], unfollowed := true, recurses := true, apart := false }
def TopLateSaid : Prop := topLateRow.holds Tryz.pinned (OpenSpec.ofChange topLateSpec)

/-- ITS FALSE NEIGHBOUR: 'it returns false'. Refute it at one input. -/
def topLateWrong : ChangeSpec := { name := "topLate", fn := fun _ => fun
  | [d1, d2] => { results := [.lit (.bool false)], args := [d1, d2] }
  | _ => none }
def TopLateWrongFalsely : Prop := topLateRow.holds Tryz.pinned (OpenSpec.ofChange topLateWrong)

/- THE SECOND FORM. 'bulk': how many values and letters a reading holds, each counted each time it is reached (what is shared counts as often as it is met; a slice's spare places count too). A statement '..UptoSaid' is the law's where the arguments, and the package variables that the reading takes, are together of bulk at most 1048576: NARROWER than '..Said'. Prove '..Said' where nothing that the law and all that it calls make is longer than what came in: it says more and counts as full. Else prove '..UptoSaid'. A law counts once. -/
mutual
def uptoBulk {H : Type} : DataW H → Nat
  | .lit (.string bytes) => bytes.length + 1
  | .lit _ => 1
  | .nil => 1
  | .ptr d => uptoBulk d + 1
  | .slice elems spare => uptoBulkAll elems + uptoBulkAll spare + 1
  | .agg parts => uptoBulkAll parts + 1
  | .iface _ d => uptoBulk d + 1
  | .map entries => uptoBulkEntries entries + 1
  | .held _ => 1
def uptoBulkAll {H : Type} : List (DataW H) → Nat
  | [] => 0
  | d :: r => uptoBulk d + uptoBulkAll r
def uptoBulkEntries {H : Type} : List (Lit × DataW H) → Nat
  | [] => 0
  | x :: r => uptoBulkEntry x + uptoBulkEntries r
def uptoBulkEntry {H : Type} : Lit × DataW H → Nat
  | (.string bytes, d) => bytes.length + uptoBulk d + 1
  | (_, d) => uptoBulk d + 1
 end
def uptoSmall : (H : Type) → List (DataW H) → Bool := fun _ ds => decide (uptoBulkAll ds ≤ 1048576)
def OpenSpec.upto (s : _root_.Go.ChangeSpec) : _root_.Go.OpenSpec := { _root_.Go.OpenSpec.ofChange s with cond := some uptoSmall }

/-- 'backwaterlaw12.ServerStale', WHERE WHAT IT READS IS OF BULK AT MOST 1048576: true; the input reads as it did. -/
def serverStaleUptoRow : OpenClaim := { program := "ytpolbbdaippclaagreat", sum := "0706e27a90aa26ad25ea45de60d33f64bd6292d233c347664724a56b225652f6", func := "backwater/backwaterlaw12.ServerStale", spec := "serverStale", inPlace := ["maps.clone", "slices.overlaps[backwater/api.Kid]"], unfollowed := true, recurses := true, apart := false, narrowed := true }
def ServerStaleUptoSaid : Prop := serverStaleUptoRow.holds Tryz.pinned (OpenSpec.upto serverStaleSpec)

/-- 'backwaterlaw12.ServerNone', WHERE WHAT IT READS IS OF BULK AT MOST 1048576: true; the input reads as it did. -/
def serverNoneUptoRow : OpenClaim := { program := "ytpolbbdaippclaagreat", sum := "0706e27a90aa26ad25ea45de60d33f64bd6292d233c347664724a56b225652f6", func := "backwater/backwaterlaw12.ServerNone", spec := "serverNone", inPlace := ["slices.overlaps[backwater/api.Kid]", "maps.clone"], unfollowed := true, recurses := true, apart := false, narrowed := true }
def ServerNoneUptoSaid : Prop := serverNoneUptoRow.holds Tryz.pinned (OpenSpec.upto serverNoneSpec)

/-- 'backwatertop.TopLate', WHERE WHAT IT READS IS OF BULK AT MOST 1048576: true; the input reads as it did. -/
def topLateUptoRow : OpenClaim := { program := "ytpolbbdaippclaagreat", sum := "0706e27a90aa26ad25ea45de60d33f64bd6292d233c347664724a56b225652f6", func := "backwater/backwatertop.TopLate", spec := "topLate", inPlace := ["maps.clone", "slices.overlaps[backwater/api.Kid]"], unfollowed := true, recurses := true, apart := false, narrowed := true }
def TopLateUptoSaid : Prop := topLateUptoRow.holds Tryz.pinned (OpenSpec.upto topLateSpec)

end Rows
end Go.Proofs.YtpolbbdaippclaaGreat
