/-
  No cell of these rows narrows 'for every input' (looked for: loops, veiled, ifaces, maps, wideKeys, modest, calm, conditions, laid).
  DERIVED. THE GIVEN ROWS OF THIS SEAT. 2 by the template 'for every input the law returns true; each argument reads behind the call as it read before'; 0 by the template 'total and deterministic' (their statements: YtihgiemgcmpmmaaGreatTotals.lean).
  GIVEN WITH THE SEED: the statements are not yours to turn. If you find one false, say at which input.
  Laid BY PROGRAM, IN A SANDBOX (cutbox-rows.mjs): the forced cells as the released guide's own fill.sh prints them over the translation c40cd2f8757659d0… (all of the seat's roots in one cut). By AI agents, Wed Nov 11 2026. No macro, syntax, notation, axiom, sorry.
-/
import Derived.Test.YtihgiemgcmpmmaaGreatChecked
import GoSem.Claim
import GoSem.ClaimJoined
import GoSem.ClaimMapViews
import Derived.JoinedTies
import Derived.KernelRfl
namespace Go.Proofs.YtihgiemgcmpmmaaGreat
/- THE CELL 'sum', in the pinned program and in every row, IS THE sha256 OF THE DUMP (.gsa) THAT YtihgiemgcmpmmaaGreatProg.lean LOADS. Nothing in Lean hashes anything: it is a label: what it is worth is what the hold of that sum in a sandbox is worth. -/
noncomputable def Tryz.pinned : Pinned := { name := "ytihgiemgcmpmmaagreat", sum := "c40cd2f8757659d08cb81c66a0a16c2d24cccfe422d622a2823ac2e6157f1156", checked := Tryz.checked }
namespace Rows
def none {H : Type} : Left H := { results := [], args := [] }

/-- 'backwatertop.TopShorter': WHATEVER THE INPUT: true; the input reads as it did. -/
def topShorterSpec : ChangeSpec := { name := "topShorter", fn := fun _ => fun
  | [d] => { results := [.lit (.bool true)], args := [d] }
  | _ => none }
def topShorterRow : OpenClaim := { program := "ytihgiemgcmpmmaagreat", sum := "c40cd2f8757659d08cb81c66a0a16c2d24cccfe422d622a2823ac2e6157f1156", func := "backwater/backwatertop.TopShorter", spec := "topShorter", inPlace := ["slices.overlaps[backwater/api.Kid]"], unfollowed := true, recurses := true, plainKeys := false, apart := false }
def TopShorterSaid : Prop := topShorterRow.holds Tryz.pinned (OpenSpec.ofChange topShorterSpec)

/-- ITS FALSE NEIGHBOUR: 'it returns false'. Refute it at one input. -/
def topShorterWrong : ChangeSpec := { name := "topShorter", fn := fun _ => fun
  | [d] => { results := [.lit (.bool false)], args := [d] }
  | _ => none }
def TopShorterWrongFalsely : Prop := topShorterRow.holds Tryz.pinned (OpenSpec.ofChange topShorterWrong)

/-- 'backwatertop.TopCancels': WHATEVER THE INPUT: true; the input reads as it did. -/
def topCancelsSpec : ChangeSpec := { name := "topCancels", fn := fun _ => fun
  | [d1, d2] => { results := [.lit (.bool true)], args := [d1, d2] }
  | _ => none }
def topCancelsRow : OpenClaim := { program := "ytihgiemgcmpmmaagreat", sum := "c40cd2f8757659d08cb81c66a0a16c2d24cccfe422d622a2823ac2e6157f1156", func := "backwater/backwatertop.TopCancels", spec := "topCancels", inPlace := ["slices.overlaps[backwater/api.Kid]"], unfollowed := true, recurses := true, plainKeys := false, apart := false }
def TopCancelsSaid : Prop := topCancelsRow.holds Tryz.pinned (OpenSpec.ofChange topCancelsSpec)

/-- ITS FALSE NEIGHBOUR: 'it returns false'. Refute it at one input. -/
def topCancelsWrong : ChangeSpec := { name := "topCancels", fn := fun _ => fun
  | [d1, d2] => { results := [.lit (.bool false)], args := [d1, d2] }
  | _ => none }
def TopCancelsWrongFalsely : Prop := topCancelsRow.holds Tryz.pinned (OpenSpec.ofChange topCancelsWrong)

/- THE SECOND FORM. 'bulk': how many values and letters a reading holds, each counted each time it is reached (what is shared counts as often as it is met; a slice's spare places count too). A statement '..UptoSaid' is the law's where the arguments, and the package variables that the reading takes, are together of bulk at most 1048576: NARROWER than '..Said'. Prove '..Said' where nothing that the law and all that it calls make is longer than what came in: it says more and counts as full. Else prove '..UptoSaid'. A law counts once. -/
mutual
def uptoBulk {H : Type} : DataW H → Nat
  | .lit (.string bytes) => bytes.length + 1
  | .lit _ => 1
  | .nil => 1
  | .ptr d => uptoBulk d + 1
  | .slice elems spare => uptoBulkAll elems + uptoBulkAll spare + 1
  | .agg parts => uptoBulkAll parts + 1
  | .iface _ d => uptoBulk d + 1
  | .map entries => uptoBulkEntries entries + 1
  | .held _ => 1
def uptoBulkAll {H : Type} : List (DataW H) → Nat
  | [] => 0
  | d :: r => uptoBulk d + uptoBulkAll r
def uptoBulkEntries {H : Type} : List (Lit × DataW H) → Nat
  | [] => 0
  | x :: r => uptoBulkEntry x + uptoBulkEntries r
def uptoBulkEntry {H : Type} : Lit × DataW H → Nat
  | (.string bytes, d) => bytes.length + uptoBulk d + 1
  | (_, d) => uptoBulk d + 1
 end
def uptoSmall : (H : Type) → List (DataW H) → Bool := fun _ ds => decide (uptoBulkAll ds ≤ 1048576)
def OpenSpec.upto (s : _root_.Go.ChangeSpec) : _root_.Go.OpenSpec := { _root_.Go.OpenSpec.ofChange s with cond := some uptoSmall }

/-- 'backwatertop.TopShorter', WHERE WHAT IT READS IS OF BULK AT MOST 1048576: true; the input reads as it did. -/
def topShorterUptoRow : OpenClaim := { program := "ytihgiemgcmpmmaagreat", sum := "c40cd2f8757659d08cb81c66a0a16c2d24cccfe422d622a2823ac2e6157f1156", func := "backwater/backwatertop.TopShorter", spec := "topShorter", inPlace := ["slices.overlaps[backwater/api.Kid]"], unfollowed := true, recurses := true, plainKeys := false, apart := false, narrowed := true }
def TopShorterUptoSaid : Prop := topShorterUptoRow.holds Tryz.pinned (OpenSpec.upto topShorterSpec)

/-- 'backwatertop.TopCancels', WHERE WHAT IT READS IS OF BULK AT MOST 1048576: true; the input reads as it did. -/
def topCancelsUptoRow : OpenClaim := { program := "ytihgiemgcmpmmaagreat", sum := "c40cd2f8757659d08cb81c66a0a16c2d24cccfe422d622a2823ac2e6157f1156", func := "backwater/backwatertop.TopCancels", spec := "topCancels", inPlace := ["slices.overlaps[backwater/api.Kid]"], unfollowed := true, recurses := true, plainKeys := false, apart := false, narrowed := true }
def TopCancelsUptoSaid : Prop := topCancelsUptoRow.holds Tryz.pinned (OpenSpec.upto topCancelsSpec)

end Rows
end Go.Proofs.YtihgiemgcmpmmaaGreat
