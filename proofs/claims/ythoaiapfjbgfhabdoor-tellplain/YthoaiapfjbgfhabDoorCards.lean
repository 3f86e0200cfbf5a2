/-
  DERIVED. GIVEN WITH THE SEED: THE CARDS: each row of YthoaiapfjbgfhabDoorRows.lean that lists a variable, with what it lists TIED to the program's text (the seventh form; the later family's looks); each row that meets fmt, with fmt's text TOLD by the authors' own Lean function (tested against real Go, not proved from fmt's source: count such statements apart). THE CARD IS WHAT COUNTS. Prove the row's statement (the work); the ties are given (YthoaiapfjbgfhabDoorTie.lean); close each card by the builder's one call (the guide's Derived/Test/ToyasCard.lean, 'card_holds'). Laid BY PROGRAM, IN A SANDBOX (cutbox-door.mjs). By AI agents, Wed Nov 11 2026. No macro, syntax, notation, axiom, sorry.
-/
import Derived.Test.YthoaiapfjbgfhabDoorRows
import GoSem.ClaimSeven
namespace Go.Proofs.YthoaiapfjbgfhabDoor
namespace Rows

/-- THE TIED CARD OF 'backwaterlaw15.TellPlain'. -/
def tellPlainCard : Claim7 := { stood := { row := tellPlainRow, standIns := [], harness := (true, "1d9f6fa3f2aabb4f8854df1ecad24135d29e11ad1dbbc3d8c6790aa33a9b4e87"), looks := false }, kinds := [], alts := [], laidByText := true, laidKinds := [.data, .data, .data], laidTests := true, laidLooks := .later }
def TellPlainCardSaid : Prop := Claim7.holds Tryd.pinned (.plain (OpenSpec.ofChange tellPlainSpec)) tellPlainCard

/-- THE SECOND FORM's CARD OF 'backwaterlaw15.TellPlain'. -/
def tellPlainUptoCard : Claim7 := { stood := { row := tellPlainUptoRow, standIns := [], harness := (true, "1d9f6fa3f2aabb4f8854df1ecad24135d29e11ad1dbbc3d8c6790aa33a9b4e87"), looks := false }, kinds := [], alts := [], laidByText := true, laidKinds := [.data, .data, .data], laidTests := true, laidLooks := .later }
def TellPlainUptoCardSaid : Prop := Claim7.holds Tryd.pinned (.plain (OpenSpec.upto tellPlainSpec)) tellPlainUptoCard
end Rows
end Go.Proofs.YthoaiapfjbgfhabDoor
