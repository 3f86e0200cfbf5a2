/-
  DERIVED. GIVEN WITH THE SEED: THE CARDS: each row of YtkokjkaclcjnjaaGreatDoorRows.lean that lists a variable, with what it lists TIED to the program's text (the seventh form; the later family's looks); each row that meets fmt, with fmt's text TOLD by the authors' own Lean function (tested against real Go, not proved from fmt's source: count such statements apart). THE CARD IS WHAT COUNTS. Prove the row's statement (the work); the ties are given (YtkokjkaclcjnjaaGreatDoorTie.lean); close each card by the builder's one call (the guide's Derived/Test/ToyasCard.lean, 'card_holds'). Laid BY PROGRAM, IN A SANDBOX (cutbox-door.mjs). By AI agents, Wed Nov 11 2026. No macro, syntax, notation, axiom, sorry.
-/
import Derived.Test.YtkokjkaclcjnjaaGreatDoorRows
import GoSem.ClaimSeven
namespace Go.Proofs.YtkokjkaclcjnjaaGreatDoor
namespace Rows

/-- THE TIED CARD OF 'backwaterlaw15.TellPaths'. -/
def tellPathsCard : Claim7 := { stood := { row := tellPathsRow, standIns := [], harness := (true, "dc97a06aa2caf9d67bdd9f8eab03a1617630e5d7ade20f5bc462ee701c939608"), looks := false }, kinds := [], alts := [], laidByText := true, laidKinds := [.data, .data, .data, .data, .pinned], laidTests := true, laidLooks := .later }
def TellPathsCardSaid : Prop := Claim7.holds Tryz.pinned (.plain (OpenSpec.ofChange tellPathsSpec)) tellPathsCard

/-- THE SECOND FORM's CARD OF 'backwaterlaw15.TellPaths'. -/
def tellPathsUptoCard : Claim7 := { stood := { row := tellPathsUptoRow, standIns := [], harness := (true, "dc97a06aa2caf9d67bdd9f8eab03a1617630e5d7ade20f5bc462ee701c939608"), looks := false }, kinds := [], alts := [], laidByText := true, laidKinds := [.data, .data, .data, .data, .pinned], laidTests := true, laidLooks := .later }
def TellPathsUptoCardSaid : Prop := Claim7.holds Tryz.pinned (.plain (OpenSpec.upto tellPathsSpec)) tellPathsUptoCard
end Rows
end Go.Proofs.YtkokjkaclcjnjaaGreatDoor
