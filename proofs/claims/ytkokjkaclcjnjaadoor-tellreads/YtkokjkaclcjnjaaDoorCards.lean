/-
  DERIVED. GIVEN WITH THE SEED: THE CARDS: each row of YtkokjkaclcjnjaaDoorRows.lean that lists a variable, with what it lists TIED to the program's text (the seventh form; the later family's looks); each row that meets fmt, with fmt's text TOLD by the authors' own Lean function (tested against real Go, not proved from fmt's source: count such statements apart). THE CARD IS WHAT COUNTS. Prove the row's statement (the work); the ties are given (YtkokjkaclcjnjaaDoorTie.lean); close each card by the builder's one call (the guide's Derived/Test/ToyasCard.lean, 'card_holds'). Laid BY PROGRAM, IN A SANDBOX (cutbox-door.mjs). By AI agents, Wed Nov 11 2026. No macro, syntax, notation, axiom, sorry.
-/
import Derived.Test.YtkokjkaclcjnjaaDoorRows
import GoSem.ClaimSeven
namespace Go.Proofs.YtkokjkaclcjnjaaDoor
namespace Rows

/-- THE TIED CARD OF 'backwaterlaw15.TellQuotes'. -/
def tellQuotesCard : Claim7 := { stood := { row := tellQuotesRow, standIns := [], harness := (true, "0a1c1d530b2a63e19df798d35c5635053e7a9d3ab2c9122f854f2550f965e7a7"), looks := false }, kinds := [], alts := [], laidByText := true, laidKinds := [.data, .data, .data], laidTests := true, laidLooks := .later }
def TellQuotesCardSaid : Prop := Claim7.holds Tryd.pinned (.plain (OpenSpec.ofChange tellQuotesSpec)) tellQuotesCard

/-- THE TIED CARD OF 'backwaterlaw15.TellLines'. -/
def tellLinesCard : Claim7 := { stood := { row := tellLinesRow, standIns := [], harness := (true, "0a1c1d530b2a63e19df798d35c5635053e7a9d3ab2c9122f854f2550f965e7a7"), looks := false }, kinds := [], alts := [], laidByText := true, laidKinds := [.data, .data, .data], laidTests := true, laidLooks := .later }
def TellLinesCardSaid : Prop := Claim7.holds Tryd.pinned (.plain (OpenSpec.ofChange tellLinesSpec)) tellLinesCard

/-- THE TIED CARD OF 'backwaterlaw15.TellTrees'. -/
def tellTreesCard : Claim7 := { stood := { row := tellTreesRow, standIns := [], harness := (true, "0a1c1d530b2a63e19df798d35c5635053e7a9d3ab2c9122f854f2550f965e7a7"), looks := false }, kinds := [], alts := [], laidByText := true, laidKinds := [.data, .data, .data], laidTests := true, laidLooks := .later }
def TellTreesCardSaid : Prop := Claim7.holds Tryd.pinned (.plain (OpenSpec.ofChange tellTreesSpec)) tellTreesCard

/-- THE TIED CARD OF 'backwaterlaw15.TellReads'. -/
def tellReadsCard : Claim7 := { stood := { row := tellReadsRow, standIns := [], harness := (true, "0a1c1d530b2a63e19df798d35c5635053e7a9d3ab2c9122f854f2550f965e7a7"), looks := false }, kinds := [], alts := [], laidByText := true, laidKinds := [.data, .data, .data, .data, .pinned], laidTests := true, laidLooks := .later }
def TellReadsCardSaid : Prop := Claim7.holds Tryd.pinned (.plain (OpenSpec.ofChange tellReadsSpec)) tellReadsCard

/-- THE TIED CARD OF 'backwaterlaw15.TellBack'. -/
def tellBackCard : Claim7 := { stood := { row := tellBackRow, standIns := [], harness := (true, "0a1c1d530b2a63e19df798d35c5635053e7a9d3ab2c9122f854f2550f965e7a7"), looks := false }, kinds := [], alts := [], laidByText := true, laidKinds := [.data, .data, .data, .data, .pinned], laidTests := true, laidLooks := .later }
def TellBackCardSaid : Prop := Claim7.holds Tryd.pinned (.plain (OpenSpec.ofChange tellBackSpec)) tellBackCard

/-- THE SECOND FORM's CARD OF 'backwaterlaw15.TellQuotes'. -/
def tellQuotesUptoCard : Claim7 := { stood := { row := tellQuotesUptoRow, standIns := [], harness := (true, "0a1c1d530b2a63e19df798d35c5635053e7a9d3ab2c9122f854f2550f965e7a7"), looks := false }, kinds := [], alts := [], laidByText := true, laidKinds := [.data, .data, .data], laidTests := true, laidLooks := .later }
def TellQuotesUptoCardSaid : Prop := Claim7.holds Tryd.pinned (.plain (OpenSpec.upto tellQuotesSpec)) tellQuotesUptoCard

/-- THE SECOND FORM's CARD OF 'backwaterlaw15.TellLines'. -/
def tellLinesUptoCard : Claim7 := { stood := { row := tellLinesUptoRow, standIns := [], harness := (true, "0a1c1d530b2a63e19df798d35c5635053e7a9d3ab2c9122f854f2550f965e7a7"), looks := false }, kinds := [], alts := [], laidByText := true, laidKinds := [.data, .data, .data], laidTests := true, laidLooks := .later }
def TellLinesUptoCardSaid : Prop := Claim7.holds Tryd.pinned (.plain (OpenSpec.upto tellLinesSpec)) tellLinesUptoCard

/-- THE SECOND FORM's CARD OF 'backwaterlaw15.TellTrees'. -/
def tellTreesUptoCard : Claim7 := { stood := { row := tellTreesUptoRow, standIns := [], harness := (true, "0a1c1d530b2a63e19df798d35c5635053e7a9d3ab2c9122f854f2550f965e7a7"), looks := false }, kinds := [], alts := [], laidByText := true, laidKinds := [.data, .data, .data], laidTests := true, laidLooks := .later }
def TellTreesUptoCardSaid : Prop := Claim7.holds Tryd.pinned (.plain (OpenSpec.upto tellTreesSpec)) tellTreesUptoCard

/-- THE SECOND FORM's CARD OF 'backwaterlaw15.TellReads'. -/
def tellReadsUptoCard : Claim7 := { stood := { row := tellReadsUptoRow, standIns := [], harness := (true, "0a1c1d530b2a63e19df798d35c5635053e7a9d3ab2c9122f854f2550f965e7a7"), looks := false }, kinds := [], alts := [], laidByText := true, laidKinds := [.data, .data, .data, .data, .pinned], laidTests := true, laidLooks := .later }
def TellReadsUptoCardSaid : Prop := Claim7.holds Tryd.pinned (.plain (OpenSpec.upto tellReadsSpec)) tellReadsUptoCard

/-- THE SECOND FORM's CARD OF 'backwaterlaw15.TellBack'. -/
def tellBackUptoCard : Claim7 := { stood := { row := tellBackUptoRow, standIns := [], harness := (true, "0a1c1d530b2a63e19df798d35c5635053e7a9d3ab2c9122f854f2550f965e7a7"), looks := false }, kinds := [], alts := [], laidByText := true, laidKinds := [.data, .data, .data, .data, .pinned], laidTests := true, laidLooks := .later }
def TellBackUptoCardSaid : Prop := Claim7.holds Tryd.pinned (.plain (OpenSpec.upto tellBackSpec)) tellBackUptoCard
end Rows
end Go.Proofs.YtkokjkaclcjnjaaDoor
