/-
  Line of the package tell: its answer.
-/
import Derived.Test.YtkokjkaclcjnjaaDoorRdAt
namespace Go.Proofs.YtkokjkaclcjnjaaDoor
open Go.RowKit Go.ChangeShapes Go.WideShapes Go.ChangeAt
set_option linter.unusedVariables false
set_option linter.unusedSimpArgs false
set_option maxRecDepth 100000
def LnP (x : Nd) (w : World) (e : Ending) (w' : World) : Prop := (e = if nodeOk x = true then .returned (.tuple #[.string ⟨(lineL x).toArray⟩, .int .i64 0]) else .returned (.tuple #[.string ⟨#[]⟩, .int .i64 3])) ∧ Below w.heap.size w w'
end Go.Proofs.YtkokjkaclcjnjaaDoor
