/-
  Nodes: what lies in memory, what came in; rightKids, rightNode of the package record.
-/
import Derived.Test.YtkokjkaclcjnjaaDoorRdAq
import Derived.Test.YtkokjkaclcjnjaaDoorRdAg
namespace Go.Proofs.YtkokjkaclcjnjaaDoor
open Go.RowKit Go.ChangeShapes Go.WideShapes Go.ChangeAt
set_option linter.unusedVariables false
set_option linter.unusedSimpArgs false
set_option maxRecDepth 100000
end Go.Proofs.YtkokjkaclcjnjaaDoor
