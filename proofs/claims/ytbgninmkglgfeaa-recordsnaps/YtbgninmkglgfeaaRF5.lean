/-
  The document's Op, Records.
-/
import Derived.Test.YtbgninmkglgfeaaRF4
import Derived.Test.YtbgninmkglgfeaaRRw
namespace Go.Proofs.Ytbgninmkglgfeaa
open Go.RowKit Go.ChangeShapes Go.WideShapes Go.ChangeAt
set_option linter.unusedVariables false
set_option linter.unusedSimpArgs false
set_option maxRecDepth 100000
end Go.Proofs.Ytbgninmkglgfeaa
