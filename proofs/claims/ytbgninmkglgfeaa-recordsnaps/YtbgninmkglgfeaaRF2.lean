/-
  The document's op: an operation's bytes.
-/
import Derived.Test.YtbgninmkglgfeaaRF1
namespace Go.Proofs.Ytbgninmkglgfeaa
open Go.RowKit Go.ChangeShapes Go.WideShapes Go.ChangeAt
set_option linter.unusedVariables false
set_option linter.unusedSimpArgs false
set_option maxRecDepth 100000
end Go.Proofs.Ytbgninmkglgfeaa
