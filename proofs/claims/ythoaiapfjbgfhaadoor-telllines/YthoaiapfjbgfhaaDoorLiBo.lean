/-
  What stands in quotes: plain facts; few of the statements of tell.
-/
import Derived.Test.YthoaiapfjbgfhaaDoorLiBn
namespace Go.Proofs.YthoaiapfjbgfhaaDoor
open Go.RowKit Go.ChangeShapes Go.WideShapes Go.ChangeAt
set_option linter.unusedVariables false
set_option linter.unusedSimpArgs false
set_option maxRecDepth 100000
end Go.Proofs.YthoaiapfjbgfhaaDoor
