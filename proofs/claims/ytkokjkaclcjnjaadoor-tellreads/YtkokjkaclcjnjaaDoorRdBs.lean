/-
  The package tell: the paths of all entries, gathered (slices.Collect over entries).
-/
import Derived.Test.YtkokjkaclcjnjaaDoorRdBr
import Derived.Shelf.SlIter.Collect
namespace Go.Proofs.YtkokjkaclcjnjaaDoor
open Go.RowKit Go.ChangeShapes Go.WideShapes Go.ChangeAt Go.Maps Go.Shelf
attribute [local go_sem] Oper.semAt_some
set_option linter.unusedVariables false
set_option linter.unusedSimpArgs false
set_option maxRecDepth 100000
end Go.Proofs.YtkokjkaclcjnjaaDoor
