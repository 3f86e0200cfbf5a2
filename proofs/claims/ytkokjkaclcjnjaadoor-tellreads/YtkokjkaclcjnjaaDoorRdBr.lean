/-
  The package tell: entries' function, that calls itself.
-/
import Derived.Test.YtkokjkaclcjnjaaDoorRdBq
namespace Go.Proofs.YtkokjkaclcjnjaaDoor
open Go.RowKit Go.ChangeShapes Go.WideShapes Go.ChangeAt Go.Shelf
attribute [local go_sem] Oper.semAt_some
set_option linter.unusedVariables false
set_option linter.unusedSimpArgs false
set_option maxRecDepth 100000
end Go.Proofs.YtkokjkaclcjnjaaDoor
