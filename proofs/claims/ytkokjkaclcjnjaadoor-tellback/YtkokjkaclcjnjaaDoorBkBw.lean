/-
  The package tell: Paths.
-/
import Derived.Test.YtkokjkaclcjnjaaDoorBkBv
import Derived.Test.YtkokjkaclcjnjaaDoorBkAy
import Derived.Test.YtkokjkaclcjnjaaDoorBkAw
namespace Go.Proofs.YtkokjkaclcjnjaaDoor
open Go.RowKit Go.ChangeShapes Go.WideShapes Go.ChangeAt Go.Maps Go.Shelf
set_option linter.unusedVariables false
set_option linter.unusedSimpArgs false
set_option maxRecDepth 100000
end Go.Proofs.YtkokjkaclcjnjaaDoor
