/-
  The document's caller: Tick and Take whole.
-/
import Derived.Test.YtmoeljieafninaaRRf
import Derived.Deep.Cut
namespace Go.Proofs.Ytmoeljieafninaa
open Go.RowKit Go.ChangeShapes Go.WideShapes Go.ChangeAt
set_option linter.unusedVariables false
set_option linter.unusedSimpArgs false
set_option maxRecDepth 100000
end Go.Proofs.Ytmoeljieafninaa
