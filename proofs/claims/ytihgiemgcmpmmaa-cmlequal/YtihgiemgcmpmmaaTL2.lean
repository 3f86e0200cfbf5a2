/-
  leadUpTo of the package tree, out of what its function that yields does.
-/
import Derived.Test.YtihgiemgcmpmmaaTLd
namespace Go.Proofs.Ytihgiemgcmpmmaa
open Go.RowKit Go.ChangeShapes Go.WideShapes Go.ChangeAt Go.Shelf Go.Maps
attribute [local go_sem] Oper.semAt_some
set_option linter.unusedVariables false
set_option linter.unusedSimpArgs false
set_option maxRecDepth 100000
end Go.Proofs.Ytihgiemgcmpmmaa
