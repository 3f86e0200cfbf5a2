/-
  Nodes without where they lie: which nodes are a tree does not hang on that. (Written by nodebase.py out of SnapMath.)
-/
import Derived.Test.YthoaiapfjbgfhaaDoorLiAx
namespace Go.Proofs.YthoaiapfjbgfhaaDoor
open Go.RowKit Go.ChangeShapes Go.WideShapes Go.ChangeAt Go.Maps
set_option linter.unusedVariables false
set_option linter.unusedSimpArgs false
set_option maxRecDepth 100000
end Go.Proofs.YthoaiapfjbgfhaaDoor
