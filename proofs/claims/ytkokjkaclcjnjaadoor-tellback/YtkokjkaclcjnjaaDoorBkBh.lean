/-
  The document's tree: trees in memory; set and less on them; where nodes lie does not matter.
-/
import Derived.Test.YtkokjkaclcjnjaaDoorBkBf
namespace Go.Proofs.YtkokjkaclcjnjaaDoor
open Go.RowKit Go.ChangeShapes Go.WideShapes Go.ChangeAt Go.Maps Go.Shelf
set_option linter.unusedVariables false
set_option linter.unusedSimpArgs false
set_option maxRecDepth 100000
def Nd.lnk (x : Nd) (n : Int) : Nd := ⟨x.fid, x.k, x.md, n, x.da, x.dc, x.zs, x.ka, x.kc, x.ks⟩
end Go.Proofs.YtkokjkaclcjnjaaDoor
