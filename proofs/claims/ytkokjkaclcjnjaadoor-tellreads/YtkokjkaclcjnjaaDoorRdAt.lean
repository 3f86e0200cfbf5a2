/-
  Line of the package tell.
-/
import Derived.Test.YtkokjkaclcjnjaaDoorRdAp
import Derived.Test.YtkokjkaclcjnjaaDoorRdAq
import Derived.Test.YtkokjkaclcjnjaaDoorRdAs
namespace Go.Proofs.YtkokjkaclcjnjaaDoor
open Go.RowKit Go.ChangeShapes Go.WideShapes Go.ChangeAt
set_option linter.unusedVariables false
set_option linter.unusedSimpArgs false
set_option maxRecDepth 100000
def lineL (x : Nd) : List UInt8 := Lib.join [(decB x.fid.toNat).data.toList, (wordB x.k).data.toList, (decB x.md.toNat).data.toList, (decB x.ln.toNat).data.toList, (insB x).data.toList] [32]
theorem wordB_size (k : Int) : (wordB k).size ≤ 4 := by
 unfold wordB
 split
 · decide
 · split
   · decide
   · split
     · decide
     · decide
theorem ba_size (l : List UInt8) : (⟨l.toArray⟩ : ByteArray).size = l.length := by
 show (List.toArray l).size = _
 rw [List.size_toArray]
end Go.Proofs.YtkokjkaclcjnjaaDoor
