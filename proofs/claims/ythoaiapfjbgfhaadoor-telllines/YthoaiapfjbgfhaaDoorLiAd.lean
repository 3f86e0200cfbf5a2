/-
  An operation.
-/
import Derived.Test.YthoaiapfjbgfhaaDoorLiAc
namespace Go.Proofs.YthoaiapfjbgfhaaDoor
end Go.Proofs.YthoaiapfjbgfhaaDoor
