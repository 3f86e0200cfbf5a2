/-
  An operation.
-/
import Derived.Test.YthoaiapfjbgfhaaDoorQuAc
namespace Go.Proofs.YthoaiapfjbgfhaaDoor
end Go.Proofs.YthoaiapfjbgfhaaDoor
