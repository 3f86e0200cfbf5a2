/-
  An operation.
-/
import Derived.Test.YthoaiapfjbgfhabDoorPnAc
namespace Go.Proofs.YthoaiapfjbgfhabDoor
end Go.Proofs.YthoaiapfjbgfhabDoor
