/-
  Small words of the path's text, for seats without the package path.
-/
import Derived.Test.YtihgiemgcmpmmaaCalls
import Derived.Test.YtihgiemgcmpmmaaRows
import Derived.Test.YtihgiemgcmpmmaaPMath
import Derived.WalkKit
import Derived.ProofKit
import Derived.OpenShut
import Derived.ShutString
import Derived.WalkSpells
import Derived.WalkLawsBesides
import Derived.Deep.QuietTactic
import Derived.BigQuiet
import Derived.Lib.OthersKept
import Derived.Lib.BufferWrite
import Derived.Lib.UnsafeStr
import Derived.Laws.MakeOwn
import Derived.Deep.LoopGhost
import Derived.Lib.Strings
import Derived.Lib.IndexBytes
namespace Go.Proofs.Ytihgiemgcmpmmaa
open Go.RowKit Go.ChangeShapes Go.WideShapes Go.ChangeAt
theorem ret_bool' {a b : Bool} (h : a = b) : Ending.returned (.bool a) = .returned (.bool b) := by rw [h]
theorem hid' {p : Prop} (h : p) : Hid p := h
end Go.Proofs.Ytihgiemgcmpmmaa
