/-
  The document's Line: up to what a node has inside.
-/
import Derived.Test.YtkokjkaclcjnjaaDoorBkBa
import Derived.Test.YtkokjkaclcjnjaaDoorBkBc
import Derived.Test.YtkokjkaclcjnjaaDoorBkAy
namespace Go.Proofs.YtkokjkaclcjnjaaDoor
open Go.RowKit Go.ChangeShapes Go.WideShapes Go.ChangeAt Go.Sort
set_option linter.unusedVariables false
set_option linter.unusedSimpArgs false
set_option maxRecDepth 100000
theorem ba_app (a b : ByteArray) : (a ++ b).size = a.size + b.size := by
 rw [size_l, app_dT, List.length_append, ← size_l, ← size_l]
def headB (a b c d : ByteArray) : ByteArray := a ++ ⟨#[32]⟩ ++ b ++ ⟨#[32]⟩ ++ c ++ ⟨#[32]⟩ ++ d ++ ⟨#[32]⟩
theorem line_head (a b c d i : ByteArray) : (headB a b c d ++ i).data.toList = Lib.join [a.data.toList, b.data.toList, c.data.toList, d.data.toList, i.data.toList] [32] := by
 unfold headB
 simp only [app_dT]
 simp [Lib.join, List.intercalate, List.intersperse]
theorem headB_size (a b c d : ByteArray) : (headB a b c d).size = a.size + b.size + c.size + d.size + 4 := by
 unfold headB
 simp only [ba_app]
 show a.size + 1 + b.size + 1 + c.size + 1 + d.size + 1 = _
 omega
end Go.Proofs.YtkokjkaclcjnjaaDoor
