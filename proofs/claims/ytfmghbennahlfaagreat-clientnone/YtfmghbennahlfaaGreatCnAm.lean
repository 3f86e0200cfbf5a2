/-
  
-/
import Derived.Test.YtfmghbennahlfaaGreatCnAe
import Derived.ChangeArms
import Derived.ChangeOld
import Derived.Below
import Derived.Deep.CutRange
import Derived.Laws.AppendOwnNone
import Derived.Deep.RegionLaw
import Derived.Deep.LoopGhost
import Derived.Laws.BitsLemmas
import Derived.Shelf.Abstract
import Derived.Defers
import Derived.Recover
import Derived.Laws.Pointers
import Derived.Deep.QuietTactic
import Derived.Maps.OwnOps
import Derived.Maps.Views
import Derived.DeepKeys4
import Derived.RegionTactic
import Derived.ChangeAlike
import Derived.BigRegion
import Derived.BigQuiet
import Derived.Laws.IdiomStrings
namespace Go.Proofs.YtfmghbennahlfaaGreat
open Go.RowKit Go.ChangeShapes Go.WideShapes Go.ChangeAt Go.Maps Go.Shelf
set_option linter.unusedVariables false
set_option linter.unusedSimpArgs false
set_option maxRecDepth 100000
theorem ba_nil (s : ByteArray) : (s.toList == []) = true ↔ s = ⟨#[]⟩ := by
 rw [Lib.toList_data]
 obtain ⟨⟨l⟩⟩ := s
 cases l <;> simp
end Go.Proofs.YtfmghbennahlfaaGreat
