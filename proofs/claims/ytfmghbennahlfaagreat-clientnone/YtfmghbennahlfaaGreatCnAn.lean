/-
  
-/
import Derived.Test.YtfmghbennahlfaaGreatCnAm
import Derived.ChangeArms
import Derived.ChangeOld
import Derived.Below
import Derived.Deep.CutRange
import Derived.Laws.AppendOwnNone
import Derived.Deep.RegionLaw
import Derived.Deep.LoopGhost
import Derived.Laws.BitsLemmas
import Derived.Shelf.Abstract
import Derived.Defers
import Derived.Recover
import Derived.Laws.Pointers
import Derived.Deep.QuietTactic
import Derived.Maps.OwnOps
import Derived.Maps.Views
import Derived.DeepKeys4
import Derived.RegionTactic
import Derived.ChangeAlike
import Derived.BigRegion
import Derived.BigQuiet
import Derived.Laws.IdiomStrings
namespace Go.Proofs.YtfmghbennahlfaaGreat
open Go.RowKit Go.ChangeShapes Go.WideShapes Go.ChangeAt Go.Maps Go.Shelf
set_option linter.unusedVariables false
set_option linter.unusedSimpArgs false
set_option maxRecDepth 100000
theorem le_nil {s : ByteArray} (h : Pa.nameB s.data.toList = true) : leS s ⟨#[]⟩ = false := by
 have h1 : s.toList ≠ [] := fun e => by
   rw [Lib.toList_data] at e
   rw [e] at h
   exact absurd h (by decide)
 unfold leS
 have e0 : (⟨#[]⟩ : ByteArray).toList = [] := by rw [Lib.toList_data]
 rw [e0]
 cases q : s.toList with
 | nil => exact absurd q h1
 | cons a t => rfl
end Go.Proofs.YtfmghbennahlfaaGreat
