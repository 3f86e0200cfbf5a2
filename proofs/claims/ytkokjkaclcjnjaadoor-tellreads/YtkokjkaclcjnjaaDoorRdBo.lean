/-
  The document's tree: operations in memory; New, Fold.
  The package tree: copies of nodes (copyOf, slices.Clone), where a fid, an entry stands (placeOf, entryOf, slices.IndexFunc), New.
  The package tree: copyAll, placeOf, entryOf, New.
  Nodes of an input, in memory.
  Get of the program's tree, its copy's place told.
-/
import Derived.Test.YtkokjkaclcjnjaaDoorRdBl
import Derived.Laws.IdiomStrings
import Derived.Deep.RegionHeld3
import Derived.Lib.UnsafeStr
namespace Go.Proofs.YtkokjkaclcjnjaaDoor
open Go.RowKit Go.ChangeShapes Go.WideShapes Go.ChangeAt Go.Maps Go.Shelf
set_option linter.unusedVariables false
set_option linter.unusedSimpArgs false
set_option maxRecDepth 100000
def foldS (p : List Nd × List Int) (o : Rec) : List Nd × List Int := (if (ApplyL p.1 o).1 = 0 then (ApplyL p.1 o).2 else p.1, p.2 ++ [(ApplyL p.1 o).1])
def kb (x : Nd) : Option Nat := x.ka.map (·.block)
end Go.Proofs.YtkokjkaclcjnjaaDoor
namespace Go.Proofs.YtkokjkaclcjnjaaDoor
open Go.RowKit Go.ChangeShapes Go.WideShapes Go.ChangeAt
set_option linter.unusedVariables false
set_option linter.unusedSimpArgs false
set_option maxRecDepth 100000
theorem RowAt.setLow {w : World} {base : Nat} {t : TypeId} {p : Option Addr} {vs : List Value} (h : RowAt w base t p vs) {g o : Nat} {v : Value} (hg : g < base) : RowAt (w.setCell ⟨g, o, none⟩ v) base t p vs := by
 rcases h with h | ⟨k, cs, fr, h1, h2, h3, h4⟩
 · exact .inl h
 · exact .inr ⟨k, cs, fr, h1, h2, by rw [heap_setCell_other _ _ _ _ (by show k ≠ g; omega)]; exact h3, h4⟩
end Go.Proofs.YtkokjkaclcjnjaaDoor
