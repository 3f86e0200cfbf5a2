/-
  The package tell: the paths of all entries, gathered (slices.Collect over entries).
-/
import Derived.Test.YtkokjkaclcjnjaaDoorBkBu
import Derived.Shelf.SlIter.Collect
namespace Go.Proofs.YtkokjkaclcjnjaaDoor
open Go.RowKit Go.ChangeShapes Go.WideShapes Go.ChangeAt Go.Maps Go.Shelf
attribute [local go_sem] Oper.semAt_some
set_option linter.unusedVariables false
set_option linter.unusedSimpArgs false
set_option maxRecDepth 100000
theorem OwS.kept {w w' : World} {base : Nat} {v : Value} {l : List ByteArray} (h : OwS w base v l) (hk : ∀ k, v.ownBlock = some k → k < w.heap.size → w'.heap[k]? = w.heap[k]?) : OwS w' base v l := by
 refine ⟨h.1, ?_⟩
 rcases h.2 with e | ⟨g, cap, cur, e1, e2, e3, e4⟩
 · exact .inl e
 · exact .inr ⟨g, cap, cur, e1, e2, (hk g (by rw [e1]; rfl) (lt_blkR e3)).trans e3, e4⟩
theorem OwS.blk {w : World} {base : Nat} {v : Value} {l : List ByteArray} (h : OwS w base v l) {k : Nat} (hk : v.ownBlock = some k) : k < w.heap.size ∧ base ≤ k ∧ ∃ cur, w.heap[k]? = some (.cells cur 9 (0, 0)) := by
 rcases h.2 with e | ⟨g, cap, cur, e1, e2, e3, e4⟩
 · rw [e.1] at hk; cases hk
 · rw [e1] at hk
   cases hk
   exact ⟨lt_blkR e3, e2, cur, e3⟩
end Go.Proofs.YtkokjkaclcjnjaaDoor
