/-
  What each function of the package frame returns that writes a packet, or tells whether it is right: one contract a function.
-/
import Derived.Test.YthoaiapfjbgfhaaDoorQuAc
import Derived.Test.YthoaiapfjbgfhaaDoorQuAg
import Derived.Deep.RegionHeld3
import Derived.Deep.AppendLies
import Derived.Deep.DrawnRows
import Derived.Lib.AppendStr
namespace Go.Proofs.YthoaiapfjbgfhaaDoor
open Go.RowKit Go.ChangeShapes Go.WideShapes Go.ChangeAt
set_option linter.unusedVariables false
set_option linter.unusedSimpArgs false
def u8V (x : Int) : Value := .int .u8 x
theorem cell_box {w : World} {g : Nat} {v : Value} {T : TypeId} (h : w.heap[g]? = some (.cells #[v] T (0, 0))) : w.cell? ⟨g, 0, none⟩ = some v := by
 rw [cell_of_row w g 0 #[v] T (0, 0) h]; rfl
theorem frozen_box {w : World} {g : Nat} {v : Value} {T : TypeId} (h : w.heap[g]? = some (.cells #[v] T (0, 0))) : w.frozen? ⟨g, 0, none⟩ = false := by
 simp [World.frozen?, h]
theorem heap_setBox {W : World} {B : Nat} {v : Value} {t : TypeId} (v' : Value) (h : W.heap[B]? = some (.cells #[v] t (0, 0))) : (W.setCell ⟨B, 0, none⟩ v').heap[B]? = some (.cells #[v'] t (0, 0)) := by
 rw [heap_setCell_same W B 0 #[v] t v' h]; rfl
theorem body_end {P : Program} {fn : Func} {R : Ending → World → Prop} {a : Act} {w : World} (hr : fn.results = #[]) (hd : a.defers = []) (hR : R (.returned (.tuple #[])) w) : bodyPost P fn R .normal a w :=
 bodyPost_end (v := .tuple #[]) (by simp [results, hr, go_sem]) hd hR
end Go.Proofs.YthoaiapfjbgfhaaDoor
