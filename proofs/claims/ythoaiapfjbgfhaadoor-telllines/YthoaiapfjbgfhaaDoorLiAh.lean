/-
  What each function of the package frame returns that writes a packet, or tells whether it is right: one contract a function.
-/
import Derived.Test.YthoaiapfjbgfhaaDoorLiAc
import Derived.Test.YthoaiapfjbgfhaaDoorLiAg
import Derived.Deep.RegionHeld3
import Derived.Deep.AppendLies
import Derived.Deep.DrawnRows
import Derived.Lib.AppendStr
namespace Go.Proofs.YthoaiapfjbgfhaaDoor
open Go.RowKit Go.ChangeShapes Go.WideShapes Go.ChangeAt
set_option linter.unusedVariables false
set_option linter.unusedSimpArgs false
theorem info_parts8 : ∃ i : TypeInfo, Tryd.prog.info? 5 = some i ∧ i.zero = some (.int .u8 0) ∧ i.size = 1 ∧ i.bytes = 1 := by
 have h : (Tryd.prog.info? 5).map (fun i => (i.zero, i.size, i.bytes)) = some (some (.int .u8 0), 1, 1) := by kernel_rfl
 cases hi : Tryd.prog.info? 5 with
 | none => rw [hi] at h; cases h
 | some i =>
   rw [hi] at h
   simp at h
   exact ⟨i, rfl, h.1, h.2.1, h.2.2⟩
def u8V (x : Int) : Value := .int .u8 x
theorem strCells_bs (s : ByteArray) : Lib.strCells s = (Fr.bs s).map u8V := by
 unfold Lib.strCells Fr.bs; simp [u8V]
def Pile (w : World) (T base g : Nat) (zs : List Int) : Prop :=
 g < base ∧ base ≤ w.heap.size ∧ ∃ v, w.heap[g]? = some (.cells #[v] T (0, 0)) ∧ w.ownsRow base 5 1 v zs.length (zs.map u8V)
theorem Pile.drew {w : World} {T base g : Nat} {zs : List Int} (h : Pile w T base g zs) : Pile w.drew T base g zs := h
theorem cell_box {w : World} {g : Nat} {v : Value} {T : TypeId} (h : w.heap[g]? = some (.cells #[v] T (0, 0))) : w.cell? ⟨g, 0, none⟩ = some v := by
 rw [cell_of_row w g 0 #[v] T (0, 0) h]; rfl
theorem frozen_box {w : World} {g : Nat} {v : Value} {T : TypeId} (h : w.heap[g]? = some (.cells #[v] T (0, 0))) : w.frozen? ⟨g, 0, none⟩ = false := by
 simp [World.frozen?, h]
theorem heap_setBox {W : World} {B : Nat} {v : Value} {t : TypeId} (v' : Value) (h : W.heap[B]? = some (.cells #[v] t (0, 0))) : (W.setCell ⟨B, 0, none⟩ v').heap[B]? = some (.cells #[v'] t (0, 0)) := by
 rw [heap_setCell_same W B 0 #[v] t v' h]; rfl
theorem lay_box {w w5 : World} {base g : Nat} {v : Value} {T n : Nat} {xs : List Value} {o : Obj} (hbox : w.heap[g]? = some (.cells #[v] T (0, 0))) (hown : w.ownsRow base 5 1 v n xs) (hg : g < base) (hgrow : (w.alloc o).grownBy w5 v.ownBlock) (hlt : g < w.heap.size) :
   w5.heap[g]? = some (.cells #[v] T (0, 0)) := by
 rw [hgrow.block g (by simp; omega) (fun e => by have := (hown.lt g e.symm).1; omega), Below.heap_alloc _ _ _ hlt]; exact hbox
theorem body_end {P : Program} {fn : Func} {R : Ending → World → Prop} {a : Act} {w : World} (hr : fn.results = #[]) (hd : a.defers = []) (hR : R (.returned (.tuple #[])) w) : bodyPost P fn R .normal a w :=
 bodyPost_end (v := .tuple #[]) (by simp [results, hr, go_sem]) hd hR
theorem own_slice {w : World} {base : Nat} {e size n : Nat} {v : Value} {xs : List Value} (h : w.ownsRow base e size v n xs) : ∃ a m c, v = .slice a m c := by
 rcases h.2 with ⟨hv, _⟩ | ⟨g, cap, cur, hv, _⟩
 · exact ⟨_, _, _, hv⟩
 · exact ⟨_, _, _, hv⟩
theorem text_box {w w5 : World} {base g : Nat} {v : Value} {T n : Nat} {xs : List Value} (hbox : w.heap[g]? = some (.cells #[v] T (0, 0))) (hown : w.ownsRow base 5 1 v n xs) (hg : g < base) (hgrow : w.grownBy w5 v.ownBlock) (hlt : g < w.heap.size) :
   w5.heap[g]? = some (.cells #[v] T (0, 0)) := by
 rw [hgrow.block g hlt (fun e => by have := (hown.lt g e.symm).1; omega)]; exact hbox
end Go.Proofs.YthoaiapfjbgfhaaDoor
