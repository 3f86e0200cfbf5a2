/-
  The document's Line: up to what a node has inside.
-/
import Derived.Test.YtkokjkaclcjnjaaDoorRdAw
import Derived.Test.YtkokjkaclcjnjaaDoorRdAy
import Derived.Test.YtkokjkaclcjnjaaDoorRdAu
namespace Go.Proofs.YtkokjkaclcjnjaaDoor
open Go.RowKit Go.ChangeShapes Go.WideShapes Go.ChangeAt Go.Sort
set_option linter.unusedVariables false
set_option linter.unusedSimpArgs false
set_option maxRecDepth 100000
theorem itoa_c (u : Nat) (hu : u < 65536) (w : World) (ht : TabW w) : Calls Tryd.prog 36 #[.int .i64 (u : Int)] w fun e w' => e = .returned (.string (decB u)) ∧ Below w.heap.size w w' := by
 refine (Tryd.strconv_Itoa (u : Int) (by omega) (by omega) w ht).mono ?_
 rintro e w' ⟨rfl, k, os, rfl⟩
 refine ⟨by rw [Lib.itoa_nonneg]; rfl, rfl, rfl, rfl, ?_, fun i hi => ?_⟩
 · show w.heap.size ≤ (w.heap ++ os).size
   simp
 · show (w.heap ++ os)[i]? = _
   rw [Array.getElem?_append_left hi]
theorem ba_app (a b : ByteArray) : (a ++ b).size = a.size + b.size := by
 rw [size_l, app_dT, List.length_append, ← size_l, ← size_l]
def headB (a b c d : ByteArray) : ByteArray := a ++ ⟨#[32]⟩ ++ b ++ ⟨#[32]⟩ ++ c ++ ⟨#[32]⟩ ++ d ++ ⟨#[32]⟩
theorem line_head (a b c d i : ByteArray) : (headB a b c d ++ i).data.toList = Lib.join [a.data.toList, b.data.toList, c.data.toList, d.data.toList, i.data.toList] [32] := by
 unfold headB
 simp only [app_dT]
 simp [Lib.join, List.intercalate, List.intersperse]
theorem headB_size (a b c d : ByteArray) : (headB a b c d).size = a.size + b.size + c.size + d.size + 4 := by
 unfold headB
 simp only [ba_app]
 show a.size + 1 + b.size + 1 + c.size + 1 + d.size + 1 = _
 omega
theorem join_snoc {α : Type} (l : List α) (F : α → List UInt8) {d : α} {i : Nat} (h : i < l.length) : Lib.join ((l.take (i + 1)).map F) [44] = if i = 0 then F (l.getD i d) else Lib.join ((l.take i).map F) [44] ++ [44] ++ F (l.getD i d) := by
 have e : (l.take (i + 1)).map F = (l.take i).map F ++ [F (l.getD i d)] := by
   rw [List.take_succ_eq_append_getElem h, List.map_append, List.getD, List.getElem?_eq_getElem h]
   rfl
 rw [e]
 split
 · rename_i h0
   subst h0
   simp [Lib.join_one]
 · rename_i h0
   cases hl : (l.take i).map F with
   | nil =>
     have := congrArg List.length hl
     rw [List.length_map, List.length_take, List.length_nil] at this
     omega
   | cons a t =>
     rw [List.cons_append, Lib.join_cons, Lib.join_cons]
     unfold Lib.joinTail
     simp
theorem join_ne {ks : List Kd} (h : ks ≠ []) : Lib.join (ks.map fun k => (kidT k).data.toList) [44] ≠ [] := by
 cases ks with
 | nil => exact absurd rfl h
 | cons a t =>
   rw [List.map_cons, Lib.join_cons]
   intro e
   have := congrArg List.length e
   have q : (kidT a).data.toList = a.nm.data.toList ++ [61] ++ (decB a.fid.toNat).data.toList := by unfold kidT; rw [app_dT, app_dT]
   rw [q] at this
   simp at this
end Go.Proofs.YtkokjkaclcjnjaaDoor
