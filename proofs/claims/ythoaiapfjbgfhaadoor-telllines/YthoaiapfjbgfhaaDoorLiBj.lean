/-
  Line of the package tell: its answer.
-/
import Derived.Test.YthoaiapfjbgfhaaDoorLiBi
namespace Go.Proofs.YthoaiapfjbgfhaaDoor
open Go.RowKit Go.ChangeShapes Go.WideShapes Go.ChangeAt
set_option linter.unusedVariables false
set_option linter.unusedSimpArgs false
set_option maxRecDepth 100000
def LnP (x : Nd) (w : World) (e : Ending) (w' : World) : Prop := (e = if nodeOk x = true then .returned (.tuple #[.string ⟨(lineL x).toArray⟩, .int .i64 0]) else .returned (.tuple #[.string ⟨#[]⟩, .int .i64 3])) ∧ Below w.heap.size w w'
set_option maxHeartbeats 2000000 in
theorem pline_c (x : Nd) (w : World) (hx : x.Ok w) (ht : TabW w) : Calls Tryd.prog 14 #[x.val] w (LnP x w) := by
 have hb := below_1 w (.cells x.cells.toArray 35)
 have hB := heap_alloc_new w (.cells x.cells.toArray 35)
 have NC := hid (node_c x (w.alloc (.cells x.cells.toArray 35)) (hx.later hb))
 have HB := hid hB
 have B0 := hid hb
 obtain ⟨y0, y1, y2, y3, y4, y5⟩ := nd_cells hB
 have LC : Hid (nodeOk x = true → ∀ W, Below w.heap.size w W → Calls Tryd.prog 33 #[x.val] W fun e w' => e = .returned (.string ⟨(lineL x).toArray⟩) ∧ Below W.heap.size W w') := hid (fun h W hW => by
   obtain ⟨s1, s2, s3⟩ := node_small h
   exact lineOf_c x W (hx.later hW) s1 (by omega) (fun y hy => by have := s3 y hy; omega) (ht.later hW))
 clear hb hB hx ht
 cases hr : nodeOk x with
 | false =>
   rw [hr] at NC
   simp only [Bool.false_eq_true, if_false] at NC
   unfold LnP
   rw [hr]
   simp only [Bool.false_eq_true, if_false]
   clear LC
   unfold Nd.val Nd.cells at *
   go_enter Tryd.func14, Tryd.ntmps14
   go_wp2_with (go_at_call 32; refine NC.out.mono ?_; rintro _ w1 ⟨rfl, hb1⟩; have B1 := hid (B0.out.trans (hb1.mono B0.out.size)); clear hb1)
   go_ret2
   exact ⟨rfl, B1.out⟩
 | true =>
   rw [hr] at NC
   simp only [if_true] at NC
   unfold LnP
   rw [hr]
   simp only [if_true]
   have LC1 := hid (LC.out hr)
   clear LC
   unfold Nd.val at *
   unfold Nd.cells at NC y0 y1 y2 y3 y4 y5 B0
   go_enter Tryd.func14, Tryd.ntmps14
   go_wp2_with (first
     | (go_at_call 33; refine (LC1.out _ B1.out).mono ?_; rintro _ w2 ⟨rfl, hb2⟩; have B2 := hid (B1.out.trans (hb2.mono B1.out.size)); clear hb2)
     | (go_at_call 32; refine NC.out.mono ?_; rintro _ w1 ⟨⟨v1, rfl, hO1⟩, hb1⟩; obtain ⟨a1, c1, rfl⟩ := own_shapeR hO1; have B1 := hid (B0.out.trans (hb1.mono B0.out.size)); obtain ⟨z0, z1, z2, z3, z4, z5⟩ := nd_cells ((hb1.block _ (lt_blkR HB.out)).trans HB.out); clear hO1 hb1))
   go_ret2
   exact ⟨rfl, B2.out⟩
end Go.Proofs.YthoaiapfjbgfhaaDoor
