/-
  Touches, Ops of the package cml; Touches, Cut, Drop, Same of the document's.
-/
import Derived.Test.YtihgiemgcmpmmaaCCut
namespace Go.Proofs.Ytihgiemgcmpmmaa
open Go.RowKit Go.ChangeShapes Go.WideShapes Go.ChangeAt Go.Maps Go.Shelf
set_option linter.unusedVariables false
set_option linter.unusedSimpArgs false
/-- Whether a record speaks of an object. -/
def touchF (x : Rec) (f : Int) : Bool := (f != 0) && (x.fid == f || x.dir == f || x.to == f)
set_option maxRecDepth 20000 in
set_option maxHeartbeats 1000000 in
theorem touches_c (x : Rec) (f : Int) (w : World) :
    Calls Try.prog 22 #[x.val, .int .u32 f] w fun e w' => e = .returned (.bool (touchF x f)) ∧ Below w.heap.size w w' := by
  have hx : (w.alloc (.cells x.cells.toArray 49)).heap[w.heap.size]? = some (.cells x.cells.toArray 49 (0, 0)) := heap_alloc_new w _
  obtain ⟨y0, y1, y2, y3, y4, y5, y6, y7, y8⟩ := rec_box hx
  have HB : Hid (Below w.heap.size w (w.alloc (.cells x.cells.toArray 49))) := (Below.refl _ _).alloc (Nat.le_refl _) _
  unfold Rec.val touchF
  clear hx
  by_cases h0 : f = 0
  · subst h0
    go_enter Try.func22, Try.ntmps22
    go_wp2
    go_ret
    exact ⟨rfl, HB.out⟩
  · have e0 : (f != 0) = true := by simpa using h0
    have e0' : (f == 0) = false := by simpa using h0
    cases e1 : (x.fid == f) with
    | true =>
      go_enter Try.func22, Try.ntmps22
      go_wp2
      go_ret
      exact ⟨by first | rfl | (rw [e0]; rfl), HB.out⟩
    | false =>
      cases e2 : (x.dir == f) with
      | true =>
        go_enter Try.func22, Try.ntmps22
        go_wp2
        go_ret
        exact ⟨by first | rfl | (rw [e0]; rfl), HB.out⟩
      | false =>
        cases e3 : (x.to == f) with
        | true =>
          go_enter Try.func22, Try.ntmps22
          go_wp2
          go_ret
          exact ⟨by first | rfl | (rw [e0]; rfl), HB.out⟩
        | false =>
          go_enter Try.func22, Try.ntmps22
          go_wp2
          go_ret
          exact ⟨by first | rfl | (rw [e0]; rfl), HB.out⟩
end Go.Proofs.Ytihgiemgcmpmmaa
