/-
  No bytes at all, wherever they are said to lie, as a snapshot; and all bytes.
-/
import Derived.Test.YtbgninmkglgfeaaSR3
import Derived.Test.YtbgninmkglgfeaaRRe
namespace Go.Proofs.Ytbgninmkglgfeaa
open Go.RowKit Go.ChangeShapes Go.WideShapes Go.ChangeAt Go.Maps Go.Shelf
set_option linter.unusedVariables false
set_option linter.unusedSimpArgs false
theorem noneZ (ns : List Nd) (ss : List St) : ¬ GoodZ [] ns ss := fun h => by
  have := h.1
  simp [snapP, measuresP, numP] at this
set_option maxHeartbeats 2000000 in
theorem takeListME_c (r : Nat) (a : Option Addr) (c : Nat) (w : World) (h : w.heap[r]? = some (.cells #[.slice a 0 c] 134 (0, 0))) :
    Calls Try.prog 85 #[.pointer (some ⟨r, 0, none⟩), .int .i64 40, .func (.func 86) #[] #[]] w fun e w' => e = PN ∧ w' = w := by
  have PC := hid (numE_c r a c w h)
  clear h
  go_enter Try.func85, Try.ntmps85
  go_wp2_with (go_at_call 51; refine PC.out.mono ?_; rintro _ wf ⟨rfl, hwf⟩; have hwf2 := hwf.symm; clear hwf; subst hwf2)
  exact ⟨rfl, rfl, rfl⟩
set_option maxHeartbeats 2000000 in
theorem takeSnapshotE_c (r : Nat) (a : Option Addr) (c : Nat) (w : World) (h : w.heap[r]? = some (.cells #[.slice a 0 c] 134 (0, 0))) :
    Calls Try.prog 43 #[.pointer (some ⟨r, 0, none⟩)] w fun e w' => e = PN ∧ Below w.heap.size w w' := by
  have B1 := hid (below_1 w (.cells #[.slice none 0 0, .slice none 0 0] 49))
  have PC := hid (takeListME_c r a c _ ((B1.out.block _ (lt_blkR h)).trans h))
  clear h
  go_enter Try.func43, Try.ntmps43
  go_wp2_with (go_at_call 85; refine PC.out.mono ?_; rintro _ wf ⟨rfl, hwf⟩; have hwf2 := hwf.symm; clear hwf; subst hwf2)
  exact ⟨rfl, rfl, B1.out⟩
set_option maxHeartbeats 2000000 in
theorem takeAllZE_c (a : Option Addr) (c : Nat) (w : World) :
    Calls Try.prog 84 #[.slice a 0 c, .func (.func 43) #[] #[]] w fun e w' => e = PN ∧ Below w.heap.size w w' := by
  have b0 := below_1 w (.cells #[.slice none 0 0, .slice none 0 0] 49)
  have b1 := below_1 (w.alloc (.cells #[.slice none 0 0, .slice none 0 0] 49)) (.cells #[.slice a 0 c] 134)
  have h1 := heap_alloc_new (w.alloc (.cells #[.slice none 0 0, .slice none 0 0] 49)) (.cells #[.slice a 0 c] 134)
  rw [show (w.alloc (.cells #[.slice none 0 0, .slice none 0 0] 49)).heap.size = w.heap.size + 1 by simp] at h1
  have B1 := hid (b0.trans (b1.mono b0.size))
  have TC := hid (takeSnapshotE_c (w.heap.size + 1) a c _ h1)
  clear b0 b1 h1
  go_enter Try.func84, Try.ntmps84
  go_wp2_with (go_at_call 43; refine TC.out.mono ?_; rintro _ wf ⟨rfl, hwf⟩)
  exact ⟨rfl, rfl, B1.out.trans (hwf.mono B1.out.size)⟩
set_option maxRecDepth 20000 in
set_option maxHeartbeats 2000000 in
theorem readZE1_c (a : Option Addr) (c : Nat) (w : World) :
    Calls Try.prog 42 #[.slice a 0 c, .func (.func 43) #[] #[]] w fun e w' => e = .returned (.tuple #[snNo, .int .i64 3]) ∧ Below w.heap.size w w' := by
  have hmf : ∀ (fn : Fn) (first cap : Array Value) (w : World), (Instr.makeFunc fn first cap).run Try.prog w = .ok (.func fn first cap) w := fun _ _ _ _ => rfl
  have b0 := below_1 w (.cells #[.slice none 0 0, .slice none 0 0] 49)
  have hB0 := heap_alloc_new w (.cells #[.slice none 0 0, .slice none 0 0] 49)
  have s0 : (w.alloc (.cells #[.slice none 0 0, .slice none 0 0] 49)).heap.size = w.heap.size + 1 := by simp
  have b1 := below_1 (w.alloc (.cells #[.slice none 0 0, .slice none 0 0] 49)) (.cells #[.int .i64 0] 30)
  have hE1 := heap_alloc_new (w.alloc (.cells #[.slice none 0 0, .slice none 0 0] 49)) (.cells #[.int .i64 0] 30)
  rw [s0] at hE1
  have hB1 := (b1.block _ (lt_blkR hB0)).trans hB0
  have B1 := hid (b0.trans (b1.mono b0.size))
  have TC2 := hid (takeAllZE_c a c ((w.alloc (.cells #[.slice none 0 0, .slice none 0 0] 49)).alloc (.cells #[.int .i64 0] 30)))
  have HB1 := hid hB1
  have HE1 := hid hE1
  clear b0 b1 hB0 hB1 hE1 s0
  go_enter_defers Try.func42, Try.ntmps42
  go_wp2_with (go_at_call 84; refine TC2.out.mono ?_; rintro _ w2 ⟨rfl, hb2⟩
               have hB2 := (hb2.block _ (lt_blkR HB1.out)).trans HB1.out
               have hE2 := (hb2.block _ (lt_blkR HE1.out)).trans HE1.out
               obtain ⟨q0, q1⟩ := sn_cells hB2
               have fz : ∀ i, w2.frozen? ⟨w.heap.size, i, none⟩ = false := fun i => by simp [World.frozen?, hB2]
               have fe : w2.frozen? ⟨w.heap.size + 1, 0, none⟩ = false := by simp [World.frozen?, hE2]
               have ce : w2.cell? ⟨w.heap.size + 1, 0, none⟩ = some (.int .i64 0) := by rw [cell_of_row _ _ _ _ _ _ hE2]; rfl)
  refine leaves_cons (f := 83) (args := #[.pointer (some ⟨w.heap.size + 1, 0, none⟩)]) (by simp) (by simp [go_sem]) ?_
  refine (catchZ_panicking ⟨w.heap.size + 1, 0, none⟩ 0 [] w2 ce fe (lt_blkR hE2)).mono ?_
  have b3 := below_1 w2 (.cells #[.int .i64 3] 93)
  have hB3 : ((w2.alloc (.cells #[.int .i64 3] 93)).setCell ⟨w.heap.size + 1, 0, none⟩ (.int .i64 3)).heap[w.heap.size]? = some (.cells #[.slice none 0 0, .slice none 0 0] 49 (0, 0)) := by
    rw [heap_setCell_other _ _ _ _ (by simp)]; exact (b3.block _ (lt_blkR hB2)).trans hB2
  have hE3 := heap_setBox (W := w2.alloc (.cells #[.int .i64 3] 93)) (.int .i64 3) ((b3.block _ (lt_blkR hE2)).trans hE2)
  obtain ⟨r0, r1⟩ := sn_cells hB3
  have rE := cell_box hE3
  have BB2 := B1.out.trans (hb2.mono B1.out.size)
  have B3 := hid ((BB2.trans (b3.mono BB2.size)).setCell (p := ⟨w.heap.size + 1, 0, none⟩) (by simp) (.int .i64 3))
  rintro e u' w'' ⟨rfl, rfl, hw⟩
  rw [hw]
  clear BB2
  generalize (w2.alloc (.cells #[.int .i64 3] 93)).setCell ⟨w.heap.size + 1, 0, none⟩ (.int .i64 3) = w4 at *
  simp [Leaves, settle, results, Try.results42, go_sem, r0, r1, rE]
  exact ⟨rfl, B3.out⟩
set_option maxRecDepth 20000 in
set_option maxHeartbeats 2000000 in
theorem readSnapshotE_c (a : Option Addr) (c : Nat) (w : World) :
    Calls Try.prog 19 #[.slice a 0 c] w (ReadsZ w []) := by
  have b0 := below_1 w (.cells #[.slice none 0 0, .slice none 0 0] 49)
  have HB0 := hid (heap_alloc_new w (.cells #[.slice none 0 0, .slice none 0 0] 49))
  have RC := hid (readZE1_c a c (w.alloc (.cells #[.slice none 0 0, .slice none 0 0] 49)))
  have B0 := hid b0
  clear b0
  go_enter Try.func19, Try.ntmps19
  go_wp2_with (go_at_call 42; refine RC.out.mono ?_; rintro _ w1 ⟨rfl, hb1⟩
               have hB1 := (hb1.block _ (lt_blkR HB0.out)).trans HB0.out
               obtain ⟨q0, q1⟩ := sn_cells hB1
               have fz : ∀ i, w1.frozen? ⟨w.heap.size, i, none⟩ = false := fun i => by simp [World.frozen?, hB1]
               have BB1 := hid (B0.out.trans (hb1.mono B0.out.size))
               unfold snNo
               clear hb1)
  refine bodyPost_ret (v := .tuple #[snNo, .int .i64 3]) (by simp [results, Try.results19, go_sem, snNo, q0, q1]) rfl ⟨((BB1.out.setCell (p := ⟨w.heap.size, 0, none⟩) (Nat.le_refl _) _).setCell (p := ⟨w.heap.size, 1, none⟩) (Nat.le_refl _) _), .inr ⟨noneZ, rfl⟩⟩
theorem readSnapAny_c (a : Option Addr) (n c : Nat) (zs : List Int) (w : World) (h : IsB w a n zs) (hc : n ≤ c) :
    Calls Try.prog 19 #[.slice a n c] w (ReadsZ w zs) := by
  by_cases q : 0 < n
  · obtain ⟨b, off, rfl, hcl⟩ := h.2.2.1 q
    refine readSnapshot_c _ n c zs w h hc (.inr ⟨b, off, rfl, ?_⟩)
    have := hcl 0 q
    exact Nat.lt_of_not_le fun hge => by simp [World.cell?, Array.getElem?_eq_none hge] at this
  · have e : n = 0 := by omega
    subst e
    have e2 : zs = [] := List.eq_nil_of_length_eq_zero h.1
    rw [e2]
    exact readSnapshotE_c a c w
end Go.Proofs.Ytbgninmkglgfeaa
