/-
  No bytes at all, wherever they are said to lie, as records; and all bytes.
-/
import Derived.Test.YtbgninmkglgfeaaRBp
namespace Go.Proofs.Ytbgninmkglgfeaa
open Go.RowKit Go.ChangeShapes Go.WideShapes Go.ChangeAt Go.Maps Go.Shelf
set_option linter.unusedVariables false
set_option linter.unusedSimpArgs false
set_option maxRecDepth 20000 in
set_option maxHeartbeats 2000000 in
theorem pieceE_c (r : Nat) (a : Option Addr) (c : Nat) (w : World) (h : w.heap[r]? = some (.cells #[.slice a 0 c] 134 (0, 0))) :
    Calls Try.prog 94 #[.pointer (some ⟨r, 0, none⟩), .int .i64 1] w fun e w' => e = PN ∧ w' = w := by
  have c0 := cell_box h
  have f0 := frozen_box h
  clear h
  go_enter Try.func94, Try.ntmps94
  go_wp2_with (go_at_call 54; refine (refuse_t _).mono ?_; rintro _ wf ⟨rfl, hwf⟩; have hwf2 := hwf.symm; clear hwf; subst hwf2)
  exact ⟨rfl, rfl, rfl⟩
set_option maxRecDepth 20000 in
set_option maxHeartbeats 2000000 in
theorem numE_c (r : Nat) (a : Option Addr) (c : Nat) (w : World) (h : w.heap[r]? = some (.cells #[.slice a 0 c] 134 (0, 0))) :
    Calls Try.prog 51 #[.pointer (some ⟨r, 0, none⟩), .int .i64 1] w fun e w' => e = PN ∧ w' = w := by
  have PC := hid (pieceE_c r a c w h)
  clear h
  go_enter Try.func51, Try.ntmps51
  go_wp2_with (go_at_call 94; refine PC.out.mono ?_; rintro _ wf ⟨rfl, hwf⟩; have hwf2 := hwf.symm; clear hwf; subst hwf2)
  exact ⟨rfl, rfl, rfl⟩
set_option maxHeartbeats 2000000 in
theorem takeListE_c (r : Nat) (a : Option Addr) (c : Nat) (w : World) (h : w.heap[r]? = some (.cells #[.slice a 0 c] 134 (0, 0))) :
    Calls Try.prog 59 #[.pointer (some ⟨r, 0, none⟩), .int .i64 24, .func (.func 60) #[] #[]] w fun e w' => e = PN ∧ w' = w := by
  have PC := hid (numE_c r a c w h)
  clear h
  go_enter Try.func59, Try.ntmps59
  go_wp2_with (go_at_call 51; refine PC.out.mono ?_; rintro _ wf ⟨rfl, hwf⟩; have hwf2 := hwf.symm; clear hwf; subst hwf2)
  exact ⟨rfl, rfl, rfl⟩
set_option maxHeartbeats 2000000 in
theorem takeRecordsE_c (r : Nat) (a : Option Addr) (c : Nat) (w : World) (h : w.heap[r]? = some (.cells #[.slice a 0 c] 134 (0, 0))) :
    Calls Try.prog 27 #[.pointer (some ⟨r, 0, none⟩)] w fun e w' => e = PN ∧ w' = w := by
  have PC := hid (takeListE_c r a c w h)
  clear h
  go_enter Try.func27, Try.ntmps27
  go_wp2_with (go_at_call 59; refine PC.out.mono ?_; rintro _ wf ⟨rfl, hwf⟩; have hwf2 := hwf.symm; clear hwf; subst hwf2)
  exact ⟨rfl, rfl, rfl⟩
set_option maxHeartbeats 2000000 in
theorem takeAllE_c (a : Option Addr) (c : Nat) (w : World) :
    Calls Try.prog 58 #[.slice a 0 c, .func (.func 27) #[] #[]] w fun e w' => e = PN ∧ Below w.heap.size w w' := by
  have B1 := hid (below_1 w (.cells #[.slice a 0 c] 134))
  have TC := hid (takeRecordsE_c w.heap.size a c _ (heap_alloc_new w (.cells #[.slice a 0 c] 134)))
  go_enter Try.func58, Try.ntmps58
  go_wp2_with (go_at_call 27; refine TC.out.mono ?_; rintro _ wf ⟨rfl, hwf⟩; have hwf2 := hwf.symm; clear hwf; subst hwf2)
  exact ⟨rfl, rfl, B1.out⟩
set_option maxRecDepth 20000 in
set_option maxHeartbeats 2000000 in
theorem readE1_c (a : Option Addr) (c : Nat) (w : World) :
    Calls Try.prog 26 #[.slice a 0 c, .func (.func 27) #[] #[]] w (ReadsL w none) := by
  have hmf : ∀ (fn : Fn) (first cap : Array Value) (w : World), (Instr.makeFunc fn first cap).run Try.prog w = .ok (.func fn first cap) w := fun _ _ _ _ => rfl
  have B1 := hid (below_1 w (.cells #[.int .i64 0] 30))
  have HE1 := hid (heap_alloc_new w (.cells #[.int .i64 0] 30))
  have TC := hid (takeAllE_c a c (w.alloc (.cells #[.int .i64 0] 30)))
  go_enter_defers Try.func26, Try.ntmps26
  go_wp2_with (go_at_call 58; refine TC.out.mono ?_; rintro _ w2 ⟨rfl, hb2⟩
               have hE2 := (hb2.block _ (lt_blkR HE1.out)).trans HE1.out
               have fe : w2.frozen? ⟨w.heap.size, 0, none⟩ = false := by simp [World.frozen?, hE2]
               have ce : w2.cell? ⟨w.heap.size, 0, none⟩ = some (.int .i64 0) := by rw [cell_of_row _ _ _ _ _ _ hE2]; rfl)
  refine leaves_cons (f := 57) (args := #[.pointer (some ⟨w.heap.size, 0, none⟩)]) (by simp) (by simp [go_sem]) ?_
  refine (catchR_panicking ⟨w.heap.size, 0, none⟩ 0 [] w2 ce fe (lt_blkR hE2)).mono ?_
  have b3 := below_1 w2 (.cells #[.int .i64 3] 93)
  have hE3 := heap_setBox (W := w2.alloc (.cells #[.int .i64 3] 93)) (.int .i64 3) ((b3.block _ (lt_blkR hE2)).trans hE2)
  have rE := cell_box hE3
  have B3 := hid (((B1.out.trans (hb2.mono B1.out.size)).trans (b3.mono (Nat.le_trans B1.out.size hb2.size))).setCell (p := ⟨w.heap.size, 0, none⟩) (by simp) (.int .i64 3))
  rintro e u' w'' ⟨rfl, rfl, hw⟩
  rw [hw]
  generalize (w2.alloc (.cells #[.int .i64 3] 93)).setCell ⟨w.heap.size, 0, none⟩ (.int .i64 3) = w4 at *
  simp [Leaves, settle, results, Try.results26, go_sem, ReadsL, rE]
  exact B3.out
set_option maxHeartbeats 1000000 in
theorem readRecordsE_c (a : Option Addr) (c : Nat) (w : World) : Calls Try.prog 9 #[.slice a 0 c] w (ReadsL w none) := by
  have RC := hid (readE1_c a c w)
  unfold ReadsL at RC
  go_enter Try.func9, Try.ntmps9
  go_wp2_with (go_at_call 26; refine RC.out.mono ?_; rintro _ w1 ⟨hb, rfl⟩)
  refine bodyPost_ret (v := .tuple #[.slice none 0 0, .int .i64 3]) (by simp [results, Try.results9, go_sem]) rfl ?_
  exact ⟨hb, rfl⟩
theorem readAny_c (a : Option Addr) (n c : Nat) (zs : List Int) (w : World) (h : IsB w a n zs) (hc : n ≤ c) :
    Calls Try.prog 9 #[.slice a n c] w (ReadsL w (recsAll zs)) := by
  by_cases q : 0 < n
  · obtain ⟨b, off, rfl, hcl⟩ := h.2.2.1 q
    refine readRecords_c _ n c zs w h hc (.inr ⟨b, off, rfl, ?_⟩)
    have := hcl 0 q
    exact Nat.lt_of_not_le fun hge => by simp [World.cell?, Array.getElem?_eq_none hge] at this
  · have e : n = 0 := by omega
    subst e
    have e2 : zs = [] := List.eq_nil_of_length_eq_zero h.1
    rw [e2]
    exact readRecordsE_c a c w
end Go.Proofs.Ytbgninmkglgfeaa
