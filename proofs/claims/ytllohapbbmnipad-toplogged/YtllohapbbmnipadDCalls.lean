/-
  What New, fault, Size, Write, Read of the package disk return: one contract a function.
-/
import Derived.Test.YtllohapbbmnipadDLaws
namespace Go.Proofs.Ytllohapbbmnipad
open Go.RowKit Go.ChangeShapes Go.WideShapes Go.ChangeAt Go.Maps
set_option linter.unusedVariables false
set_option linter.unusedSimpArgs false
theorem range_sec {w : World} {g : Nat} {s : Sec} {t : TypeId} {fr : Nat × Nat} (h : w.heap[g]? = some (.cells (s.map by8).toArray t fr)) : w.rangeAt g 0 (s.map by8) := fun j v hv => by
  rw [Nat.zero_add, cell_of_row _ _ _ _ _ _ h]; simpa using hv
abbrev pD (d : Nat) : Value := .pointer (some ⟨d, 0, none⟩)
set_option maxHeartbeats 400000 in
theorem fault_nil (i : Int) (w : World) : Calls Try.prog 77 #[.pointer none, .int .i64 i] w fun e w' => e = .returned (.int .i64 1) ∧ w' = w := by
  go_enter Try.func77, Try.ntmps77
  go_wp2
  go_ret
  exact ⟨rfl, rfl⟩
def faultB (N : Nat) (i : Int) : Int := if 0 ≤ i ∧ i < N then 0 else 2
set_option maxHeartbeats 400000 in
theorem fault_c {w : World} {d b1 b2 N : Nat} {on : Int → Sec} {c : Int → Option Sec} (h : IsD w d b1 b2 N on c) (i : Int) : Calls Try.prog 77 #[pD d, .int .i64 i] w fun e w' => e = .returned (.int .i64 (faultB N i)) ∧ w' = w := by
  obtain ⟨c0, c1, c2, l0, l1, l2, d1, d2, d3⟩ := h.cells
  clear h c1 c2 l1 l2 d1 d2 d3
  by_cases h0 : i < 0
  · have e : faultB N i = 2 := by unfold faultB; rw [if_neg (by omega)]
    have E := hid e
    clear e
    go_enter Try.func77, Try.ntmps77
    go_wp2
    go_ret
    exact ⟨ret_int E.out.symm, rfl⟩
  · by_cases h1 : (N : Int) ≤ i
    · have e : faultB N i = 2 := by unfold faultB; rw [if_neg (by omega)]
      have E := hid e
      clear e
      go_enter Try.func77, Try.ntmps77
      go_wp2
      go_ret
      exact ⟨ret_int E.out.symm, rfl⟩
    · have e : faultB N i = 0 := by unfold faultB; rw [if_pos (by omega)]
      have E := hid e
      clear e
      go_enter Try.func77, Try.ntmps77
      go_wp2
      go_ret
      exact ⟨ret_int E.out.symm, rfl⟩
set_option maxHeartbeats 400000 in
theorem new_none (n : Int) (w : World) (h : n < 1 ∨ 2048 < n) : Calls Try.prog 6 #[.int .i64 n] w fun e w' => e = .returned (.pointer none) ∧ w' = w := by
  by_cases h1 : n < 1
  · go_enter Try.func6, Try.ntmps6
    go_wp2
    go_ret
    exact ⟨rfl, rfl⟩
  · have h2 : 2048 < n := by omega
    go_enter Try.func6, Try.ntmps6
    go_wp2
    go_ret
    exact ⟨rfl, rfl⟩
set_option maxHeartbeats 400000 in
theorem new_c (N : Nat) (w : World) (h1 : 1 ≤ N) (h2 : N ≤ 2048) : Calls Try.prog 6 #[.int .i64 N] w fun e w' =>
    e = .returned (pD (w.heap.size + 2)) ∧ IsD w' (w.heap.size + 2) w.heap.size (w.heap.size + 1) N (fun _ => zsec) (fun _ => none) ∧ Below w.heap.size w w' ∧ w'.heap.size = w.heap.size + 3 := by
  have hmm := @run_makeMap Try.prog
  have g1 : ¬ (N : Int) < 1 := by omega
  have g2 : ¬ (2048 : Int) < (N : Int) := by omega
  go_enter Try.func6, Try.ntmps6
  go_wp2
  go_ret
  refine ⟨rfl, ⟨?_, by omega, h1, h2, ?_, fun _ => none, ?_, fun _ => rfl⟩, ?_, by simp⟩
  · have := heap_alloc_new ((w.alloc (.map #[] 0)).alloc (.map #[] 0)) (.cells #[.int .i64 N, .map (some w.heap.size), .map (some (w.heap.size + 1))] 55 (0, 0))
    simpa using this
  · have := IsM.made (w.alloc (.map #[] 0)) N
    have h3 := this.out (S := fun _ => False) ((Out.refl _ _).alloc (.cells #[.int .i64 N, .map (some w.heap.size), .map (some (w.heap.size + 1))] 55 (0, 0))) id
    simpa using h3
  · have := IsM.made w N
    exact this.out (S := fun _ => False) (((Out.refl _ _).alloc _).alloc _) id
  · exact (((Below.refl _ _).alloc (Nat.le_refl _) _).alloc (by simp) _).alloc (by simp; omega) _
set_option maxHeartbeats 400000 in
theorem size_nil (w : World) : Calls Try.prog 14 #[.pointer none] w fun e w' => e = .returned (.int .i64 0) ∧ w' = w := by
  go_enter Try.func14, Try.ntmps14
  go_wp2
  go_ret
  exact ⟨rfl, rfl⟩
set_option maxHeartbeats 400000 in
theorem size_c {w : World} {d b1 b2 N : Nat} {on : Int → Sec} {c : Int → Option Sec} (h : IsD w d b1 b2 N on c) : Calls Try.prog 14 #[pD d] w fun e w' => e = .returned (.int .i64 N) ∧ w' = w := by
  obtain ⟨c0, c1, c2, l0, l1, l2, d1, d2, d3⟩ := h.cells
  clear h c1 c2 l1 l2 d1 d2 d3
  go_enter Try.func14, Try.ntmps14
  go_wp2
  go_ret
  exact ⟨rfl, rfl⟩
set_option maxHeartbeats 400000 in
theorem write_nil (i : Int) (s : Sec) (w : World) : Calls Try.prog 43 #[.pointer none, .int .i64 i, secV s] w fun e w' => e = .returned (.int .i64 1) ∧ Below w.heap.size w w' := by
  unfold secV
  go_enter Try.func43, Try.ntmps43
  go_wp2_with (go_at_call 77; refine (fault_nil _ _).mono ?_; rintro e w' ⟨rfl, rfl⟩)
  go_ret
  exact ⟨rfl, (Below.refl _ _).alloc (Nat.le_refl _) _⟩
set_option maxHeartbeats 400000 in
theorem write_bad {w : World} {d b1 b2 N : Nat} {on : Int → Sec} {c : Int → Option Sec} (h : IsD w d b1 b2 N on c) (i : Int) (s : Sec) (hi : i < 0 ∨ (N : Int) ≤ i) :
    Calls Try.prog 43 #[pD d, .int .i64 i, secV s] w fun e w' => e = .returned (.int .i64 2) ∧ Below w.heap.size w w' := by
  unfold secV
  have hb1 : Below w.heap.size w (w.alloc (.cells (s.map by8).toArray 90)) := (Below.refl _ _).alloc (Nat.le_refl _) _
  have hf := fault_c (h.later hb1) i
  have e : faultB N i = 2 := by unfold faultB; rw [if_neg (by omega)]
  rw [e] at hf
  clear e h
  go_enter Try.func43, Try.ntmps43
  go_wp2_with (go_at_call 77; refine hf.mono ?_; rintro e w' ⟨rfl, rfl⟩)
  go_ret
  exact ⟨rfl, hb1⟩
set_option maxRecDepth 100000 in
set_option maxHeartbeats 1000000 in
theorem write_c {w : World} {d b1 b2 N : Nat} {on : Int → Sec} {c : Int → Option Sec} (h : IsD w d b1 b2 N on c) (i : Int) (s : Sec) (hs : IsSec s) (h0 : 0 ≤ i) (h1 : i < N) :
    Calls Try.prog 43 #[pD d, .int .i64 i, secV s] w fun e w' => e = .returned (.int .i64 0) ∧ IsD w' d b1 b2 N on (upd c i (some s)) ∧ Out (fun k => k = b2) w w' := by
  unfold secV
  have hb1 : Below w.heap.size w (w.alloc (.cells (s.map by8).toArray 90)) := (Below.refl _ _).alloc (Nat.le_refl _) _
  have hf := fault_c (h.later hb1) i
  have e : faultB N i = 0 := by unfold faultB; rw [if_pos (by omega)]
  rw [e] at hf
  clear e
  have H := hid h
  have h' := h.later hb1
  have hr : (w.alloc (.cells (s.map by8).toArray 90)).heap[w.heap.size]? = some (.cells (s.map by8).toArray 90) := heap_alloc_new w _
  have hlt : w.heap.size < (w.alloc (.cells (s.map by8).toArray 90)).heap.size := by simp
  have B0 := hid hb1
  clear h hb1
  go_enter Try.func43, Try.ntmps43
  go_wp2_with (go_at_call 77; refine hf.mono ?_; rintro e w' ⟨rfl, rfl⟩)
  clear hf
  generalize (w.alloc (.cells (s.map by8).toArray 90)) = W at *
  obtain ⟨c0, c1, c2, l0, l1, l2, d1, d2, d3⟩ := h'.cells
  have hR : W.rangeAt w.heap.size 0 (s.map by8) := range_sec hr
  have hu := Try.underlying90
  have hi : (Try.prog.info? 90).map (·.size) = some (s.map by8).length := by rw [sizeS]; simp [hs.1]
  have hl32 : (s.map by8).length = 32 := by simp [hs.1]
  have h1c : ∀ v ∈ s.map by8, v.oneCell' = true := fun v hv => by obtain ⟨x, _, rfl⟩ := List.mem_map.1 hv; rfl
  obtain ⟨w1, hmu, m1, t1⟩ := IsM.store (w := W.drew) (b := b2) (N := N) (f := c) h'.2.2.2.2.1 h0 h1 h'.2.2.2.1 hs
  have o1 : Out (fun k => k = b2) W w1 := ((Out.refl _ W).drew).trans (Out.turned t1 rfl)
  have k1 : w1.cell? ⟨d, 2, none⟩ = some (.map (some b2)) := by
    rw [← c2]; exact World.cell?_of_block (o1.block d l0 d2)
  have k2 : w1.rangeAt w.heap.size 0 (s.map by8) := range_sec (by rw [o1.block w.heap.size hlt (fun e => by have := H.out.cells; omega)]; exact hr)
  have M1 := hid m1
  have O1 := hid o1
  unfold secV at hmu
  clear m1 o1 t1
  go_region_held3 (fun w' => w'.cell? ⟨d, 2, none⟩ = some (.map (some b2)) ∧ w'.rangeAt w.heap.size 0 (s.map by8)) (first | go_keep_ranges | exact ⟨k1, k2⟩) (fail)
  go_wp2
  go_ret
  have O2 := (Out.of (S := fun k => k = b2) B0.out).trans O1.out
  obtain ⟨e1, e2, e3, e4, e5, m, e6, e7⟩ := H.out
  obtain ⟨_, _, _, _, _, _, q1, q2, q3⟩ := H.out.cells
  exact ⟨rfl, ⟨by rw [O2.block d (lt_blk e1) q2]; exact e1, e2, e3, e4, M1.out, m, e6.out O2 q3, e7⟩, O2⟩
end Go.Proofs.Ytllohapbbmnipad
