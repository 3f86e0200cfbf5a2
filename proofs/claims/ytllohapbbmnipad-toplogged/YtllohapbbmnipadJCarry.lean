/-
  carryOut of the package journal: two batches, each with a Flush behind it.
-/
import Derived.Test.YtllohapbbmnipadJWrite
namespace Go.Proofs.Ytllohapbbmnipad
open Go.RowKit Go.ChangeShapes Go.WideShapes Go.ChangeAt Go.Maps
set_option linter.unusedVariables false
set_option linter.unusedSimpArgs false
/-- What is on a disk behind sectors that were written from a place on. -/
def updO (f : Int → Sec) (st : Nat) (ss : List (List Int)) : Int → Sec := fun i => if (st : Int) ≤ i ∧ i < ((st + ss.length : Nat) : Int) then ss.getD (i - st).toNat [] else f i
theorem updL_updO (on : Int → Sec) (c : Int → Option Sec) (st : Nat) (ss : List (List Int)) : (fun i => (updL c st ss i).getD (on i)) = updO (vw on c) st ss := by
  funext i; unfold updL updO vw; split <;> simp
theorem vw_none (on : Int → Sec) : vw on (fun _ => none) = on := rfl
theorem IsSS.lt {w : World} {b off n : Nat} {ss : List (List Int)} (h : IsSS w (some ⟨b, off, none⟩) n ss) (hn : 0 < n) : b < w.heap.size := by
  obtain ⟨r1, s1⟩ := h.at 0 hn
  have hl0 : 0 < (ss.getD 0 []).length := by rw [s1.1]; omega
  exact World.block_lt_of_cell? w _ (r1 0 _ (by simp only [List.getElem?_map, List.getElem?_eq_getElem hl0]; rfl))
/-- Rows of sectors stay where a disk's maps turn. -/
theorem IsSS.disk {w w' : World} {b off n : Nat} {ss : List (List Int)} {d b1 b2 N : Nat} {on : Int → Sec} {c : Int → Option Sec} (h : IsSS w (some ⟨b, off, none⟩) n ss) (hn : 0 < n) (hD : IsD w d b1 b2 N on c) (ho : Out (fun k => k = b1 ∨ k = b2) w w') : IsSS w' (some ⟨b, off, none⟩) n ss := by
  obtain ⟨⟨es, cl, h2⟩, es', cl', h1⟩ := hD.mapAt
  exact h.blk (ho.block b (h.lt hn) (by rintro (e | e); exact h.notMap hn h1 e; exact h.notMap hn h2 e))
theorem IsJ.flushed {w w' : World} {j d b1 b2 N : Nat} {on on' : Int → Sec} {c c' : Int → Option Sec} (h : IsJ w j d b1 b2 N on c) (hD : IsD w' d b1 b2 N on' c') (ho : Out (fun k => k = b1 ∨ k = b2) w w') : IsJ w' j d b1 b2 N on' c' := by
  have hp := h.parts
  exact ⟨by rw [ho.block j hp.2.2 (by rintro (e | e); exact hp.1 e; exact hp.2.1 e)]; exact h.1, hD, h.2.2⟩
theorem index0 (a b c d : Value) (w : World) : (Instr.index 66 (.agg #[a, b, c, d]) (.int .i64 0)).run Try.prog w = .ok (.agg #[a, b]) w := by
  simp [Instr.index, run_underlying Try.underlying66, asIntOf, part, Try.sizeOf65, run_underlying Try.underlying65, Result.andThen, go_sem]
theorem index1 (a b c d : Value) (w : World) : (Instr.index 66 (.agg #[a, b, c, d]) (.int .i64 1)).run Try.prog w = .ok (.agg #[c, d]) w := by
  simp [Instr.index, run_underlying Try.underlying66, asIntOf, part, Try.sizeOf65, run_underlying Try.underlying65, Result.andThen, go_sem]
set_option maxHeartbeats 1000000 in
theorem carry_err (j : Nat) (v0 v1 v2 v3 : Value) (e : Int) (he : e ≠ 0) (w : World) :
    Calls Try.prog 23 #[pB j, .agg #[v0, v1, v2, v3], .int .i64 e] w fun r w' => r = .returned (.int .i64 e) ∧ Below w.heap.size w w' := by
  have h1 : (e != 0) = true := by simpa using he
  have h2 : (e == 0) = false := by simpa using he
  go_enter Try.func23, Try.ntmps23
  go_wp2
  go_ret
  exact ⟨rfl, (Below.refl _ _).alloc (Nat.le_refl _) _⟩
set_option maxRecDepth 20000 in
set_option maxHeartbeats 4000000 in
theorem carry_c {w : World} {j d b1 b2 N : Nat} {on : Int → Sec} {c : Int → Option Sec} (h : IsJ w j d b1 b2 N on c) (s0 p0 o0 n0 k0 s1 p1 o1 n1 k1 : Nat) (S0 S1 : List (List Int))
    (hS0 : IsSS w (some ⟨p0, o0, none⟩) n0 S0) (hS1 : IsSS w (some ⟨p1, o1, none⟩) n1 S1) (h0 : 0 < n0) (h1 : 0 < n1) (hn0 : s0 + n0 ≤ N) (hn1 : s1 + n1 ≤ N) :
    Calls Try.prog 23 #[pB j, .agg #[.int .i64 s0, .slice (some ⟨p0, o0, none⟩) n0 k0, .int .i64 s1, .slice (some ⟨p1, o1, none⟩) n1 k1], .int .i64 0] w fun r w' => r = .returned (.int .i64 0) ∧ IsJ w' j d b1 b2 N (updO (updO (vw on c) s0 S0) s1 S1) (fun _ => none) ∧ Out (fun k => k = b1 ∨ k = b2) w w' := by
  have H := hid h
  have HS0 := hid hS0
  have HS1 := hid hS1
  clear h hS0 hS1
  go_enter Try.func23, Try.ntmps23
  go_wp2
  refine wp_loop_rounds 3 ?_
  rw [rounds_succ]
  have x0 := index0 (.int .i64 s0) (.slice (some ⟨p0, o0, none⟩) n0 k0) (.int .i64 s1) (.slice (some ⟨p1, o1, none⟩) n1 k1)
  have x1 := index1 (.int .i64 s0) (.slice (some ⟨p0, o0, none⟩) n0 k0) (.int .i64 s1) (.slice (some ⟨p1, o1, none⟩) n1 k1)
  go_wp2_with fail
  have hBa : Below w.heap.size w ((w.alloc (.cells #[.int .i64 s0, .slice (some ⟨p0, o0, none⟩) n0 k0, .int .i64 s1, .slice (some ⟨p1, o1, none⟩) n1 k1] 66)).alloc (.cells #[.int .i64 s0, .slice (some ⟨p0, o0, none⟩) n0 k0] 65)) := ((Below.refl _ _).alloc (Nat.le_refl _) _).alloc (by simp) _
  generalize ((w.alloc (.cells #[.int .i64 s0, .slice (some ⟨p0, o0, none⟩) n0 k0, .int .i64 s1, .slice (some ⟨p1, o1, none⟩) n1 k1] 66)).alloc (.cells #[.int .i64 s0, .slice (some ⟨p0, o0, none⟩) n0 k0] 65)) = Wa at *
  refine (jwrite_c (H.out.later hBa) s0 p0 o0 n0 k0 S0 (HS0.out.later hBa) hn0 h0).mono ?_
  rintro _ w1 ⟨rfl, hJ1, hO1⟩
  have hO1' : Out (fun k => k = b1 ∨ k = b2) Wa w1 := hO1.mono (fun k e => .inr e)
  have cj1 := hJ1.cell
  have HS11 := hid ((HS1.out.later hBa).disk h1 (H.out.later hBa).2.1 hO1')
  have HJ1 := hid hJ1
  clear hJ1
  go_wp2_with fail
  refine (flush_c HJ1.out.2.1).mono ?_
  rintro _ w2 ⟨rfl, hD2, hO2⟩
  rw [updL_updO] at hD2
  have HJ2 := hid (HJ1.out.flushed hD2 hO2)
  have HS12 := hid (HS11.out.disk h1 HJ1.out.2.1 hO2)
  have HO2 := hid (((Out.of (S := fun k => k = b1 ∨ k = b2) hBa).trans hO1').trans hO2)
  clear hO1 hO1' hO2 cj1 hD2
  go_wp2
  rw [rounds_succ]
  go_wp2_with fail
  have hBb : Below w2.heap.size w2 (w2.alloc (.cells #[.int .i64 s1, .slice (some ⟨p1, o1, none⟩) n1 k1] 65)) := (Below.refl _ _).alloc (Nat.le_refl _) _
  generalize (w2.alloc (.cells #[.int .i64 s1, .slice (some ⟨p1, o1, none⟩) n1 k1] 65)) = Wb at *
  refine (jwrite_c (HJ2.out.later hBb) s1 p1 o1 n1 k1 S1 (HS12.out.later hBb) hn1 h1).mono ?_
  rintro _ w3 ⟨rfl, hJ3, hO3⟩
  have cj3 := hJ3.cell
  have HJ3 := hid hJ3
  clear hJ3
  go_wp2_with fail
  refine (flush_c HJ3.out.2.1).mono ?_
  rintro _ w4 ⟨rfl, hD4, hO4⟩
  rw [updL_updO, vw_none] at hD4
  have HJ4 := hid (HJ3.out.flushed hD4 hO4)
  have HO4 := hid (((HO2.out.trans (Out.of hBb)).trans (hO3.mono (fun k e => .inr e))).trans hO4)
  clear hO3 hO4 cj3 hD4
  go_wp2
  rw [rounds_succ]
  go_wp2
  go_ret
  exact ⟨rfl, HJ4.out, HO4.out⟩
end Go.Proofs.Ytllohapbbmnipad
