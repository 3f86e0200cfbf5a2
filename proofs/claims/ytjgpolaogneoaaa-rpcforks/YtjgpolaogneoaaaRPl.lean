/-
  What begun and play of the statements on calls do.
-/
import Derived.Test.YtjgpolaogneoaaaRDG
namespace Go.Proofs.Ytjgpolaogneoaaa
open Go.RowKit Go.ChangeShapes Go.WideShapes Go.ChangeAt
set_option linter.unusedVariables false
set_option linter.unusedSimpArgs false
set_option maxRecDepth 100000
def PlP (w : World) (e : Ending) (w' : World) : Prop :=
  ∃ B c r s t l C R F n, e = .returned (pC B) ∧ n ≤ 60 ∧ Bo w' B c r s t l C R F n ∧ (w.heap.size ≤ B ∧ w.heap.size ≤ c ∧ w.heap.size ≤ r ∧ w.heap.size ≤ s ∧ w.heap.size ≤ t) ∧ Below w.heap.size w w'
set_option maxHeartbeats 2000000 in
theorem begun_c (w : World) : Calls Try.prog 27 #[] w fun e w' => ∃ B c r s t, e = .returned (pC B) ∧ Bo w' B c r s t zpk ⟨2, 3, 0, false, ⟨#[]⟩, 0, 0⟩ ⟨2, 3, 0, false, ⟨#[]⟩, 0, 0⟩ (fun _ => ⟨0, 0, 0, ⟨#[]⟩⟩) 0 ∧ (w.heap.size ≤ B ∧ w.heap.size ≤ c ∧ w.heap.size ≤ r ∧ w.heap.size ≤ s ∧ w.heap.size ≤ t) ∧ Below w.heap.size w w' := by
  go_enter Try.func27, Try.ntmps27
  go_wp2_with fail
  refine (newCaller_c 2 3 (by decide) (by decide) w).mono ?_
  rintro _ w1 ⟨rfl, hC, b1⟩
  go_wp2_with fail
  refine (rnewCaller_c 2 3 (by decide) (by decide) w1).mono ?_
  rintro _ w2 ⟨rfl, hR, b2⟩
  go_wp2_with fail
  refine (newCallee_c w2).mono ?_
  rintro _ w3 ⟨rfl, hK, b3⟩
  go_wp2_with fail
  refine (rnewCallee_c w3).mono ?_
  rintro _ w4 ⟨rfl, hT, b4⟩
  have b5 : Below w4.heap.size w4 (w4.alloc (.cells #[pC w.heap.size, pC w1.heap.size, pC w2.heap.size, pC w3.heap.size, .int .u8 0, .int .u8 0, .int .u8 0, .int .u32 0, .int .u32 0, .string ⟨#[]⟩] 56)) := (Below.refl _ _).alloc (Nat.le_refl _) _
  have z1 := b1.size
  have z2 := b2.size
  have z3 := b3.size
  have z4 := b4.size
  have wf0 : CWf ⟨2, 3, 0, false, ⟨#[]⟩, 0, 0⟩ 0 := ⟨rfl, rfl, by decide, by decide, by decide, by decide⟩
  have FIN : Hid (∃ B c r s t, Ending.returned (pC w4.heap.size) = .returned (pC B) ∧ Bo (w4.alloc (.cells #[pC w.heap.size, pC w1.heap.size, pC w2.heap.size, pC w3.heap.size, .int .u8 0, .int .u8 0, .int .u8 0, .int .u32 0, .int .u32 0, .string ⟨#[]⟩] 56)) B c r s t zpk ⟨2, 3, 0, false, ⟨#[]⟩, 0, 0⟩ ⟨2, 3, 0, false, ⟨#[]⟩, 0, 0⟩ (fun _ => ⟨0, 0, 0, ⟨#[]⟩⟩) 0 ∧ (w.heap.size ≤ B ∧ w.heap.size ≤ c ∧ w.heap.size ≤ r ∧ w.heap.size ≤ s ∧ w.heap.size ≤ t) ∧ Below w.heap.size w (w4.alloc (.cells #[pC w.heap.size, pC w1.heap.size, pC w2.heap.size, pC w3.heap.size, .int .u8 0, .int .u8 0, .int .u8 0, .int .u32 0, .int .u32 0, .string ⟨#[]⟩] 56))) := by
    refine ⟨_, _, _, _, _, rfl, ⟨heap_alloc_new w4 _, (((hC.later b2).later b3).later b4).later b5, ((hR.later b3).later b4).later b5, (hK.later b4).later b5, hT.later b5, ⟨rfl, rfl, rfl, rfl, fun h => by cases h⟩, wf0, wf0, wft0, ⟨⟨by decide, by decide, by decide, by decide, by decide⟩, by decide⟩⟩, by omega, ?_⟩
    exact (((b1.trans (b2.mono (by omega))).trans (b3.mono (by omega))).trans (b4.mono (by omega))).trans (b5.mono (by omega))
  clear hC hR hK hT b1 b2 b3 b4 b5 wf0
  go_wp2
  go_ret
  exact FIN.out
set_option maxHeartbeats 4000000 in
theorem play_c (a : Option Addr) (len cap : Nat) (f : Nat → Dr) (w : World) (h : IsDr w a len f) :
    Calls Try.prog 9 #[.slice a len cap] w (PlP w) := by
  have HI := hid h
  have hm := h.1
  unfold maxLen at hm
  clear h
  go_enter Try.func9, Try.ntmps9
  go_wp2_with fail
  refine (begun_c w).mono ?_
  rintro _ w1 ⟨B, c, r, s, t, rfl, hB, hge, hb⟩
  have HB1 := hid hB
  have HBW := hid hb
  clear hB hb
  go_wp2
  go_loopw [2, 4] (fun rs i wr => ∃ j l C R F, j ≤ 60 ∧ rs = .pointer none ∧ i = .int .i64 (j : Nat) ∧ Bo wr B c r s t l C R F j ∧ Below w.heap.size w wr) (fun _ i _ => (60 - intOf i).toNat)
  case atStart => exact ⟨0, _, _, _, _, by omega, rfl, rfl, HB1.out, HBW.out⟩
  case round =>
    obtain ⟨j, l, C, R, F, hj, rfl, rfl, hB, hb⟩ := hrel
    have HB := hid hB
    have HW := hid hb
    clear hB hb
    by_cases h1 : j < len
    · have h1' : (j : Int) < (len : Int) := by omega
      by_cases h2 : j < 60
      · have h2' : (j : Int) < 60 := by omega
        obtain ⟨b, off, rfl, hrg, hwf⟩ := HI.out.2 j h1
        have DC := hid (do_c HB.out (by omega) (f j) hwf)
        have HR : Hid (wr.rangeAt b (off + j * 11) (f j).cells) := hid (fun k v hv => cell_later HW.out (hrg k v hv))
        unfold Dr.val at DC
        generalize f j = x at *
        have k0 : wr.cell? ⟨b, off + j * 11, none⟩ = some (.int .i64 x.k) := HR.out 0 _ rfl
        have k1 : wr.cell? ⟨b, off + j * 11 + 1, none⟩ = some (.string x.s) := HR.out 1 _ rfl
        have k2 : wr.cell? ⟨b, off + j * 11 + 2, none⟩ = some (.int .u64 x.now) := HR.out 2 _ rfl
        have k3 : wr.cell? ⟨b, off + j * 11 + 3, none⟩ = some (.int .u8 x.p.k) := HR.out 3 _ rfl
        have k4 : wr.cell? ⟨b, off + j * 11 + 4, none⟩ = some (.int .u8 x.p.f) := HR.out 4 _ rfl
        have k5 : wr.cell? ⟨b, off + j * 11 + 5, none⟩ = some (.int .u8 x.p.t) := HR.out 5 _ rfl
        have k6 : wr.cell? ⟨b, off + j * 11 + 6, none⟩ = some (.int .u32 x.p.e) := HR.out 6 _ rfl
        have k7 : wr.cell? ⟨b, off + j * 11 + 7, none⟩ = some (.int .u32 x.p.s) := HR.out 7 _ rfl
        have k8 : wr.cell? ⟨b, off + j * 11 + 8, none⟩ = some (.string x.p.b) := HR.out 8 _ rfl
        have k9 : wr.cell? ⟨b, off + j * 11 + 9, none⟩ = some (.int .u8 x.c) := HR.out 9 _ rfl
        have k10 : wr.cell? ⟨b, off + j * 11 + 10, none⟩ = some (.bool x.own) := HR.out 10 _ rfl
        clear hrg hwf HR
        go_wp2_with (go_at_call 24; refine DC.out.mono ?_; rintro _ w4 ⟨rfl, ⟨l', C', R', F', hB4⟩, ho4⟩)
        go_roundw
        case rel => exact ⟨j + 1, l', C', R', F', by omega, rfl, by go_num, hB4, HW.out.trans (ho4.below HW.out.size (fun k e => by rcases e with e | e | e | e | e <;> omega))⟩
        case measure => simp [intOf]; omega
      · have h2' : ¬ (j : Int) < 60 := by omega
        have h2d : decide ((j : Int) < 60) = false := decide_eq_false h2'
        go_wp2
        go_ret
        exact ⟨B, c, r, s, t, l, C, R, F, j, rfl, hj, HB.out, hge, HW.out⟩
    · have h1' : ¬ (j : Int) < (len : Int) := by omega
      have h1d : decide ((j : Int) < (len : Int)) = false := decide_eq_false h1'
      go_wp2
      go_ret
      exact ⟨B, c, r, s, t, l, C, R, F, j, rfl, hj, HB.out, hge, HW.out⟩
end Go.Proofs.Ytjgpolaogneoaaa
