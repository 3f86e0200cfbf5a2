/-
  What same of the statements on caches answers.
-/
import Derived.Test.YtilcbkejmpfnfaaCAf
import Derived.Test.YtilcbkejmpfnfaaCR9
namespace Go.Proofs.Ytilcbkejmpfnfaa
open Go.RowKit Go.ChangeShapes Go.WideShapes Go.ChangeAt Go.Maps Go.Shelf
set_option linter.unusedVariables false
set_option linter.unusedSimpArgs false
set_option maxRecDepth 100000
theorem Rl.nx_ok {c : Ca} {r : Rc} (h : Rl c r) : (r.nx != 0) = decide (0 ≤ r.bst r.L.length) := by
  by_cases hb : r.bst r.L.length < 0
  · have : r.nx = 0 := by unfold Rc.nx; rw [if_pos hb]
    rw [this, decide_eq_false (by omega)]; rfl
  · rw [decide_eq_true (by omega)]
    have := (h.nx_pos hb).2.2.1
    simpa using this
set_option maxHeartbeats 8000000 in
theorem same_c {w : World} {p b1 b2 g : Nat} {vl vh : Value} {c : Ca} {r : Rc} (h : Bo w p b1 b2 g vl vh c r) {f : Int} (f0 : 0 ≤ f) (f1 : f < 4294967296) :
    Calls Try.prog 11 #[pA p, pA g, .int .u32 f] w fun e w' => e = .returned (.bool true) ∧ Below w.heap.size w w' := by
  have hlen := h.rl.lens
  have AT : Hid (∀ W, Below w.heap.size w W → IsCa W p b1 b2 c ∧ IsRc W g vl vh r) := hid (fun W hb => ⟨h.hc.later hb, h.hr.later hb⟩)
  have RL := hid h.rl
  have EN := RL.out.next RL.out.rise
  have EO := RL.out.nx_ok
  have EH := RL.out.has_at f
  have ED := RL.out.dirtyB f
  have EE := RL.out.dear f
  have NP : Hid (∀ W, Below w.heap.size w W → Calls Try.prog 18 #[pA p] W fun e w' => e = .returned (.tuple #[.int .u32 r.nx, .bool (r.nx != 0)]) ∧ Below w.heap.size w w') := hid (fun W hb => (next_at (AT.out W hb).1 (by omega) RL.out.rise).mono fun e w' q => ⟨by rw [q.1, EN], hb.trans (q.2.mono hb.size)⟩)
  have NR : Hid (∀ W, Below w.heap.size w W → Calls Try.prog 26 #[pA g] W fun e w' => e = .returned (.tuple #[.int .u32 r.nx, .bool (r.nx != 0)]) ∧ Below w.heap.size w w') := hid (fun W hb => (rcnext_c (AT.out W hb).2 (by omega) (by omega)).mono fun e w' q => ⟨by rw [q.1, EO], hb.trans (q.2.mono hb.size)⟩)
  have HP : Hid (∀ W, Below w.heap.size w W → Calls Try.prog 14 #[pA p, .int .u32 f] W fun e w' => e = .returned (.bool (c.has f)) ∧ Below w.heap.size w w') := hid (fun W hb => (has_c (AT.out W hb).1 f0 f1).mono fun e w' q => ⟨q.1, hb.trans (q.2.mono hb.size)⟩)
  have HR : Hid (∀ W, Below w.heap.size w W → Calls Try.prog 27 #[pA g, .int .u32 f] W fun e w' => e = .returned (.bool (c.has f)) ∧ Below w.heap.size w w') := hid (fun W hb => (rchas_c (AT.out W hb).2 (by omega) f).mono fun e w' q => ⟨by rw [q.1, EH], by rw [q.2]; exact hb⟩)
  have DP : Hid (∀ W, Below w.heap.size w W → Calls Try.prog 16 #[pA p, .int .u32 f] W fun e w' => e = .returned (.bool (c.dirtyB f)) ∧ Below w.heap.size w w') := hid (fun W hb => (dirty_c (AT.out W hb).1 f0 f1).mono fun e w' q => ⟨q.1, by rw [q.2]; exact hb⟩)
  have DR : Hid (∀ W, Below w.heap.size w W → Calls Try.prog 28 #[pA g, .int .u32 f] W fun e w' => e = .returned (.bool (c.dirtyB f)) ∧ Below w.heap.size w w') := hid (fun W hb => (rcdirty_c (AT.out W hb).2 (by omega) f).mono fun e w' q => ⟨by rw [q.1, ED], by rw [q.2]; exact hb⟩)
  have EP : Hid (∀ W, Below w.heap.size w W → Calls Try.prog 19 #[pA p, .int .u32 f] W fun e w' => e = .returned (.int .i64 (c.dearN f)) ∧ Below w.heap.size w w') := hid (fun W hb => (dear_c (AT.out W hb).1 f0 f1).mono fun e w' q => ⟨q.1, by rw [q.2]; exact hb⟩)
  have ER : Hid (∀ W, Below w.heap.size w W → Calls Try.prog 29 #[pA g, .int .u32 f] W fun e w' => e = .returned (.int .i64 (c.dearN f)) ∧ Below w.heap.size w w') := hid (fun W hb => (rcdear_c (AT.out W hb).2 (by omega) f).mono fun e w' q => ⟨by rw [q.1, EE], by rw [q.2]; exact hb⟩)
  have LP : Hid (∀ W, Below w.heap.size w W → Calls Try.prog 12 #[pA p] W fun e w' => (∃ v, e = .returned v ∧ RdF w' 0 v r.ss) ∧ Below w.heap.size w w') := hid (fun W hb => (list_c (AT.out W hb).1 (by omega) RL.out.rise).mono fun e w' ⟨v, e1, o1, b1⟩ => ⟨⟨v, e1, (RdF.of_own o1).base (Nat.zero_le _)⟩, hb.trans (b1.mono hb.size)⟩)
  have LR : Hid (∀ W, Below w.heap.size w W → Calls Try.prog 31 #[pA g] W fun e w' => (∃ v, e = .returned v ∧ RdF w' 0 v r.ss) ∧ Below w.heap.size w w' ∧ Below W.heap.size W w') := hid (fun W hb => (rclist_c (AT.out W hb).2 (by omega)).mono fun e w' ⟨v, e1, o1, b1⟩ => ⟨⟨v, e1, o1.rd.base (Nat.zero_le _)⟩, hb.trans (b1.mono hb.size), b1⟩)
  have WP : Hid (∀ W, Below w.heap.size w W → Calls Try.prog 20 #[pA p] W fun e w' => (∃ v, e = .returned v ∧ RdF w' 0 v (r.walkM 100)) ∧ Below w.heap.size w w') := hid (fun W hb => (walk_c (AT.out W hb).1 (by omega)).mono fun e w' ⟨v, ss, e1, hw, _, o1, b1⟩ => ⟨⟨v, e1, by rw [walkL_eq (walkR_is RL.out) hw]; exact o1.base (Nat.zero_le _)⟩, hb.trans (b1.mono hb.size)⟩)
  have WR : Hid (∀ W, Below w.heap.size w W → Calls Try.prog 32 #[pA g] W fun e w' => (∃ v, e = .returned v ∧ RdF w' 0 v (r.walkM 100)) ∧ Below w.heap.size w w' ∧ Below W.heap.size W w') := hid (fun W hb => (rcwalk_c (AT.out W hb).2 (by omega) (by omega)).mono fun e w' ⟨v, e1, o1, b1⟩ => ⟨⟨v, e1, o1.rd.base (Nat.zero_le _)⟩, hb.trans (b1.mono hb.size), b1⟩)
  have l1 : r.ss.length ≤ 1000 := by rw [r.ss_len]; omega
  have l2 : (r.walkM 100).length ≤ 1000 := by have := walkM_len r (by omega) 100 (Nat.le_refl _); omega
  clear h EN EO EH ED EE
  generalize r.nx = nx at *
  generalize c.has f = hh at *
  generalize c.dirtyB f = dd at *
  generalize c.dearN f = de at *
  generalize r.ss = ss at *
  generalize r.walkM 100 = ww at *
  go_enter Try.func11, Try.ntmps11
  go_wp2_with fail
  refine (NP.out _ (Below.refl _ _)).mono ?_
  rintro _ w1 ⟨rfl, hb1⟩
  have B1 := hid hb1
  clear hb1
  go_wp2_with fail
  refine (NR.out _ B1.out).mono ?_
  rintro _ w2 ⟨rfl, hb2⟩
  have B2 := hid hb2
  clear hb2
  go_wp2_with fail
  refine (HP.out _ B2.out).mono ?_
  rintro _ w3 ⟨rfl, hb3⟩
  have B3 := hid hb3
  clear hb3
  go_wp2_with fail
  refine (HR.out _ B3.out).mono ?_
  rintro _ w4 ⟨rfl, hb4⟩
  have B4 := hid hb4
  clear hb4
  go_wp2_with fail
  refine (DP.out _ B4.out).mono ?_
  rintro _ w5 ⟨rfl, hb5⟩
  have B5 := hid hb5
  clear hb5
  go_wp2_with fail
  refine (DR.out _ B5.out).mono ?_
  rintro _ w6 ⟨rfl, hb6⟩
  have B6 := hid hb6
  clear hb6
  go_wp2_with fail
  refine (EP.out _ B6.out).mono ?_
  rintro _ w7 ⟨rfl, hb7⟩
  have B7 := hid hb7
  clear hb7
  go_wp2_with fail
  refine (ER.out _ B7.out).mono ?_
  rintro _ w8 ⟨rfl, hb8⟩
  have B8 := hid hb8
  clear hb8
  go_wp2_with fail
  refine (LP.out _ B8.out).mono ?_
  rintro _ w9 ⟨⟨v9, rfl, r9⟩, hb9⟩
  have B9 := hid hb9
  have R9 := hid r9
  clear hb9 r9
  go_wp2_with fail
  refine (LR.out _ B9.out).mono ?_
  rintro _ w10 ⟨⟨v10, rfl, r10⟩, hb10, hc10⟩
  have B10 := hid hb10
  have SC1 := hid (rcsame_c (R9.out.later hc10) r10 l1)
  clear hb10 r10 hc10
  go_wp2_with fail
  refine SC1.out.mono ?_
  rintro _ w11 ⟨rfl, hb11⟩
  have B11 := hid (B10.out.trans (hb11.mono B10.out.size))
  clear hb11
  go_wp2_with fail
  refine (WP.out _ B11.out).mono ?_
  rintro _ w12 ⟨⟨v12, rfl, r12⟩, hb12⟩
  have B12 := hid hb12
  have R12 := hid r12
  clear hb12 r12
  go_wp2_with fail
  refine (WR.out _ B12.out).mono ?_
  rintro _ w13 ⟨⟨v13, rfl, r13⟩, hb13, hc13⟩
  have B13 := hid hb13
  have SC2 := hid (rcsame_c (R12.out.later hc13) r13 l2)
  clear hb13 r13 hc13
  go_wp2_with fail
  refine SC2.out.mono ?_
  rintro _ w14 ⟨rfl, hb14⟩
  have B14 := hid (B13.out.trans (hb14.mono B13.out.size))
  clear hb14
  go_wp2
  go_ret
  exact ⟨by first | rfl | exact ret_bool (by simp), B14.out⟩
end Go.Proofs.Ytilcbkejmpfnfaa
