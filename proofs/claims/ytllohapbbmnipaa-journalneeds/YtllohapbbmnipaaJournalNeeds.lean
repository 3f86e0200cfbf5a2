/-
  For every group (of more than twenty parts the first twenty): Need answers what the document says.
-/
import Derived.Test.YtllohapbbmnipaaJRNeed
namespace Go.Proofs.Ytllohapbbmnipaa
open Go.ChangeShapes Go.WideShapes Go.ChangeAt Go.RowKit Go.Maps
open Go.ChangeMaps (open_string shut_string)
set_option linter.unusedVariables false
set_option linter.unusedSimpArgs false
set_option maxRecDepth 100000 in
set_option maxHeartbeats 1000000 in
theorem journalNeeds_walk (a : Option Addr) (len cap : Nat) (g : Jo.Gr) (lc : len ≤ cap) (nc : a = none → cap = 0) (w : World) (h : IsG0 w a len g) :
    Calls Try.prog 4 #[.slice a len cap] w fun e w' => e = .returned (.bool true) ∧ Below w.heap.size w w' := by
  have hm := h.2.1
  unfold maxLen at hm
  by_cases hl : 20 < len
  · obtain ⟨b, off, rfl, _⟩ := h.2.2 (by omega)
    have NC : Hid (∀ W, Below w.heap.size w W → Calls Try.prog 12 #[.slice (some ⟨b, off, none⟩) 20 cap] W fun e w' => e = .returned (.int .i64 (Jo.needF (g.take 20) : Nat)) ∧ w' = W) := fun W hW => needs_c _ 20 cap _ W ((h.front 20 (by omega)).later hW).isG
    have RC : Hid (∀ W, Below w.heap.size w W → Calls Try.prog 13 #[.slice (some ⟨b, off, none⟩) 20 cap] W fun e w' => e = .returned (.int .i64 (Jo.needF (g.take 20) : Nat)) ∧ w' = W) := fun W hW => rneed_c _ 20 cap _ W ((h.front 20 (by omega)).later hW).isG
    have hlI : (20 : Int) < len := by omega
    have h20 : (20 : Int) ≤ cap := by omega
    clear h nc
    generalize Jo.needF (g.take 20) = n at *
    go_enter Try.func4, Try.ntmps4
    go_wp2_with (first
      | (go_at_call 10; refine (jlive_c _).mono ?_; rintro _ w1 ⟨rfl, hb1⟩)
      | (go_at_call 12; refine (NC.out _ hb1).mono ?_; rintro _ w2 ⟨rfl, hw2⟩; rw [hw2])
      | (go_at_call 13; refine (RC.out _ hb1).mono ?_; rintro _ w3 ⟨rfl, hw3⟩; rw [hw3]))
    go_ret
    exact ⟨by first | rfl | exact ret_bool (by simp), hb1⟩
  · have NC : Hid (∀ W, Below w.heap.size w W → Calls Try.prog 12 #[.slice a len cap] W fun e w' => e = .returned (.int .i64 (Jo.needF g : Nat)) ∧ w' = W) := fun W hW => needs_c _ _ cap _ W (h.later hW).isG
    have RC : Hid (∀ W, Below w.heap.size w W → Calls Try.prog 13 #[.slice a len cap] W fun e w' => e = .returned (.int .i64 (Jo.needF g : Nat)) ∧ w' = W) := fun W hW => rneed_c _ _ cap _ W (h.later hW).isG
    have hlI : ¬ (20 : Int) < len := by omega
    clear h nc
    generalize Jo.needF g = n at *
    go_enter Try.func4, Try.ntmps4
    go_wp2_with (first
      | (go_at_call 10; refine (jlive_c _).mono ?_; rintro _ w1 ⟨rfl, hb1⟩)
      | (go_at_call 12; refine (NC.out _ hb1).mono ?_; rintro _ w2 ⟨rfl, hw2⟩; rw [hw2])
      | (go_at_call 13; refine (RC.out _ hb1).mono ?_; rintro _ w3 ⟨rfl, hw3⟩; rw [hw3]))
    go_ret
    exact ⟨by first | rfl | exact ret_bool (by simp), hb1⟩
/-! ### The row of JournalNeeds -/
theorem journalNeeds_own : ownKnob Try.prog.godebug = none := by kernel_rfl
theorem journalNeeds_laidOut : laidOutB Try.prog = true := by kernel_rfl
set_option maxRecDepth 100000 in
theorem journalNeeds_lifted (os : Os) (started : os.Started) (H : Type) (enc : TypeId × Value → H) :
    ReturnsInHanded {} Try.checked os 4 .any (Rows.journalNeedsSpec.pre6 enc Try.prog Try.f4 Rows.journalNeedsRow.domain false) (Rows.journalNeedsSpec.post enc Try.prog Try.f4 false true false false) := by
  refine returnsInHanded_of_change (C := Try.checked) journalNeeds_own started (by kernel_rfl) Try.func4
    (ChangeSpec.witness6 (enc := enc) (C := Try.checked) false ⟨#[], #[.slice none 0 0], []⟩ 8 (by kernel_rfl) (by kernel_rfl) (by kernel_rfl) (by kernel_rfl)) ?_
  intro W base args ds gs before hval0 hW hcnd _
  have hval : ∀ (j : Nat) t v, Try.f4.params[j]? = some t → args[j]? = some v → Value.okWide Try.prog W .any base t v := hval0
  have hW' := hW
  obtain ⟨p, q, hA0, hV, rfl, hfz, hnd⟩ := hW
  have hA : DataW.TrodAll enc Try.prog W 0 (fun _ => true) true Try.f4.params.toList args.toList ds p := hA0
  rw [Try.params4] at hA hval
  obtain ⟨v0, vs0, d0, ds0, p0, q0, hargs, rfl, rfl, h0, r0⟩ := trodAll_cons hA
  obtain ⟨rfl, rfl, rfl⟩ := trodAll_nil r0
  obtain rfl : args = #[v0] := by cases args; simp_all
  obtain ⟨rfl, rfl⟩ := trodVars_none hV
  have k0 := h0
  have lt0 : ∀ x ∈ p0, x.block < W.heap.size := by obtain ⟨m, hm⟩ := k0; exact DataW.trod_lt m _ _ _ hm
  obtain ⟨a0, len0, cap0, rfl⟩ := okWide_slice Try.underlying30 (hval 0 30 v0 rfl rfl)
  obtain ⟨z0, w0, lc0, nc0⟩ := isG_of h0
  clear hA0 hval0
  refine (journalNeeds_walk a0 len0 cap0 z0 lc0 nc0 W w0).mono fun e W' ⟨he, bel⟩ => ?_
  subst he
  exact ⟨_, rfl, _, _, _, [], _, [], hW', trodAll_mk1 (shut_bool Try.underlying4 _), (trodAll_cons_mk (Below.trod journalNeeds_laidOut (by kernel_rfl) (of_decide_eq_true (by kernel_rfl)) k0 bel lt0) trodAll_mk0), rfl, bel.frame _, fun h => by cases h⟩
theorem journalNeeds_over : Rows.journalNeedsRow.holds Try.pinned (OpenSpec.ofChange Rows.journalNeedsSpec) :=
  OpenClaim.holds_of_wide 4 Try.f4 rfl rfl rfl rfl rfl rfl rfl ⟨rfl, rfl, rfl, rfl, rfl⟩ rfl rfl rfl rfl rfl (by kernel_rfl) Try.func4 (by kernel_rfl)
    (of_decide_eq_true (by kernel_rfl)) (by unfold Func.isWrapper; first | (rw [if_pos (by decide +kernel)]; kernel_rfl) | (rw [if_neg (by decide +kernel)]; exact ⟨rfl, rfl⟩))
    (fun os started H enc _ => journalNeeds_lifted os started H enc)
/-- The statement. -/
theorem journalNeeds_holds : Rows.JournalNeedsSaid := journalNeeds_over
#print axioms journalNeeds_holds

end Go.Proofs.Ytllohapbbmnipaa
