/-
  For every records (the first forty are looked at): what Optimise leaves, and whether a log can't be made shorter, is just what the document says.
-/
import Derived.Test.YtegkmkbbmdplkaaCROptW
namespace Go.Proofs.Ytegkmkbbmdplkaa
open Go.RowKit Go.ChangeShapes Go.WideShapes Go.ChangeAt Go.Maps Go.Shelf
open Go.ChangeMaps (open_string shut_string)
set_option linter.unusedVariables false
set_option linter.unusedSimpArgs false
set_option maxRecDepth 20000 in
set_option maxHeartbeats 4000000 in
theorem cmlOptimises_walk (a : Option Addr) (len cap : Nat) (l0 : List Rec) (hl : l0.length = len) (hc : len ≤ cap) (w : World) (h : IsL w a l0) :
    Calls Try.prog 3 #[.slice a len cap] w fun e w' => e = .returned (.bool true) ∧ Below w.heap.size w w' := by
  have FC := hid (few8_c a len cap l0 w hl hc h)
  have hI := h.front 40
  have hn : (l0.take 40).length ≤ 40 := by rw [List.length_take]; omega
  clear h hl
  generalize l0.take 40 = l at *
  have HAW := hid (opt_wf hI.2.1)
  have hA4 := Nat.le_trans (opt_len l) hn
  have LC := hid (clive_c w)
  have HI := hid hI
  have O10 := hid (fun W (hW : Below w.heap.size w W) => optimise_c a cap l W (hI.later hW) (by omega))
  have O20 := hid (fun W (hW : Below w.heap.size w W) => roptimise_c a cap l W (hI.later hW) (by omega))
  have C10 := hid (fun W (hW : Below w.heap.size w W) => clean_c a cap l W (hI.later hW) (by omega))
  have C20 := hid (fun W (hW : Below w.heap.size w W) => rclean_c a cap l W (hI.later hW) (by omega))
  clear hI hc
  obtain ⟨CL, hCL⟩ : ∃ CL, CL = eqL (optF l) l := ⟨_, rfl⟩
  rw [← hCL] at C10 C20
  clear hCL
  generalize optF l = A at *
  go_enter Try.func3, Try.ntmps3
  go_wp2_with (first
    | (go_at_call 12; refine C2.out.mono ?_; rintro _ w6 ⟨rfl, hb6⟩; have B6 := hid (B5.out.trans (hb6.mono B5.out.size)); clear hb6)
    | (go_at_call 11; refine C1.out.mono ?_; rintro _ w5 ⟨rfl, hb5⟩; have B5 := hid (B4.out.trans (hb5.mono B4.out.size)); have C2 := hid (C20.out w5 B5.out); clear hb5)
    | (go_at_call 8; refine SC.out.mono ?_; rintro _ w4 ⟨rfl, hb4⟩; have B4 := hid (B3.out.trans (hb4.mono B3.out.size)); have C1 := hid (C10.out w4 B4.out); clear hb4)
    | (go_at_call 10; refine O2.out.mono ?_; rintro _ w3 ⟨v3, rfl, hO3, hb3⟩; have B3 := hid (B2.out.trans (hb3.mono B2.out.size)); obtain ⟨a3, c3, rfl, hI3, _, _⟩ := isL_own hO3 HAW.out; have SC := hid (same_c a2 a3 c2 c3 A A w3 (I2.out.later hb3) hI3 (by omega) (by omega)); rw [eqL_t (rfl : A = A)] at SC; clear hO3 hI3 hb3 O2)
    | (go_at_call 9; refine O1.out.mono ?_; rintro _ w2 ⟨v2, rfl, hO2, hb2⟩; have B2 := hid (B1.out.trans (hb2.mono B1.out.size)); obtain ⟨a2, c2, rfl, hI2, _, _⟩ := isL_own hO2 HAW.out; have I2 := hid hI2; have O2 := hid (O20.out w2 B2.out); clear hO2 hI2 hb2 O1)
    | (go_at_call 7; refine LC.out.mono ?_; rintro _ w1 ⟨rfl, hb1⟩; have B1 := hid hb1; have O1 := hid (O10.out w1 B1.out); clear hb1)
    | (go_at_call 6; refine FC.out.mono ?_; rintro _ wf ⟨rfl, hwf⟩; have hwf2 := hwf.symm; clear hwf; subst hwf2))
  go_ret
  exact ⟨by first | rfl | simp, B6.out⟩
/-! ### The row of CmlOptimises -/
theorem cmlOptimises_own : ownKnob Try.prog.godebug = none := by kernel_rfl
theorem cmlOptimises_laidOut : laidOutB Try.prog = true := by kernel_rfl
set_option maxRecDepth 100000 in
theorem cmlOptimises_lifted (os : Os) (started : os.Started) (H : Type) (enc : TypeId × Value → H) :
    ReturnsInHanded {} Try.checked os 3 .any (Rows.cmlOptimisesSpec.pre6 enc Try.prog Try.f3 Rows.cmlOptimisesRow.domain false) (Rows.cmlOptimisesSpec.post enc Try.prog Try.f3 false true false false) := by
  refine returnsInHanded_of_change (C := Try.checked) cmlOptimises_own started (by kernel_rfl) Try.func3
    (ChangeSpec.witness6 (enc := enc) (C := Try.checked) false ⟨#[], #[.slice none 0 0], []⟩ 8 (by kernel_rfl) (by kernel_rfl) (by kernel_rfl) (by kernel_rfl)) ?_
  intro W base args ds gs before hval0 hW hcnd _
  have hval : ∀ (j : Nat) t v, Try.f3.params[j]? = some t → args[j]? = some v → Value.okWide Try.prog W .any base t v := hval0
  have hW' := hW
  obtain ⟨p, q, hA0, hV, rfl, hfz, hnd⟩ := hW
  have hA : DataW.TrodAll enc Try.prog W 0 (fun _ => true) true Try.f3.params.toList args.toList ds p := hA0
  rw [Try.params3] at hA hval
  obtain ⟨v0, vs0, d0, ds0, p0, q0, hargs, rfl, rfl, h0, r0⟩ := trodAll_cons hA
  obtain ⟨rfl, rfl, rfl⟩ := trodAll_nil r0
  obtain rfl : args = #[v0] := by cases args; simp_all
  obtain ⟨rfl, rfl⟩ := trodVars_none hV
  have k0 := h0
  have lt0 : ∀ x ∈ p0, x.block < W.heap.size := by obtain ⟨m, hm⟩ := k0; exact DataW.trod_lt m _ _ _ hm
  obtain ⟨a0, len0, cap0, rfl⟩ := okWide_slice Try.underlying22 (hval 0 22 v0 rfl rfl)
  obtain ⟨z0, lz0, w0, lc0⟩ := isL_of Try.underlying22 h0
  clear hA0 hval0
  refine (cmlOptimises_walk a0 len0 cap0 z0 lz0 lc0 W w0).mono fun e W' ⟨he, bel⟩ => ?_
  subst he
  exact ⟨_, rfl, _, _, _, [], _, [], hW', trodAll_mk1 (shut_bool Try.underlying4 _), (trodAll_cons_mk (Below.trod cmlOptimises_laidOut (by kernel_rfl) (of_decide_eq_true (by kernel_rfl)) k0 bel lt0) trodAll_mk0), rfl, bel.frame _, fun h => by cases h⟩
theorem cmlOptimises_over : Rows.cmlOptimisesRow.holds Try.pinned (OpenSpec.ofChange Rows.cmlOptimisesSpec) :=
  OpenClaim.holds_of_wide 3 Try.f3 rfl rfl rfl rfl rfl rfl rfl ⟨rfl, rfl, rfl, rfl, rfl⟩ rfl rfl rfl rfl rfl (by kernel_rfl) Try.func3 (by kernel_rfl)
    (of_decide_eq_true (by kernel_rfl)) (by unfold Func.isWrapper; first | (rw [if_pos (by decide +kernel)]; kernel_rfl) | (rw [if_neg (by decide +kernel)]; exact ⟨rfl, rfl⟩))
    (fun os started H enc _ => cmlOptimises_lifted os started H enc)
/-- The statement. -/
theorem cmlOptimises_holds : Rows.CmlOptimisesSaid := cmlOptimises_over
#print axioms cmlOptimises_holds

end Go.Proofs.Ytegkmkbbmdplkaa
