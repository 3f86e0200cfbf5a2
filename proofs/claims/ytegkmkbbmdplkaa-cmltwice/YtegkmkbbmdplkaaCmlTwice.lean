/-
  For every records (the first forty are looked at): Optimise of what Optimise leaves is the same, clean, and never longer than the log.
-/
import Derived.Test.YtegkmkbbmdplkaaCList
namespace Go.Proofs.Ytegkmkbbmdplkaa
open Go.RowKit Go.ChangeShapes Go.WideShapes Go.ChangeAt Go.Maps Go.Shelf
open Go.ChangeMaps (open_string shut_string)
set_option linter.unusedVariables false
set_option linter.unusedSimpArgs false
set_option maxRecDepth 20000 in
set_option maxHeartbeats 4000000 in
theorem cmlTwice_walk (a : Option Addr) (len cap : Nat) (l0 : List Rec) (hl : l0.length = len) (hc : len ≤ cap) (w : World) (h : IsL w a l0) :
    Calls Try.prog 5 #[.slice a len cap] w fun e w' => e = .returned (.bool true) ∧ Below w.heap.size w w' := by
  have FC := hid (few8_c a len cap l0 w hl hc h)
  have hI := h.front 40
  have hn : (l0.take 40).length ≤ 40 := by rw [List.length_take]; omega
  clear h hl
  generalize l0.take 40 = l at *
  have OC := hid (optimise_c a cap l w hI (by omega))
  have HT := hid (opt_twice l)
  have HAW := hid (opt_wf hI.2.1)
  have hA := Nat.le_trans (opt_len l) (Nat.le_refl _)
  have hA4 := Nat.le_trans (opt_len l) hn
  clear hI hc
  generalize optF l = A at *
  go_enter Try.func5, Try.ntmps5
  go_wp2_with (first
    | (go_at_call 11; refine CC.out.mono ?_; rintro _ w5 ⟨rfl, hb5⟩; have B5 := hid (B4.out.trans (hb5.mono B4.out.size)); clear hb5)
    | (go_at_call 8; refine SC.out.mono ?_; rintro _ w4 ⟨rfl, hb4⟩; have B4 := hid (B3.out.trans (hb4.mono B3.out.size)); have CC := hid (clean_c a1 c1 A w4 ((I3.out).later hb4) (by omega)); rw [HT.out, eqL_t rfl] at CC; clear hb4)
    | (go_at_call 9; refine O2.out.mono ?_; rintro _ w3 ⟨v3, rfl, hO3, hb3⟩; have B3 := hid (B2.out.trans (hb3.mono B2.out.size)); rw [HT.out] at hO3; obtain ⟨a3, c3, rfl, hI3, _, _⟩ := isL_own hO3 HAW.out; have I3 := hid (I2.out.later hb3); have SC := hid (same_c a3 a1 c3 c1 A A w3 hI3 I3.out (by omega) (by omega)); rw [eqL_t (rfl : A = A)] at SC; clear hO3 hI3 hb3 O2)
    | (go_at_call 7; refine LC.out.mono ?_; rintro _ w2 ⟨rfl, hb2⟩; have B2 := hid (HB1.out.trans (hb2.mono HB1.out.size)); have I2 := hid (HI1.out.later hb2); have O2 := hid (optimise_c a1 c1 A w2 I2.out (by omega)); clear hb2 LC)
    | (go_at_call 6; refine FC.out.mono ?_; rintro _ _ ⟨rfl, rfl⟩)
    | (go_at_call 9; refine OC.out.mono ?_; rintro _ w1 ⟨v1, rfl, hO1, hb1⟩; obtain ⟨a1, c1, rfl, hI1, _, _⟩ := isL_own hO1 HAW.out; have HI1 := hid hI1; have HB1 := hid hb1; have LC := hid (clive_c w1); clear hO1 hI1 hb1 OC))
  go_ret
  exact ⟨by first | rfl | (simp; omega), B5.out⟩
/-! ### The row of CmlTwice -/
theorem cmlTwice_own : ownKnob Try.prog.godebug = none := by kernel_rfl
theorem cmlTwice_laidOut : laidOutB Try.prog = true := by kernel_rfl
set_option maxRecDepth 100000 in
theorem cmlTwice_lifted (os : Os) (started : os.Started) (H : Type) (enc : TypeId × Value → H) :
    ReturnsInHanded {} Try.checked os 5 .any (Rows.cmlTwiceSpec.pre6 enc Try.prog Try.f5 Rows.cmlTwiceRow.domain false) (Rows.cmlTwiceSpec.post enc Try.prog Try.f5 false true false false) := by
  refine returnsInHanded_of_change (C := Try.checked) cmlTwice_own started (by kernel_rfl) Try.func5
    (ChangeSpec.witness6 (enc := enc) (C := Try.checked) false ⟨#[], #[.slice none 0 0], []⟩ 8 (by kernel_rfl) (by kernel_rfl) (by kernel_rfl) (by kernel_rfl)) ?_
  intro W base args ds gs before hval0 hW hcnd _
  have hval : ∀ (j : Nat) t v, Try.f5.params[j]? = some t → args[j]? = some v → Value.okWide Try.prog W .any base t v := hval0
  have hW' := hW
  obtain ⟨p, q, hA0, hV, rfl, hfz, hnd⟩ := hW
  have hA : DataW.TrodAll enc Try.prog W 0 (fun _ => true) true Try.f5.params.toList args.toList ds p := hA0
  rw [Try.params5] at hA hval
  obtain ⟨v0, vs0, d0, ds0, p0, q0, hargs, rfl, rfl, h0, r0⟩ := trodAll_cons hA
  obtain ⟨rfl, rfl, rfl⟩ := trodAll_nil r0
  obtain rfl : args = #[v0] := by cases args; simp_all
  obtain ⟨rfl, rfl⟩ := trodVars_none hV
  have k0 := h0
  have lt0 : ∀ x ∈ p0, x.block < W.heap.size := by obtain ⟨m, hm⟩ := k0; exact DataW.trod_lt m _ _ _ hm
  obtain ⟨a0, len0, cap0, rfl⟩ := okWide_slice Try.underlying22 (hval 0 22 v0 rfl rfl)
  obtain ⟨z0, lz0, w0, lc0⟩ := isL_of Try.underlying22 h0
  clear hA0 hval0
  refine (cmlTwice_walk a0 len0 cap0 z0 lz0 lc0 W w0).mono fun e W' ⟨he, bel⟩ => ?_
  subst he
  exact ⟨_, rfl, _, _, _, [], _, [], hW', trodAll_mk1 (shut_bool Try.underlying4 _), (trodAll_cons_mk (Below.trod cmlTwice_laidOut (by kernel_rfl) (of_decide_eq_true (by kernel_rfl)) k0 bel lt0) trodAll_mk0), rfl, bel.frame _, fun h => by cases h⟩
theorem cmlTwice_over : Rows.cmlTwiceRow.holds Try.pinned (OpenSpec.ofChange Rows.cmlTwiceSpec) :=
  OpenClaim.holds_of_wide 5 Try.f5 rfl rfl rfl rfl rfl rfl rfl ⟨rfl, rfl, rfl, rfl, rfl⟩ rfl rfl rfl rfl rfl (by kernel_rfl) Try.func5 (by kernel_rfl)
    (of_decide_eq_true (by kernel_rfl)) (by unfold Func.isWrapper; first | (rw [if_pos (by decide +kernel)]; kernel_rfl) | (rw [if_neg (by decide +kernel)]; exact ⟨rfl, rfl⟩))
    (fun os started H enc _ => cmlTwice_lifted os started H enc)
/-- The statement. -/
theorem cmlTwice_holds : Rows.CmlTwiceSaid := cmlTwice_over
#print axioms cmlTwice_holds

end Go.Proofs.Ytegkmkbbmdplkaa
