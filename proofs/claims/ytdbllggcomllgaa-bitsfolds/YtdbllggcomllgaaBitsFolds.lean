/-
  For every bytes (of which the first 5000 are looked at), Fold answers what the document's definition answers, and live holds.
-/
import Derived.Test.YtdbllggcomllgaaCalls
import Derived.ChangeOld
import Derived.Below
namespace Go.Proofs.Ytdbllggcomllgaa
open Go.ChangeShapes Go.WideShapes Go.ChangeAt Go.RowKit
open Go.ChangeMaps (open_string shut_string)
set_option linter.unusedVariables false
set_option maxHeartbeats 400000 in
theorem bitsFolds_walk (a : Option Addr) (len cap : Nat) (zs : List Int) (hlc : len ≤ cap) (w : World) (hb : IsB w a len zs) :
    Calls Try.prog 8 #[.slice a len cap] w fun e w' => e = .returned (.bool true) ∧ Below w.heap.size w w' := by
  have hm : len ≤ maxLen := hb.2.1
  unfold maxLen at hm
  by_cases h : 5000 < len
  · have H := hid (hb.front 5000 (by omega))
    obtain ⟨b, off, rfl, _⟩ := hb.2.2.1 (by omega)
    clear hb
    have h' : (5000 : Int) < len := by omega
    go_enter Try.func8, Try.ntmps8
    go_wp2_with fail
    refine (live_c _).mono ?_
    rintro e w1 ⟨rfl, hb1⟩
    have H1 := hid (H.out.later hb1)
    go_wp2_with fail
    refine (fold_c _ _ _ _ _ H1.out).mono ?_
    rintro e w2 ⟨rfl, rfl⟩
    go_wp2_with fail
    refine (rfold_c _ _ _ _ _ H1.out).mono ?_
    rintro e w3 ⟨rfl, rfl⟩
    go_wp2
    go_ret
    exact ⟨rfl, hb1⟩
  · have H := hid hb
    clear hb
    have h' : (len : Int) ≤ 5000 := by omega
    go_enter Try.func8, Try.ntmps8
    go_wp2_with fail
    refine (live_c _).mono ?_
    rintro e w1 ⟨rfl, hb1⟩
    have H1 := hid (H.out.later hb1)
    go_wp2_with fail
    refine (fold_c _ _ _ _ _ H1.out).mono ?_
    rintro e w2 ⟨rfl, rfl⟩
    go_wp2_with fail
    refine (rfold_c _ _ _ _ _ H1.out).mono ?_
    rintro e w3 ⟨rfl, rfl⟩
    go_wp2
    go_ret
    exact ⟨rfl, hb1⟩
/-! ### The row of BitsFolds -/
theorem bitsFolds_own : ownKnob Try.prog.godebug = none := by kernel_rfl
theorem bitsFolds_laidOut : laidOutB Try.prog = true := by kernel_rfl
set_option maxRecDepth 100000 in
theorem bitsFolds_lifted (os : Os) (started : os.Started) (H : Type) (enc : TypeId × Value → H) :
    ReturnsInHanded {} Try.checked os 8 .any (Rows.bitsFoldsSpec.pre6 enc Try.prog Try.f8 Rows.bitsFoldsRow.domain false) (Rows.bitsFoldsSpec.post enc Try.prog Try.f8 false true false false) := by
  refine returnsInHanded_of_change (C := Try.checked) bitsFolds_own started (by kernel_rfl) Try.func8
    (ChangeSpec.witness6 (enc := enc) (C := Try.checked) false ⟨#[], #[.slice none 0 0], []⟩ 8 (by kernel_rfl) (by kernel_rfl) (by kernel_rfl) (by kernel_rfl)) ?_
  intro W base args ds gs before hval0 hW hcnd _
  have hval : ∀ (j : Nat) t v, Try.f8.params[j]? = some t → args[j]? = some v → Value.okWide Try.prog W .any base t v := hval0
  have hW' := hW
  obtain ⟨p, q, hA0, hV, rfl, hfz, hnd⟩ := hW
  have hA : DataW.TrodAll enc Try.prog W 0 (fun _ => true) true Try.f8.params.toList args.toList ds p := hA0
  rw [Try.params8] at hA hval
  obtain ⟨v0, vs0, d0, ds0, p0, q0, hargs, rfl, rfl, h0, r0⟩ := trodAll_cons hA
  obtain ⟨rfl, rfl, rfl⟩ := trodAll_nil r0
  obtain rfl : args = #[v0] := by cases args; simp_all
  obtain ⟨rfl, rfl⟩ := trodVars_none hV
  have k0 := h0
  have lt0 : ∀ x ∈ p0, x.block < W.heap.size := by obtain ⟨m, hm⟩ := k0; exact DataW.trod_lt m _ _ _ hm
  obtain ⟨a0, len0, cap0, rfl⟩ := okWide_slice Try.underlying45 (hval 0 45 v0 rfl rfl)
  obtain ⟨z0, w0, lc0⟩ := isB_of Try.underlying45 Try.underlying5 (by kernel_rfl) h0
  clear hA0 hval0
  refine (bitsFolds_walk a0 len0 cap0 z0 lc0 W w0).mono fun e W' ⟨he, bel⟩ => ?_
  subst he
  exact ⟨_, rfl, _, _, _, [], _, [], hW', trodAll_mk1 (shut_bool Try.underlying4 _), (trodAll_cons_mk (Below.trod bitsFolds_laidOut (by kernel_rfl) (of_decide_eq_true (by kernel_rfl)) k0 bel lt0) trodAll_mk0), rfl, bel.frame _, fun h => by cases h⟩
theorem bitsFolds_over : Rows.bitsFoldsRow.holds Try.pinned (OpenSpec.ofChange Rows.bitsFoldsSpec) :=
  OpenClaim.holds_of_wide 8 Try.f8 rfl rfl rfl rfl rfl rfl rfl ⟨rfl, rfl, rfl, rfl, rfl⟩ rfl rfl rfl rfl rfl (by kernel_rfl) Try.func8 (by kernel_rfl)
    (of_decide_eq_true (by kernel_rfl)) (by unfold Func.isWrapper; first | (rw [if_pos (by decide +kernel)]; kernel_rfl) | (rw [if_neg (by decide +kernel)]; exact ⟨rfl, rfl⟩))
    (fun os started H enc _ => bitsFolds_lifted os started H enc)
/-- The statement. -/
theorem bitsFolds_holds : Rows.BitsFoldsSaid := bitsFolds_over
#print axioms bitsFolds_holds
end Go.Proofs.Ytdbllggcomllgaa
