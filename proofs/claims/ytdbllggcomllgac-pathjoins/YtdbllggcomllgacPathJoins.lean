/-
  For every texts (of which the first 200 are looked at), Join answers what the document's definition answers, and live holds.
-/
import Derived.Test.YtdbllggcomllgacPRefs
import Derived.ChangeOld
import Derived.Below
namespace Go.Proofs.Ytdbllggcomllgac
open Go.ChangeShapes Go.WideShapes Go.ChangeAt Go.RowKit
open Go.ChangeMaps (open_string shut_string)
set_option linter.unusedVariables false
set_option maxHeartbeats 1000000 in
theorem pathJoins_walk (a : Option Addr) (len cap : Nat) (ss : List (List UInt8)) (hl : ss.length = len) (w : World) (hI : IsS w (.slice a len cap) ss) :
    Calls Try.prog 3 #[.slice a len cap] w fun e w' => e = .returned (.bool true) ∧ Below w.heap.size w w' := by
  subst hl
  have hI' := hI
  obtain ⟨a', cap', he, r1, r2, r3, r4⟩ := hI'
  cases he
  unfold maxLen at r2
  by_cases h : 200 < ss.length
  · have H0 := hid' (hI.front 200 (by omega))
    obtain ⟨b, off, rfl, -⟩ := r3 (by omega)
    clear hI r3 r4
    have h' : (200 : Int) < ss.length := by omega
    go_enter Try.func3, Try.ntmps3
    have H1 := hid' (H0.out)
    go_wp2_with fail
    refine (join_c _ _ _ H0.out).mono ?_
    rintro e w1 ⟨hp1, hb1⟩
    have H2 := hid' (H0.out.later hb1)
    rcases hp1 with ⟨t, ht, rfl⟩ | ⟨ht, rfl⟩
    · go_wp2_with fail
      refine (rjoin_c _ _ _ H2.out).mono ?_
      rintro e w2 ⟨hp2, hb2⟩
      rcases hp2 with ⟨t2, ht2, rfl⟩ | ⟨ht2, rfl⟩
      · have e1 : t2 = t := by rw [ht] at ht2; cases ht2; rfl
        subst e1
        clear ht ht2
        unfold strV
        go_wp2_with fail
        refine (plive_c _).mono ?_
        rintro e w3 ⟨rfl, hb3⟩
        go_wp2
        go_ret
        have s1 := hb1.size
        have s2 := hb2.size
        exact ⟨rfl, (hb1.trans (hb2.mono (by omega))).trans (hb3.mono (by omega))⟩
      · rw [ht] at ht2; cases ht2
    · go_wp2_with fail
      refine (rjoin_c _ _ _ H2.out).mono ?_
      rintro e w2 ⟨hp2, hb2⟩
      rcases hp2 with ⟨t2, ht2, rfl⟩ | ⟨ht2, rfl⟩
      · rw [ht] at ht2; cases ht2
      · clear ht ht2
        unfold strV
        go_wp2_with fail
        refine (plive_c _).mono ?_
        rintro e w3 ⟨rfl, hb3⟩
        go_wp2
        go_ret
        have s1 := hb1.size
        have s2 := hb2.size
        exact ⟨rfl, (hb1.trans (hb2.mono (by omega))).trans (hb3.mono (by omega))⟩

  · have H0 := hid' hI
    clear hI r3 r4
    have h' : (ss.length : Int) ≤ 200 := by omega
    go_enter Try.func3, Try.ntmps3
    have H1 := hid' (H0.out)
    go_wp2_with fail
    refine (join_c _ _ _ H0.out).mono ?_
    rintro e w1 ⟨hp1, hb1⟩
    have H2 := hid' (H0.out.later hb1)
    rcases hp1 with ⟨t, ht, rfl⟩ | ⟨ht, rfl⟩
    · go_wp2_with fail
      refine (rjoin_c _ _ _ H2.out).mono ?_
      rintro e w2 ⟨hp2, hb2⟩
      rcases hp2 with ⟨t2, ht2, rfl⟩ | ⟨ht2, rfl⟩
      · have e1 : t2 = t := by rw [ht] at ht2; cases ht2; rfl
        subst e1
        clear ht ht2
        unfold strV
        go_wp2_with fail
        refine (plive_c _).mono ?_
        rintro e w3 ⟨rfl, hb3⟩
        go_wp2
        go_ret
        have s1 := hb1.size
        have s2 := hb2.size
        exact ⟨rfl, (hb1.trans (hb2.mono (by omega))).trans (hb3.mono (by omega))⟩
      · rw [ht] at ht2; cases ht2
    · go_wp2_with fail
      refine (rjoin_c _ _ _ H2.out).mono ?_
      rintro e w2 ⟨hp2, hb2⟩
      rcases hp2 with ⟨t2, ht2, rfl⟩ | ⟨ht2, rfl⟩
      · rw [ht] at ht2; cases ht2
      · clear ht ht2
        unfold strV
        go_wp2_with fail
        refine (plive_c _).mono ?_
        rintro e w3 ⟨rfl, hb3⟩
        go_wp2
        go_ret
        have s1 := hb1.size
        have s2 := hb2.size
        exact ⟨rfl, (hb1.trans (hb2.mono (by omega))).trans (hb3.mono (by omega))⟩

/-! ### The row of PathJoins -/
theorem pathJoins_own : ownKnob Try.prog.godebug = none := by kernel_rfl
theorem pathJoins_laidOut : laidOutB Try.prog = true := by kernel_rfl
set_option maxRecDepth 100000 in
theorem pathJoins_lifted (os : Os) (started : os.Started) (H : Type) (enc : TypeId × Value → H) :
    ReturnsInHanded {} Try.checked os 3 .any (Rows.pathJoinsSpec.pre6 enc Try.prog Try.f3 Rows.pathJoinsRow.domain false) (Rows.pathJoinsSpec.post enc Try.prog Try.f3 false true false false) := by
  refine returnsInHanded_of_change (C := Try.checked) pathJoins_own started (by kernel_rfl) Try.func3
    (ChangeSpec.witness6 (enc := enc) (C := Try.checked) false ⟨#[], #[.slice none 0 0], []⟩ 8 (by kernel_rfl) (by kernel_rfl) (by kernel_rfl) (by kernel_rfl)) ?_
  intro W base args ds gs before hval0 hW hcnd _
  have hval : ∀ (j : Nat) t v, Try.f3.params[j]? = some t → args[j]? = some v → Value.okWide Try.prog W .any base t v := hval0
  have hW' := hW
  obtain ⟨p, q, hA0, hV, rfl, hfz, hnd⟩ := hW
  have hA : DataW.TrodAll enc Try.prog W 0 (fun _ => true) true Try.f3.params.toList args.toList ds p := hA0
  rw [Try.params3] at hA hval
  obtain ⟨v0, vs0, d0, ds0, p0, q0, hargs, rfl, rfl, h0, r0⟩ := trodAll_cons hA
  obtain ⟨rfl, rfl, rfl⟩ := trodAll_nil r0
  obtain rfl : args = #[v0] := by cases args; simp_all
  obtain ⟨rfl, rfl⟩ := trodVars_none hV
  have k0 := h0
  have lt0 : ∀ x ∈ p0, x.block < W.heap.size := by obtain ⟨m, hm⟩ := k0; exact DataW.trod_lt m _ _ _ hm
  obtain ⟨a0, len0, cap0, rfl⟩ := okWide_slice Try.underlying22 (hval 0 22 v0 rfl rfl)
  obtain ⟨z0, lz0, w0⟩ := isS_of Try.underlying22 Try.underlying9 (by kernel_rfl) h0
  clear hA0 hval0
  refine (pathJoins_walk a0 len0 cap0 z0 lz0 W w0).mono fun e W' ⟨he, bel⟩ => ?_
  subst he
  exact ⟨_, rfl, _, _, _, [], _, [], hW', trodAll_mk1 (shut_bool Try.underlying4 _), (trodAll_cons_mk (Below.trod pathJoins_laidOut (by kernel_rfl) (of_decide_eq_true (by kernel_rfl)) k0 bel lt0) trodAll_mk0), rfl, bel.frame _, fun h => by cases h⟩
theorem pathJoins_over : Rows.pathJoinsRow.holds Try.pinned (OpenSpec.ofChange Rows.pathJoinsSpec) :=
  OpenClaim.holds_of_wide 3 Try.f3 rfl rfl rfl rfl rfl rfl rfl ⟨rfl, rfl, rfl, rfl, rfl⟩ rfl rfl rfl rfl rfl (by kernel_rfl) Try.func3 (by kernel_rfl)
    (of_decide_eq_true (by kernel_rfl)) (by unfold Func.isWrapper; first | (rw [if_pos (by decide +kernel)]; kernel_rfl) | (rw [if_neg (by decide +kernel)]; exact ⟨rfl, rfl⟩))
    (fun os started H enc _ => pathJoins_lifted os started H enc)
/-- The statement. -/
theorem pathJoins_holds : Rows.PathJoinsSaid := pathJoins_over
#print axioms pathJoins_holds
end Go.Proofs.Ytdbllggcomllgac
