/-
  What is not at hand is not to be had without a link, and what is dear is.
-/
import Derived.Test.YtfmghbennahlfaaGreatRows
import Derived.Test.YtfmghbennahlfaaGreatUnCa
namespace Go.Proofs.YtfmghbennahlfaaGreat
open Go.ChangeShapes Go.WideShapes Go.ChangeAt Go.RowKit Go.Maps
open Go.ChangeMaps (open_string shut_string)
set_option linter.unusedVariables false
set_option linter.unusedSimpArgs false
set_option maxRecDepth 100000
theorem topUncached_walk (b : Bool) (w : World) : Calls Tryz.prog 4 #[.bool b] w fun e w' => e = .returned (.bool true) ∧ Below w.heap.size w w' := by
 cases b
 · exact unc_no w
 · exact unc_yes w
/-! ### The row of TopUncached -/
theorem topUncached_own : ownKnob Tryz.prog.godebug = none := by kernel_rfl
theorem topUncached_laidOut : laidOutB Tryz.prog = true := by kernel_rfl
set_option maxRecDepth 100000 in
theorem topUncached_lifted (os : Os) (started : os.Started) (H : Type) (enc : TypeId × Value → H) :
   ReturnsInHanded {} Tryz.checked os 4 .any (Rows.topUncachedSpec.pre6 enc Tryz.prog Tryz.f4 Rows.topUncachedRow.domain false) (Rows.topUncachedSpec.post enc Tryz.prog Tryz.f4 false true false false) := by
 refine returnsInHanded_of_change (C := Tryz.checked) topUncached_own started (by kernel_rfl) Tryz.func4
   (ChangeSpec.witness6 (enc := enc) (C := Tryz.checked) false ⟨#[], #[.bool false], []⟩ 8 (by kernel_rfl) (by kernel_rfl) (by kernel_rfl) (by kernel_rfl)) ?_
 intro W base args ds gs before hval0 hW hcnd _
 have hval : ∀ (j : Nat) t v, Tryz.f4.params[j]? = some t → args[j]? = some v → Value.okWide Tryz.prog W .any base t v := hval0
 have hW' := hW
 obtain ⟨p, q, hA0, hV, rfl, hfz, hnd⟩ := hW
 have hA : DataW.TrodAll enc Tryz.prog W 0 (fun _ => true) true Tryz.f4.params.toList args.toList ds p := hA0
 rw [Tryz.params4] at hA hval
 obtain ⟨v0, vs0, d0, ds0, p0, q0, hargs, rfl, rfl, h0, r0⟩ := trodAll_cons hA
 obtain ⟨rfl, rfl, rfl⟩ := trodAll_nil r0
 obtain rfl : args = #[v0] := by cases args; simp_all
 obtain ⟨rfl, rfl⟩ := trodVars_none hV
 obtain ⟨a0, rfl, rfl, rfl⟩ := open_bool Tryz.underlying4 (hval 0 4 v0 rfl rfl) h0
 clear hA0 hval0
 refine (topUncached_walk a0 W).mono fun e W' ⟨he, bel⟩ => ?_
 subst he
 exact ⟨_, rfl, _, _, _, [], _, [], hW', trodAll_mk1 (shut_bool Tryz.underlying4 _), (trodAll_cons_mk (shut_bool Tryz.underlying4 _) trodAll_mk0), rfl, bel.frame _, fun h => by cases h⟩
theorem topUncached_in : Tryz.prog.inPlace 4 = Rows.topUncachedRow.inPlace := by kernel_rfl
theorem topUncached_un : Tryz.prog.unfollowed 4 = Rows.topUncachedRow.unfollowed := by kernel_rfl
theorem topUncached_re : Tryz.prog.recurses 4 = Rows.topUncachedRow.recurses := by kernel_rfl
theorem topUncached_na : Tryz.prog.varsNamed 4 = Rows.topUncachedRow.named := by kernel_rfl
theorem topUncached_joined : joinedFacts Tryz.prog 4 Tryz.f4 Rows.topUncachedSpec Rows.topUncachedRow = true := by
 unfold joinedFacts
 rw [topUncached_in, topUncached_un, topUncached_re, topUncached_na]
 kernel_rfl
theorem topUncached_over : Rows.topUncachedRow.holds Tryz.pinned (OpenSpec.ofChange Rows.topUncachedSpec) :=
 OpenClaim.holds_of_wide 4 Tryz.f4 rfl rfl rfl rfl rfl rfl rfl ⟨rfl, rfl, rfl, rfl, rfl⟩ rfl rfl rfl rfl rfl (by kernel_rfl) Tryz.func4 topUncached_joined
   (of_decide_eq_true (by kernel_rfl)) (by unfold Func.isWrapper; first | (rw [if_pos (by decide +kernel)]; kernel_rfl) | (rw [if_neg (by decide +kernel)]; exact ⟨rfl, rfl⟩))
   (fun os started H enc _ => topUncached_lifted os started H enc)
theorem topUncached_holds : Rows.TopUncachedSaid := topUncached_over
#print axioms topUncached_holds
end Go.Proofs.YtfmghbennahlfaaGreat
