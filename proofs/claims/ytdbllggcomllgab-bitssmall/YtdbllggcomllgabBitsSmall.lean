/-
  For every number and k, a number that is below 2^k on both sides is zigged to one below 2^(k+1), any other is not, and live holds.
-/
import Derived.Test.YtdbllggcomllgabCalls
import Derived.ChangeOld
import Derived.Below
namespace Go.Proofs.Ytdbllggcomllgab
open Go.ChangeShapes Go.WideShapes Go.ChangeAt Go.RowKit
open Go.ChangeMaps (open_string shut_string)
set_option linter.unusedVariables false
set_option maxHeartbeats 400000 in
theorem bitsSmall_walk (n : Int) (hn : (Lit.int .i64 n).wf = true) (k : Int) (hk : (Lit.int .u8 k).wf = true) (w : World) :
    Calls Try.prog 7 #[.int .i64 n, .int .u8 k] w fun e w' => e = .returned (.bool true) ∧ Below w.heap.size w w' := by
  have bn := bd_i64 hn
  have bk := bd_u8 hk
  clear hn hk
  have bz := M.zigF_bd n (by omega) (by omega)
  have bp := M.pow_small (k % 62) (by omega) (by omega)
  by_cases h : (2 : Int) ^ (k % 62).toNat ≤ n
  · have G := M.zig_big n _ bp.1 (Or.inl h)
    go_enter Try.func7, Try.ntmps7
    go_wp2_with (first | (go_at_call 10; refine (live_c _).mono ?_; rintro e w' ⟨rfl, hb⟩) | (go_at_call 12; refine (zig_c _ (by omega) (by omega) _).mono ?_; rintro e w' ⟨rfl, rfl⟩))
    go_ret
    exact ⟨rfl, hb⟩
  · by_cases h' : n < -(2 : Int) ^ (k % 62).toNat
    · have G := M.zig_big n _ bp.1 (Or.inr h')
      go_enter Try.func7, Try.ntmps7
      go_wp2_with (first | (go_at_call 10; refine (live_c _).mono ?_; rintro e w' ⟨rfl, hb⟩) | (go_at_call 12; refine (zig_c _ (by omega) (by omega) _).mono ?_; rintro e w' ⟨rfl, rfl⟩))
      go_ret
      exact ⟨rfl, hb⟩
    · have G := M.zig_less n _ bp.1 (by omega) (by omega)
      go_enter Try.func7, Try.ntmps7
      go_wp2_with (first | (go_at_call 10; refine (live_c _).mono ?_; rintro e w' ⟨rfl, hb⟩) | (go_at_call 12; refine (zig_c _ (by omega) (by omega) _).mono ?_; rintro e w' ⟨rfl, rfl⟩))
      go_ret
      exact ⟨rfl, hb⟩
/-! ### The row of BitsSmall -/
theorem bitsSmall_own : ownKnob Try.prog.godebug = none := by kernel_rfl
theorem bitsSmall_laidOut : laidOutB Try.prog = true := by kernel_rfl
set_option maxRecDepth 100000 in
theorem bitsSmall_lifted (os : Os) (started : os.Started) (H : Type) (enc : TypeId × Value → H) :
    ReturnsInHanded {} Try.checked os 7 .any (Rows.bitsSmallSpec.pre6 enc Try.prog Try.f7 Rows.bitsSmallRow.domain false) (Rows.bitsSmallSpec.post enc Try.prog Try.f7 false true false false) := by
  refine returnsInHanded_of_change (C := Try.checked) bitsSmall_own started (by kernel_rfl) Try.func7
    (ChangeSpec.witness6 (enc := enc) (C := Try.checked) false ⟨#[], #[.int .i64 0, .int .u8 0], []⟩ 8 (by kernel_rfl) (by kernel_rfl) (by kernel_rfl) (by kernel_rfl)) ?_
  intro W base args ds gs before hval0 hW hcnd _
  have hval : ∀ (j : Nat) t v, Try.f7.params[j]? = some t → args[j]? = some v → Value.okWide Try.prog W .any base t v := hval0
  have hW' := hW
  obtain ⟨p, q, hA0, hV, rfl, hfz, hnd⟩ := hW
  have hA : DataW.TrodAll enc Try.prog W 0 (fun _ => true) true Try.f7.params.toList args.toList ds p := hA0
  rw [Try.params7] at hA hval
  obtain ⟨v0, vs0, d0, ds0, p0, q0, hargs, rfl, rfl, h0, r0⟩ := trodAll_cons hA
  obtain ⟨v1, vs1, d1, ds1, p1, q1, rfl, rfl, rfl, h1, r1⟩ := trodAll_cons r0
  obtain ⟨rfl, rfl, rfl⟩ := trodAll_nil r1
  obtain rfl : args = #[v0, v1] := by cases args; simp_all
  obtain ⟨rfl, rfl⟩ := trodVars_none hV
  obtain ⟨a0, rfl, rfl, rfl, w0⟩ := open_int Try.underlying2 (hval 0 2 v0 rfl rfl) h0
  obtain ⟨a1, rfl, rfl, rfl, w1⟩ := open_int Try.underlying5 (hval 1 5 v1 rfl rfl) h1
  clear hA0 hval0
  refine (bitsSmall_walk a0 w0 a1 w1 W).mono fun e W' ⟨he, bel⟩ => ?_
  subst he
  exact ⟨_, rfl, _, _, _, [], _, [], hW', trodAll_mk1 (shut_bool Try.underlying4 _), (trodAll_cons_mk (shut_int Try.underlying2 w0) (trodAll_cons_mk (shut_int Try.underlying5 w1) trodAll_mk0)), rfl, bel.frame _, fun h => by cases h⟩
theorem bitsSmall_over : Rows.bitsSmallRow.holds Try.pinned (OpenSpec.ofChange Rows.bitsSmallSpec) :=
  OpenClaim.holds_of_wide 7 Try.f7 rfl rfl rfl rfl rfl rfl rfl ⟨rfl, rfl, rfl, rfl, rfl⟩ rfl rfl rfl rfl rfl (by kernel_rfl) Try.func7 (by kernel_rfl)
    (of_decide_eq_true (by kernel_rfl)) (by unfold Func.isWrapper; first | (rw [if_pos (by decide +kernel)]; kernel_rfl) | (rw [if_neg (by decide +kernel)]; exact ⟨rfl, rfl⟩))
    (fun os started H enc _ => bitsSmall_lifted os started H enc)
/-- The statement. -/
theorem bitsSmall_holds : Rows.BitsSmallSaid := bitsSmall_over
#print axioms bitsSmall_holds
end Go.Proofs.Ytdbllggcomllgab
