/-
  For every deeds: what a caller asks, and a callee takes and answers, is just what the document says.
-/
import Derived.Test.YtjgpolaogneoaaaRSa
namespace Go.Proofs.Ytjgpolaogneoaaa
open Go.RowKit Go.ChangeShapes Go.WideShapes Go.ChangeAt
open Go.ChangeMaps (open_string shut_string)
open Go.BigFrame
set_option linter.unusedVariables false
set_option linter.unusedSimpArgs false
set_option maxRecDepth 100000
set_option maxHeartbeats 2000000 in
theorem rpcPlays_walk (a : Option Addr) (len cap : Nat) (f : Nat → Dr) (w : World) (h : IsDr w a len f) :
    Calls Try.prog 3 #[.slice a len cap] w fun e w' => e = .returned (.bool true) ∧ Below w.heap.size w w' := by
  have PL := hid (play_c a len cap f w h)
  clear h
  go_enter Try.func3, Try.ntmps3
  go_wp2_with fail
  refine PL.out.mono ?_
  rintro _ w1 ⟨B, c, r, s, t, l, C, R, F, nn, rfl, hnn, hB1, hge, hb1⟩
  clear PL hge hnn
  have HB := hid hB1
  have Hb := hid hb1
  clear hB1 hb1
  go_wp2_with fail
  refine (rlive_c _).mono ?_
  rintro _ w2 ⟨rfl, hb2⟩
  have SC := hid (same_c (HB.out.later hb2))
  have H2 := hid hb2
  clear hb2
  go_wp2_with fail
  refine SC.out.mono ?_
  rintro _ w3 ⟨rfl, hb3⟩
  have H3 := hid hb3
  clear hb3
  go_wp2
  go_ret
  exact ⟨rfl, (Hb.out.trans (H2.out.mono Hb.out.size)).trans (H3.out.mono (Nat.le_trans Hb.out.size H2.out.size))⟩
/-! ### The row of RpcPlays -/
theorem rpcPlays_own : ownKnob Try.prog.godebug = none := by kernel_rfl
theorem rpcPlays_laidOut : laidOutB Try.prog = true := by kernel_rfl
set_option maxRecDepth 100000 in
theorem rpcPlays_lifted (os : Os) (started : os.Started) (H : Type) (enc : TypeId × Value → H) :
    ReturnsInHanded {} Try.checked os 3 .any (Rows.rpcPlaysSpec.pre6 enc Try.prog Try.f3 Rows.rpcPlaysRow.domain false) (Rows.rpcPlaysSpec.post enc Try.prog Try.f3 false true false false) := by
  refine returnsInHanded_of_change (C := Try.checked) rpcPlays_own started (by kernel_rfl) Try.func3
    (ChangeSpec.witness6 (enc := enc) (C := Try.checked) false ⟨#[], #[.slice none 0 0], []⟩ 8 (by kernel_rfl) (by kernel_rfl) (by kernel_rfl) (by kernel_rfl)) ?_
  intro W base args ds gs before hval0 hW hcnd _
  have hval : ∀ (j : Nat) t v, Try.f3.params[j]? = some t → args[j]? = some v → Value.okWide Try.prog W .any base t v := hval0
  have hW' := hW
  obtain ⟨p, q, hA0, hV, rfl, hfz, hnd⟩ := hW
  have hA : DataW.TrodAll enc Try.prog W 0 (fun _ => true) true Try.f3.params.toList args.toList ds p := hA0
  rw [Try.params3] at hA hval
  obtain ⟨v0, vs0, d0, ds0, p0, q0, hargs, rfl, rfl, h0, r0⟩ := trodAll_cons hA
  obtain ⟨rfl, rfl, rfl⟩ := trodAll_nil r0
  obtain rfl : args = #[v0] := by cases args; simp_all
  obtain ⟨rfl, rfl⟩ := trodVars_none hV
  have k0 := h0
  have lt0 : ∀ x ∈ p0, x.block < W.heap.size := by obtain ⟨m, hm⟩ := k0; exact DataW.trod_lt m _ _ _ hm
  obtain ⟨a0, len0, cap0, rfl⟩ := okWide_slice Try.underlying22 (hval 0 22 v0 rfl rfl)
  obtain ⟨z0, w0⟩ := isDr_of Try.underlying22 h0
  clear hA0 hval0
  refine (rpcPlays_walk a0 len0 cap0 z0 W w0).mono fun e W' ⟨he, bel⟩ => ?_
  subst he
  exact ⟨_, rfl, _, _, _, [], _, [], hW', trodAll_mk1 (shut_bool Try.underlying4 _), (trodAll_cons_mk (Below.trod rpcPlays_laidOut (by kernel_rfl) (of_decide_eq_true (by kernel_rfl)) k0 bel lt0) trodAll_mk0), rfl, bel.frame _, fun h => by cases h⟩
theorem rpcPlays_over : Rows.rpcPlaysRow.holds Try.pinned (OpenSpec.ofChange Rows.rpcPlaysSpec) :=
  OpenClaim.holds_of_wide 3 Try.f3 rfl rfl rfl rfl rfl rfl rfl ⟨rfl, rfl, rfl, rfl, rfl⟩ rfl rfl rfl rfl rfl (by kernel_rfl) Try.func3 (by kernel_rfl)
    (of_decide_eq_true (by kernel_rfl)) (by unfold Func.isWrapper; first | (rw [if_pos (by decide +kernel)]; kernel_rfl) | (rw [if_neg (by decide +kernel)]; exact ⟨rfl, rfl⟩))
    (fun os started H enc _ => rpcPlays_lifted os started H enc)
/-- The statement. -/
theorem rpcPlays_holds : Rows.RpcPlaysSaid := rpcPlays_over
#print axioms rpcPlays_holds

end Go.Proofs.Ytjgpolaogneoaaa
