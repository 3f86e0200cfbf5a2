/-
  For every bytes (of which the first 40000 are looked at), All answers what the document's definition answers, and live holds.
-/
import Derived.Test.YteimegacnmakaaaFRAll
namespace Go.Proofs.Yteimegacnmakaaa
open Go.ChangeShapes Go.WideShapes Go.ChangeAt Go.RowKit
open Go.ChangeMaps (open_string shut_string)
set_option linter.unusedVariables false
set_option linter.unusedSimpArgs false
theorem isB_cap {H : Type} {enc : TypeId × Value → H} {P : Program} {W : World} {t e : TypeId} {a : Option Addr} {len cap : Nat} {d : DataW H} {p : List MemPlace}
    (ht : P.underlying t = some (.slice e)) (he : P.underlying e = some (.int .u8)) (hc : P.cellsOf e = 1)
    (h : DataW.Trod enc P W 0 (fun _ => true) true t (.slice a len cap) d p) : a = none → cap = 0 := by
  obtain ⟨fuel, hf⟩ := h
  rcases open_ints ht he hc hf with ⟨hcs, _⟩ | ⟨x, l, c, zs, hcs, _⟩
  · simp [Value.cells] at hcs
    exact fun _ => hcs.2.2
  · simp [Value.cells] at hcs
    intro h0
    rw [h0] at hcs
    cases hcs.1
set_option maxHeartbeats 1000000 in
theorem frameAll_walk (a : Option Addr) (len cap : Nat) (zs : List Int) (hlc : len ≤ cap) (hnc : a = none → cap = 0) (w : World) (hb : IsB w a len zs) :
    Calls Try.prog 5 #[.slice a len cap] w fun e w' => e = .returned (.bool true) ∧ Below w.heap.size w w' := by
  have HB := hid hb
  have hf := fewN_le len
  clear hb
  go_enter Try.func5, Try.ntmps5
  go_wp2_with fail
  refine (few_c _ _ _ _ _ HB.out hlc).mono ?_
  rintro _ w0 ⟨rfl, rfl⟩
  have HF := hid (few_isB HB.out)
  generalize hm : fewN len = m at *
  have HM := hid hm
  clear hm
  go_wp2_with fail
  refine (all_c _ _ _ _ _ HF.out (by omega) (by rw [HF.out.1]; omega)).mono ?_
  rintro _ w1 ⟨ps, r, v1, hC, hN, rfl, hown1, hb1⟩
  have hz1 := hb1.size
  go_wp2_with fail
  refine (few_c _ _ _ _ _ (HB.out.later hb1) hlc).mono ?_
  rintro _ w2 ⟨rfl, rfl⟩
  rw [HM.out]
  go_wp2_with fail
  refine (rall_c _ _ _ _ _ (HF.out.later hb1) (by omega) (by omega) hnc).mono ?_
  rintro _ w3 ⟨qs, r3, v3, hC3, hN3, rfl, hown3, hb3⟩
  obtain ⟨e1, e2⟩ := cuts_eq hC
  obtain ⟨e3, e4⟩ := cuts_eq hC3
  obtain ⟨e5, _⟩ := rows_one ps qs r r3 e2 e4 hN hN3 (by rw [← e1]; exact e3)
  subst e5
  obtain ⟨a1, cap1, rfl, hI1, _⟩ := isP_own hown1
  obtain ⟨a3, cap3, rfl, hI3, _⟩ := isP_own hown3
  have hB3 := hb1.trans (hb3.mono hb1.size)
  have HI1 := hid (hI1.later hb3)
  have HI3 := hid hI3
  clear hI1 hI3 hown1 hown3 hC hC3 hN hN3 e1 e2 e3 e4
  go_wp2_with fail
  refine (live_c _).mono ?_
  rintro _ w4 ⟨rfl, hb4⟩
  have hB4 := hB3.trans (hb4.mono hB3.size)
  go_wp2_with fail
  refine (same_c _ _ _ _ _ _ (HI1.out.later hb4) (HI3.out.later hb4)).mono ?_
  rintro _ w5 ⟨rfl, hb5⟩
  go_wp2
  go_ret
  exact ⟨rfl, hB4.trans (hb5.mono hB4.size)⟩
/-! ### The row of FrameAll -/
theorem frameAll_own : ownKnob Try.prog.godebug = none := by kernel_rfl
theorem frameAll_laidOut : laidOutB Try.prog = true := by kernel_rfl
set_option maxRecDepth 100000 in
theorem frameAll_lifted (os : Os) (started : os.Started) (H : Type) (enc : TypeId × Value → H) :
    ReturnsInHanded {} Try.checked os 5 .any (Rows.frameAllSpec.pre6 enc Try.prog Try.f5 Rows.frameAllRow.domain false) (Rows.frameAllSpec.post enc Try.prog Try.f5 false true false false) := by
  refine returnsInHanded_of_change (C := Try.checked) frameAll_own started (by kernel_rfl) Try.func5
    (ChangeSpec.witness6 (enc := enc) (C := Try.checked) false ⟨#[], #[.slice none 0 0], []⟩ 8 (by kernel_rfl) (by kernel_rfl) (by kernel_rfl) (by kernel_rfl)) ?_
  intro W base args ds gs before hval0 hW hcnd _
  have hval : ∀ (j : Nat) t v, Try.f5.params[j]? = some t → args[j]? = some v → Value.okWide Try.prog W .any base t v := hval0
  have hW' := hW
  obtain ⟨p, q, hA0, hV, rfl, hfz, hnd⟩ := hW
  have hA : DataW.TrodAll enc Try.prog W 0 (fun _ => true) true Try.f5.params.toList args.toList ds p := hA0
  rw [Try.params5] at hA hval
  obtain ⟨v0, vs0, d0, ds0, p0, q0, hargs, rfl, rfl, h0, r0⟩ := trodAll_cons hA
  obtain ⟨rfl, rfl, rfl⟩ := trodAll_nil r0
  obtain rfl : args = #[v0] := by cases args; simp_all
  obtain ⟨rfl, rfl⟩ := trodVars_none hV
  have k0 := h0
  have lt0 : ∀ x ∈ p0, x.block < W.heap.size := by obtain ⟨m, hm⟩ := k0; exact DataW.trod_lt m _ _ _ hm
  obtain ⟨a0, len0, cap0, rfl⟩ := okWide_slice Try.underlying26 (hval 0 26 v0 rfl rfl)
  obtain ⟨z0, w0, lc0⟩ := isB_of Try.underlying26 Try.underlying5 (by kernel_rfl) h0
  clear hA0 hval0
  refine (frameAll_walk a0 len0 cap0 z0 lc0 (isB_cap Try.underlying26 Try.underlying5 (by kernel_rfl) h0) W w0).mono fun e W' ⟨he, bel⟩ => ?_
  subst he
  exact ⟨_, rfl, _, _, _, [], _, [], hW', trodAll_mk1 (shut_bool Try.underlying4 _), (trodAll_cons_mk (Below.trod frameAll_laidOut (by kernel_rfl) (of_decide_eq_true (by kernel_rfl)) k0 bel lt0) trodAll_mk0), rfl, bel.frame _, fun h => by cases h⟩
theorem frameAll_over : Rows.frameAllRow.holds Try.pinned (OpenSpec.ofChange Rows.frameAllSpec) :=
  OpenClaim.holds_of_wide 5 Try.f5 rfl rfl rfl rfl rfl rfl rfl ⟨rfl, rfl, rfl, rfl, rfl⟩ rfl rfl rfl rfl rfl (by kernel_rfl) Try.func5 (by kernel_rfl)
    (of_decide_eq_true (by kernel_rfl)) (by unfold Func.isWrapper; first | (rw [if_pos (by decide +kernel)]; kernel_rfl) | (rw [if_neg (by decide +kernel)]; exact ⟨rfl, rfl⟩))
    (fun os started H enc _ => frameAll_lifted os started H enc)
/-- The statement. -/
theorem frameAll_holds : Rows.FrameAllSaid := frameAll_over
#print axioms frameAll_holds

end Go.Proofs.Yteimegacnmakaaa
