/-
  For every number, all deeds and every object: never more than may be are at hand; one that is put is at hand, unless all are dirty.
-/
import Derived.Test.YtilcbkejmpfnfaaCAf
namespace Go.Proofs.Ytilcbkejmpfnfaa
open Go.RowKit Go.ChangeShapes Go.WideShapes Go.ChangeAt Go.Maps Go.Shelf
open Go.ChangeMaps (open_string shut_string)
set_option linter.unusedVariables false
set_option linter.unusedSimpArgs false
set_option maxRecDepth 100000
set_option maxHeartbeats 8000000 in
theorem cacheFew_walk (n : Int) (wn : (Lit.int .u8 n).wf = true) (a : Option Addr) (len cap : Nat) (z : Nat → Dc) (f : Int) (wf : (Lit.int .u32 f).wf = true) (w : World) (hz : IsDc w a len z) :
    Calls Try.prog 5 #[.int .u8 n, .slice a len cap, .int .u32 f] w fun e w' => e = .returned (.bool true) ∧ Below w.heap.size w w' := by
  have hn := bd_u8 wn
  have hf := bd_u32 wf
  obtain ⟨M0, hM, eM⟩ := mod_ten hn.1 hn.2
  have PF := play_facts hM hz
  have PC := hid (play_c n hn.1 hn.2 hM eM a len cap z w hz)
  clear hz wn wf
  generalize min len 80 = N at *
  go_enter Try.func5, Try.ntmps5
  go_wp2_with fail
  refine PC.out.mono ?_
  rintro _ w1 ⟨p, b1, b2, g, vl, vh, rfl, hB, hK, hb⟩
  generalize (stP ((M0 : Int) + 1) z N).1 = c at *
  generalize (stP ((M0 : Int) + 1) z N).2 = r at *
  have H1 := hid hB.hc
  have RL := hid hB.rl
  have TB : Hid (∀ k, Tri p b1 b2 k → w.heap.size ≤ k) := hid (fun k hk => hK k (.inl hk))
  have B1 := hid hb
  clear hB hK hb PC
  go_wp2_with fail
  refine (clive_c w1).mono ?_
  rintro _ w2 ⟨rfl, hb2⟩
  have H2 := hid (H1.out.later hb2)
  have B2 := hid (B1.out.trans (hb2.mono B1.out.size))
  clear hb2
  go_wp2_with fail
  refine (few_list H2.out RL.out).mono ?_
  rintro _ w3 ⟨⟨a3, cap3, rfl⟩, hb3⟩
  have H3 := hid (H2.out.later hb3)
  have B3 := hid (B2.out.trans (hb3.mono B2.out.size))
  clear hb3
  have hlen := RL.out.lens
  have few := RL.out.few
  have mosts := PF.1
  rw [mosts] at few
  go_wp2_with fail
  refine (next_at H3.out (by omega) RL.out.rise).mono ?_
  rintro _ w4 ⟨rfl, hb4⟩
  have H4 := hid (H3.out.later hb4)
  have B4 := hid (B3.out.trans (hb4.mono B3.out.size))
  clear hb4
  go_wp2_with fail
  refine (has_c H4.out hf.1 hf.2).mono ?_
  rintro _ w5 ⟨rfl, hb5⟩
  have H5 := hid (H4.out.later hb5)
  have B5 := hid (B4.out.trans (hb5.mono B4.out.size))
  clear hb5
  go_wp2_with fail
  have uses : c.uses < 1000000 := by have := PF.2; omega
  refine (put_c H5.out (by omega) RL.out.ulo uses RL.out.rise hf.1 hf.2).mono ?_
  rintro _ w6 ⟨rfl, h6, o6⟩
  have H6 := hid h6
  have B6 := hid (B5.out.trans (o6.below B5.out.size TB.out))
  have RP := hid (RL.out.put hf.2 hf.1 RL.out.rise).2
  clear h6 o6
  go_wp2_with fail
  refine (few_list H6.out RP.out).mono ?_
  rintro _ w7 ⟨⟨a7, cap7, rfl⟩, hb7⟩
  have H7 := hid (H6.out.later hb7)
  have B7 := hid (B6.out.trans (hb7.mono B6.out.size))
  clear hb7
  have few2 := RP.out.few
  have HF := hid hf
  by_cases q0 : f = 0
  · have e1 : (c.putR f (c.nextOf r.ss)).2 = 2 := by unfold Ca.putR; rw [if_pos q0]
    have e2 : (r.putS f).L.length = r.L.length := by unfold Rc.putS; rw [if_pos q0]
    have q1 : (f == 0) = true := by simp [q0]
    rw [e1, e2]
    clear e1 e2 q0 few few2
    generalize r.L.length = B at *
    go_wp2
    go_ret
    exact ⟨by first | rfl | exact ret_bool (by simp), B7.out⟩
  have q1 : (f == 0) = false := by simp [q0]
  have hmost2 : (c.putS f (c.nextOf r.ss)).most = (M0 : Int) + 1 := by
    rw [← RP.out.most, ← mosts, ← RL.out.most]
    have := Dc.onR_most ⟨0, f, false, 0⟩ r
    exact this
  rw [hmost2] at few2
  rcases RL.out.put_cases hf.2 hf.1 RL.out.rise q0 with ⟨c1, c2, c3, c4⟩ | ⟨c1, c2, _⟩
  · have e1 : (c.putR f (c.nextOf r.ss)).2 = 4 := by rw [c4]
    have e0 : c.putS f (c.nextOf r.ss) = c := put_not c (by rw [e1]; decide)
    have e2 : (r.putS f).L.length = r.L.length := by
      have h1 := RP.out.len
      have h2 := RL.out.len
      rw [e0] at h1
      omega
    have HC := hid (has_c H7.out hf.1 hf.2)
    rw [e0] at HC
    rw [c1] at HC
    rw [e1, e2, c1, c3]
    rw [mosts] at c2
    have q2 : ((r.L.length : Int) == (M0 : Int) + 1) = true := by simp [c2]
    clear e1 e2 e0 few few2 q0 c1 c3 c4 hmost2
    generalize r.L.length = B at *
    go_wp2_with (go_at_call 14; refine HC.out.mono ?_; rintro _ w8 ⟨rfl, hb8⟩; (have B8 := hid (B7.out.trans (hb8.mono B7.out.size))); clear hb8)
    go_ret
    exact ⟨by first | rfl | exact ret_bool (by simp), B8.out⟩
  · have e0 := put_has c q0 c1
    have HC := hid (has_c H7.out hf.1 hf.2)
    rw [e0] at HC
    rw [c1]
    have le1 : decide ((r.L.length : Int) ≤ (M0 : Int) + 1) = true := decide_eq_true few
    have le2 : decide (((r.putS f).L.length : Int) ≤ (M0 : Int) + 1) = true := decide_eq_true few2
    rw [mosts] at c2
    clear e0 q0 c1 hmost2
    generalize r.L.length = B at *
    generalize (r.putS f).L.length = A at *
    generalize c.nextOf r.ss = nx at *
    cases hh : c.has f with
    | true =>
      go_wp2_with (go_at_call 14; refine HC.out.mono ?_; rintro _ w8 ⟨rfl, hb8⟩; (have B8 := hid (B7.out.trans (hb8.mono B7.out.size))); clear hb8)
      go_ret
      exact ⟨by first | rfl | exact ret_bool (by simp), B8.out⟩
    | false =>
      by_cases hq : (B : Int) = (M0 : Int) + 1
      · have hnx : nx ≠ 0 := by
          rcases c2 with q | q | q
          · rw [hh] at q; cases q
          · omega
          · exact q
        have hb9 : (nx != 0) = true := by simp [hnx]
        have q2 : ((B : Int) == (M0 : Int) + 1) = true := by simp [hq]
        rw [hb9]
        clear c2 hh hq hnx
        go_wp2_with (go_at_call 14; refine HC.out.mono ?_; rintro _ w8 ⟨rfl, hb8⟩; (have B8 := hid (B7.out.trans (hb8.mono B7.out.size))); clear hb8)
        go_ret
        exact ⟨by first | rfl | exact ret_bool (by simp), B8.out⟩
      · have q2 : ((B : Int) == (M0 : Int) + 1) = false := by simp [hq]
        clear c2 hh hq
        go_wp2_with (go_at_call 14; refine HC.out.mono ?_; rintro _ w8 ⟨rfl, hb8⟩; (have B8 := hid (B7.out.trans (hb8.mono B7.out.size))); clear hb8)
        go_ret
        exact ⟨by first | rfl | exact ret_bool (by simp), B8.out⟩
/-! ### The row of CacheFew -/
theorem cacheFew_own : ownKnob Try.prog.godebug = none := by kernel_rfl
theorem cacheFew_laidOut : laidOutB Try.prog = true := by kernel_rfl
set_option maxRecDepth 100000 in
theorem cacheFew_lifted (os : Os) (started : os.Started) (H : Type) (enc : TypeId × Value → H) :
    ReturnsInHanded {} Try.checked os 5 .any (Rows.cacheFewSpec.pre6 enc Try.prog Try.f5 Rows.cacheFewRow.domain false) (Rows.cacheFewSpec.post enc Try.prog Try.f5 false true false false) := by
  refine returnsInHanded_of_change (C := Try.checked) cacheFew_own started (by kernel_rfl) Try.func5
    (ChangeSpec.witness6 (enc := enc) (C := Try.checked) false ⟨#[], #[.int .u8 0, .slice none 0 0, .int .u32 0], []⟩ 8 (by kernel_rfl) (by kernel_rfl) (by kernel_rfl) (by kernel_rfl)) ?_
  intro W base args ds gs before hval0 hW hcnd _
  have hval : ∀ (j : Nat) t v, Try.f5.params[j]? = some t → args[j]? = some v → Value.okWide Try.prog W .any base t v := hval0
  have hW' := hW
  obtain ⟨p, q, hA0, hV, rfl, hfz, hnd⟩ := hW
  have hA : DataW.TrodAll enc Try.prog W 0 (fun _ => true) true Try.f5.params.toList args.toList ds p := hA0
  rw [Try.params5] at hA hval
  obtain ⟨v0, vs0, d0, ds0, p0, q0, hargs, rfl, rfl, h0, r0⟩ := trodAll_cons hA
  obtain ⟨v1, vs1, d1, ds1, p1, q1, rfl, rfl, rfl, h1, r1⟩ := trodAll_cons r0
  obtain ⟨v2, vs2, d2, ds2, p2, q2, rfl, rfl, rfl, h2, r2⟩ := trodAll_cons r1
  obtain ⟨rfl, rfl, rfl⟩ := trodAll_nil r2
  obtain rfl : args = #[v0, v1, v2] := by cases args; simp_all
  obtain ⟨rfl, rfl⟩ := trodVars_none hV
  obtain ⟨a0, rfl, rfl, rfl, w0⟩ := open_int Try.underlying5 (hval 0 5 v0 rfl rfl) h0
  have k1 := h1
  have lt1 : ∀ x ∈ p1, x.block < W.heap.size := by obtain ⟨m, hm⟩ := k1; exact DataW.trod_lt m _ _ _ hm
  obtain ⟨a1, len1, cap1, rfl⟩ := okWide_slice Try.underlying22 (hval 1 22 v1 rfl rfl)
  obtain ⟨z1, w1⟩ := isDc_of Try.underlying22 h1
  obtain ⟨a2, rfl, rfl, rfl, w2⟩ := open_int Try.underlying24 (hval 2 24 v2 rfl rfl) h2
  clear hA0 hval0
  refine (cacheFew_walk a0 w0 a1 len1 cap1 z1 a2 w2 W w1).mono fun e W' ⟨he, bel⟩ => ?_
  subst he
  exact ⟨_, rfl, _, _, _, [], _, [], hW', trodAll_mk1 (shut_bool Try.underlying4 _), (trodAll_cons_mk (shut_int Try.underlying5 w0) (trodAll_cons_mk (Below.trod cacheFew_laidOut (by kernel_rfl) (of_decide_eq_true (by kernel_rfl)) k1 bel lt1) (trodAll_cons_mk (shut_int Try.underlying24 w2) trodAll_mk0))), rfl, bel.frame _, fun h => by cases h⟩
theorem cacheFew_over : Rows.cacheFewRow.holds Try.pinned (OpenSpec.ofChange Rows.cacheFewSpec) :=
  OpenClaim.holds_of_wide 5 Try.f5 rfl rfl rfl rfl rfl rfl rfl ⟨rfl, rfl, rfl, rfl, rfl⟩ rfl rfl rfl rfl rfl (by kernel_rfl) Try.func5 (by kernel_rfl)
    (of_decide_eq_true (by kernel_rfl)) (by unfold Func.isWrapper; first | (rw [if_pos (by decide +kernel)]; kernel_rfl) | (rw [if_neg (by decide +kernel)]; exact ⟨rfl, rfl⟩))
    (fun os started H enc _ => cacheFew_lifted os started H enc)
/-- The statement. -/
theorem cacheFew_holds : Rows.CacheFewSaid := cacheFew_over
#print axioms cacheFew_holds

end Go.Proofs.Ytilcbkejmpfnfaa
