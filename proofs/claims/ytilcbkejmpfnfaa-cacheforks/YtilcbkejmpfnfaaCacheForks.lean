/-
  For all deeds, more of them on a Fork, and every object: what becomes of a Fork changes nothing.
-/
import Derived.Test.YtilcbkejmpfnfaaCSa
import Derived.Test.YtilcbkejmpfnfaaCFk
import Derived.Test.YtilcbkejmpfnfaaCRk
namespace Go.Proofs.Ytilcbkejmpfnfaa
open Go.RowKit Go.ChangeShapes Go.WideShapes Go.ChangeAt Go.Maps Go.Shelf
open Go.ChangeMaps (open_string shut_string)
set_option linter.unusedVariables false
set_option linter.unusedSimpArgs false
set_option maxRecDepth 100000
theorem Bo.later {w w' : World} {p b1 b2 g : Nat} {vl vh : Value} {c : Ca} {r : Rc} (h : Bo w p b1 b2 g vl vh c r) (hb : Below w.heap.size w w') : Bo w' p b1 b2 g vl vh c r := ⟨h.hc.later hb, h.hr.later hb, h.rl⟩
theorem Bo.out {S : Nat → Prop} {w w' : World} {p b1 b2 g : Nat} {vl vh : Value} {c : Ca} {r : Rc} (h : Bo w p b1 b2 g vl vh c r) (ho : Ou S w w') (hS : ∀ k, PBk p b1 b2 g vl vh k → ¬ S k) : Bo w' p b1 b2 g vl vh c r :=
  ⟨h.hc.out ho (hS p (.inl (.inl rfl))) (hS b1 (.inl (.inr (.inl rfl)))) (hS b2 (.inl (.inr (.inr rfl)))), h.hr.out ho (fun k hk => hS k (.inr hk)), h.rl⟩
set_option maxHeartbeats 16000000 in
theorem cacheForks_walk (a : Option Addr) (len cap : Nat) (z : Nat → Dc) (a2 : Option Addr) (len2 cap2 : Nat) (z2 : Nat → Dc) (f : Int) (wf : (Lit.int .u32 f).wf = true) (w : World) (hz : IsDc w a len z) (hz2 : IsDc w a2 len2 z2) :
    Calls Try.prog 8 #[.slice a len cap, .slice a2 len2 cap2, .int .u32 f] w fun e w' => e = .returned (.bool true) ∧ Below w.heap.size w w' := by
  have hf := bd_u32 wf
  have PF := play_facts (M0 := 3) (by omega) hz
  have PC := hid (play_c 3 (by omega) (by omega) (M0 := 3) (by omega) rfl a len cap z w hz)
  have HZ2 := hid hz2
  have hml := hz2.1
  clear hz hz2 wf
  generalize min len 80 = N at *
  go_enter Try.func8, Try.ntmps8
  go_wp2_with fail
  refine PC.out.mono ?_
  rintro _ w1 ⟨p, b1, b2, g, vl, vh, rfl, hB, hK, hb⟩
  generalize (stP (((3 : Nat) : Int) + 1) z N).1 = c at *
  generalize (stP (((3 : Nat) : Int) + 1) z N).2 = r at *
  have H1 := hid hB
  have KB := hid hK
  have B1 := hid hb
  have hu80 := PF.2
  clear hB hK hb PC PF
  go_wp2_with fail
  refine (clive_c w1).mono ?_
  rintro _ w2 ⟨rfl, hb2⟩
  have H2 := hid (H1.out.later hb2)
  have B2 := hid (B1.out.trans (hb2.mono B1.out.size))
  have LB : Hid (∀ k, PBk p b1 b2 g vl vh k → k < w2.heap.size) := hid (fun k hk => H2.out.lts hk)
  clear hb2
  have hlen := H2.out.rl.lens
  go_wp2_with fail
  refine (cafork_c H2.out.hc).mono ?_
  rintro _ w3 ⟨g4, p4, q4, rfl, hF, hnew, hb3⟩
  have H3 := hid (H2.out.later hb3)
  have F3 := hid hF
  have B3 := hid (B2.out.trans (hb3.mono B2.out.size))
  have Z3 := hid hb3.size
  have NW := hid hnew
  clear hF hb3 hnew
  go_wp2_with fail
  refine (rcfork_c H3.out.hr (by omega) (by omega)).mono ?_
  rintro _ w4 ⟨g5, vl5, vh5, rfl, hR, hn5, hb4⟩
  have H4 := hid (H3.out.later hb4)
  have B4 := hid (B3.out.trans (hb4.mono B3.out.size))
  have F4 : Hid (Bo w4 g4 p4 q4 g5 vl5 vh5 c r) := hid ⟨F3.out.later hb4, hR, H3.out.rl⟩
  have K4 : Hid (∀ k, PBk g4 p4 q4 g5 vl5 vh5 k → w2.heap.size ≤ k) := hid (fun k hk => by
    have n4 := NW.out
    have z3 := Z3.out
    rcases hk with (e | e | e) | e
    · omega
    · omega
    · omega
    · have := hn5 k e; omega)
  have Z4 : Hid (w2.heap.size ≤ w4.heap.size) := hid (Nat.le_trans Z3.out hb4.size)
  clear hR hn5 hb4
  obtain ⟨N2, hN2⟩ : ∃ N2, N2 = min len2 20 := ⟨_, rfl⟩
  have hn1 : N2 ≤ len2 := by omega
  have hn2 : N2 ≤ 20 := by omega
  have hn3 : N2 < len2 → N2 = 20 := by omega
  clear hN2
  go_wp2_with fail
  go_loopg [12] N2 (fun gk j wr => ∃ (m : Nat) (c' : Ca) (r' : Rc) (vl' vh' : Value), m + gk = N2 ∧ j = .int .i64 m ∧ Hid (Bo wr g4 p4 q4 g5 vl' vh' c' r') ∧ Hid (c'.uses ≤ 80 + m) ∧ Hid (∀ k, PBk g4 p4 q4 g5 vl' vh' k → w2.heap.size ≤ k) ∧ Hid (Bo wr p b1 b2 g vl vh c r) ∧ Hid (w2.heap.size ≤ wr.heap.size) ∧ Hid (Below w.heap.size w wr))
  case atStart => exact ⟨0, c, r, vl5, vh5, by omega, rfl, F4, hid (by omega), K4, H4, Z4, B4⟩
  case round =>
    obtain ⟨m, c', r', vl', vh', hm, rfl, HF, HU, HK, HO, HS, HB⟩ := hrel
    by_cases hlt : m < N2
    · have hl1 : (m : Int) < (len2 : Int) := by omega
      have hl2 : (m : Int) < 20 := by omega
      obtain ⟨b, off, rfl, hcell, hwf⟩ := (HZ2.out.later HB.out).2 m (by omega)
      have k0 : wr.cell? ⟨b, off + m * 4, none⟩ = some (.int .i64 (z2 m).k) := hcell 0 _ rfl
      have k1 : wr.cell? ⟨b, off + m * 4 + 1, none⟩ = some (.int .u32 (z2 m).f) := hcell 1 _ rfl
      have k2 : wr.cell? ⟨b, off + m * 4 + 2, none⟩ = some (.bool (z2 m).dirty) := hcell 2 _ rfl
      have k3 : wr.cell? ⟨b, off + m * 4 + 3, none⟩ = some (.int .i64 (z2 m).dear) := hcell 3 _ rfl
      have DC := hid (do_c HF.out (by have := HU.out; omega) (z2 m) hwf)
      have RN := hid (HF.out.rl.deed (z2 m) hwf)
      have UN := hid (uses_deed (z2 m) c' r'.ss)
      clear hcell hwf
      unfold Dc.val at DC
      generalize (z2 m).onC c' r'.ss = cN at *
      generalize (z2 m).onR r' = rN at *
      generalize (z2 m).k = fk at *
      generalize (z2 m).f = ff at *
      generalize (z2 m).dirty = fd at *
      generalize (z2 m).dear = fn at *
      go_wp2_with (go_at_call 22; refine DC.out.mono ?_; rintro _ w5 ⟨rfl, hD⟩; (have D5 := hid hD); clear hD)
      obtain ⟨vl9, vh9, q1, q2, q3, q4'⟩ := D5.out
      have FN : Hid (Bo w5 g4 p4 q4 g5 vl9 vh9 cN rN) := hid ⟨q1, q2, RN.out⟩
      have KN : Hid (∀ k, PBk g4 p4 q4 g5 vl9 vh9 k → w2.heap.size ≤ k) := hid (fun k hk => by
        rcases hk with e | e
        · exact HK.out k (.inl e)
        · rcases q4' k e with q | q
          · exact HK.out k (.inr q)
          · exact Nat.le_trans HS.out q)
      have ON := hid (HO.out.out q3 (fun k hk e => by have h1 := LB.out k hk; have h2 := HK.out k e; omega))
      have SN : Hid (w2.heap.size ≤ w5.heap.size) := hid (Nat.le_trans HS.out q3.size)
      have BN := hid (HB.out.trans (q3.below HB.out.size (fun k e => by have h2 := HK.out k e; have h3 := B2.out.size; omega)))
      have U9 : Hid (cN.uses ≤ 80 + ((m + 1 : Nat) : Int)) := hid (by have h1 := HU.out; have h2 := UN.out; omega)
      clear q1 q2 q3 q4'
      go_roundg (gk - 1)
      case measure => omega
      case rel => exact ⟨m + 1, cN, rN, vl9, vh9, by omega, by go_num, FN, U9, KN, ON, SN, BN⟩
    · have em : m = N2 := by omega
      subst em
      have SC1 := hid (same_c HO.out hf.1 hf.2)
      have SC2 : Hid (∀ W, Below wr.heap.size wr W → Calls Try.prog 11 #[pA g4, pA g5, .int .u32 f] W fun e w' => e = .returned (.bool true) ∧ Below W.heap.size W w') := hid (fun W hb => same_c (HF.out.later hb) hf.1 hf.2)
      have hout : ((m : Int) < (len2 : Int) ∧ ¬ (m : Int) < 20) ∨ ¬ (m : Int) < (len2 : Int) := by
        by_cases hl : m < len2
        · have := hn3 hl
          exact .inl ⟨by omega, by omega⟩
        · exact .inr (by omega)
      clear hn3 hlt
      rcases hout with ⟨d1, d2⟩ | d1
      all_goals (
        go_wp2_with fail
        refine SC1.out.mono ?_
        rintro _ w6 ⟨rfl, hb6⟩
        have C6 := hid hb6
        have B6 := hid (HB.out.trans (hb6.mono HB.out.size))
        clear hb6
        go_wp2_with fail
        refine (SC2.out _ C6.out).mono ?_
        rintro _ w7 ⟨rfl, hb7⟩
        have B7 := hid (B6.out.trans (hb7.mono B6.out.size))
        clear hb7
        go_wp2
        go_ret
        exact ⟨by first | rfl | exact ret_bool (by simp), B7.out⟩)
/-! ### The row of CacheForks -/
theorem cacheForks_own : ownKnob Try.prog.godebug = none := by kernel_rfl
theorem cacheForks_laidOut : laidOutB Try.prog = true := by kernel_rfl
set_option maxRecDepth 100000 in
theorem cacheForks_lifted (os : Os) (started : os.Started) (H : Type) (enc : TypeId × Value → H) :
    ReturnsInHanded {} Try.checked os 8 .any (Rows.cacheForksSpec.pre6 enc Try.prog Try.f8 Rows.cacheForksRow.domain false) (Rows.cacheForksSpec.post enc Try.prog Try.f8 false true false false) := by
  refine returnsInHanded_of_change (C := Try.checked) cacheForks_own started (by kernel_rfl) Try.func8
    (ChangeSpec.witness6 (enc := enc) (C := Try.checked) false ⟨#[], #[.slice none 0 0, .slice none 0 0, .int .u32 0], []⟩ 8 (by kernel_rfl) (by kernel_rfl) (by kernel_rfl) (by kernel_rfl)) ?_
  intro W base args ds gs before hval0 hW hcnd _
  have hval : ∀ (j : Nat) t v, Try.f8.params[j]? = some t → args[j]? = some v → Value.okWide Try.prog W .any base t v := hval0
  have hW' := hW
  obtain ⟨p, q, hA0, hV, rfl, hfz, hnd⟩ := hW
  have hA : DataW.TrodAll enc Try.prog W 0 (fun _ => true) true Try.f8.params.toList args.toList ds p := hA0
  rw [Try.params8] at hA hval
  obtain ⟨v0, vs0, d0, ds0, p0, q0, hargs, rfl, rfl, h0, r0⟩ := trodAll_cons hA
  obtain ⟨v1, vs1, d1, ds1, p1, q1, rfl, rfl, rfl, h1, r1⟩ := trodAll_cons r0
  obtain ⟨v2, vs2, d2, ds2, p2, q2, rfl, rfl, rfl, h2, r2⟩ := trodAll_cons r1
  obtain ⟨rfl, rfl, rfl⟩ := trodAll_nil r2
  obtain rfl : args = #[v0, v1, v2] := by cases args; simp_all
  obtain ⟨rfl, rfl⟩ := trodVars_none hV
  have k0 := h0
  have lt0 : ∀ x ∈ p0, x.block < W.heap.size := by obtain ⟨m, hm⟩ := k0; exact DataW.trod_lt m _ _ _ hm
  obtain ⟨a0, len0, cap0, rfl⟩ := okWide_slice Try.underlying22 (hval 0 22 v0 rfl rfl)
  obtain ⟨z0, w0⟩ := isDc_of Try.underlying22 h0
  have k1 := h1
  have lt1 : ∀ x ∈ p1, x.block < W.heap.size := by obtain ⟨m, hm⟩ := k1; exact DataW.trod_lt m _ _ _ hm
  obtain ⟨a1, len1, cap1, rfl⟩ := okWide_slice Try.underlying22 (hval 1 22 v1 rfl rfl)
  obtain ⟨z1, w1⟩ := isDc_of Try.underlying22 h1
  obtain ⟨a2, rfl, rfl, rfl, w2⟩ := open_int Try.underlying24 (hval 2 24 v2 rfl rfl) h2
  clear hA0 hval0
  refine (cacheForks_walk a0 len0 cap0 z0 a1 len1 cap1 z1 a2 w2 W w0 w1).mono fun e W' ⟨he, bel⟩ => ?_
  subst he
  exact ⟨_, rfl, _, _, _, [], _, [], hW', trodAll_mk1 (shut_bool Try.underlying4 _), (trodAll_cons_mk (Below.trod cacheForks_laidOut (by kernel_rfl) (of_decide_eq_true (by kernel_rfl)) k0 bel lt0) (trodAll_cons_mk (Below.trod cacheForks_laidOut (by kernel_rfl) (of_decide_eq_true (by kernel_rfl)) k1 bel lt1) (trodAll_cons_mk (shut_int Try.underlying24 w2) trodAll_mk0))), rfl, bel.frame _, fun h => by cases h⟩
theorem cacheForks_over : Rows.cacheForksRow.holds Try.pinned (OpenSpec.ofChange Rows.cacheForksSpec) :=
  OpenClaim.holds_of_wide 8 Try.f8 rfl rfl rfl rfl rfl rfl rfl ⟨rfl, rfl, rfl, rfl, rfl⟩ rfl rfl rfl rfl rfl (by kernel_rfl) Try.func8 (by kernel_rfl)
    (of_decide_eq_true (by kernel_rfl)) (by unfold Func.isWrapper; first | (rw [if_pos (by decide +kernel)]; kernel_rfl) | (rw [if_neg (by decide +kernel)]; exact ⟨rfl, rfl⟩))
    (fun os started H enc _ => cacheForks_lifted os started H enc)
/-- The statement. -/
theorem cacheForks_holds : Rows.CacheForksSaid := cacheForks_over
#print axioms cacheForks_holds

end Go.Proofs.Ytilcbkejmpfnfaa
