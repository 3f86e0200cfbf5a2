/-
  For every number, all deeds and every object: what goes is no dearer than anything clean that stays.
-/
import Derived.Test.YtilcbkejmpfnfaaCFk
import Derived.Test.YtilcbkejmpfnfaaCRw
namespace Go.Proofs.Ytilcbkejmpfnfaa
open Go.RowKit Go.ChangeShapes Go.WideShapes Go.ChangeAt Go.Maps Go.Shelf
open Go.ChangeMaps (open_string shut_string)
set_option linter.unusedVariables false
set_option linter.unusedSimpArgs false
set_option maxRecDepth 100000
theorem Rl.next_le {c : Ca} {r : Rc} (h : Rl c r) {ss : List Int} (hs : RiseF c.f ss) (hn : c.nextOf ss ≠ 0) : c.dirtyB (c.nextOf ss) = false ∧ ∀ x, x ∈ ss → c.dirtyB x = false → ¬ c.dearN x < c.dearN (c.nextOf ss) := by
  rcases fold_nil (c := c) ss (fun x hx => (h.has_rng ((hs.2 x).1 hx)).1) with ⟨a, _⟩ | ⟨_, a, b⟩
  · exact absurd a hn
  · refine ⟨a, fun x hx hd => ?_⟩
    have := b x hx hd
    unfold Ca.le at this
    unfold Ca.nextOf
    omega
theorem ss_rng {c : Ca} {r : Rc} (h : Rl c r) {k : Nat} (hk : k < r.ss.length) : r.ss.getD k 0 ∈ r.ss ∧ 0 ≤ r.ss.getD k 0 ∧ r.ss.getD k 0 < 4294967296 := by
  have hm : r.ss.getD k 0 ∈ r.ss := by simp only [List.getD, List.getElem?_eq_getElem hk]; exact List.getElem_mem hk
  have := h.has_rng ((h.rise.2 _).1 hm)
  exact ⟨hm, by omega, this.2⟩
set_option maxHeartbeats 8000000 in
theorem cacheDear_walk (n : Int) (wn : (Lit.int .u8 n).wf = true) (a : Option Addr) (len cap : Nat) (z : Nat → Dc) (f : Int) (wf : (Lit.int .u32 f).wf = true) (w : World) (hz : IsDc w a len z) :
    Calls Try.prog 6 #[.int .u8 n, .slice a len cap, .int .u32 f] w fun e w' => e = .returned (.bool true) ∧ Below w.heap.size w w' := by
  have hn := bd_u8 wn
  have hf := bd_u32 wf
  obtain ⟨M0, hM, eM⟩ := mod_ten hn.1 hn.2
  have PF := play_facts hM hz
  have PC := hid (play_c n hn.1 hn.2 hM eM a len cap z w hz)
  clear hz wn wf
  generalize min len 80 = N at *
  go_enter Try.func6, Try.ntmps6
  go_wp2_with fail
  refine PC.out.mono ?_
  rintro _ w1 ⟨p, b1, b2, g, vl, vh, rfl, hB, hK, hb⟩
  generalize (stP ((M0 : Int) + 1) z N).1 = c at *
  generalize (stP ((M0 : Int) + 1) z N).2 = r at *
  have H1 := hid hB.hc
  have RL := hid hB.rl
  have TB : Hid (∀ k, Tri p b1 b2 k → w.heap.size ≤ k) := hid (fun k hk => hK k (.inl hk))
  have B1 := hid hb
  clear hB hK hb PC
  go_wp2_with fail
  refine (clive_c w1).mono ?_
  rintro _ w2 ⟨rfl, hb2⟩
  have H2 := hid (H1.out.later hb2)
  have B2 := hid (B1.out.trans (hb2.mono B1.out.size))
  clear hb2
  have hlen := RL.out.lens
  go_wp2_with fail
  refine (next_at H2.out (by omega) RL.out.rise).mono ?_
  rintro _ w3 ⟨rfl, hb3⟩
  have H3 := hid (H2.out.later hb3)
  have B3 := hid (B2.out.trans (hb3.mono B2.out.size))
  clear hb3
  go_wp2_with fail
  refine (cafork_c H3.out).mono ?_
  rintro _ w4 ⟨g4, p4, q4, rfl, hF, hnew, hb4⟩
  have H4 := hid (H3.out.later hb4)
  have F4 := hid hF
  have B4 := hid (B3.out.trans (hb4.mono B3.out.size))
  have AP : Hid (¬ Tri p b1 b2 g4 ∧ ¬ Tri p b1 b2 p4 ∧ ¬ Tri p b1 b2 q4) := hid (by
    obtain ⟨_, _, _, _, _, l0, l1, l2, _⟩ := H3.out.cells
    refine ⟨?_, ?_, ?_⟩ <;> rintro (e | e | e) <;> omega)
  clear hb4 hF hnew
  go_wp2_with fail
  have uses : c.uses < 1000000 := by have := PF.2; omega
  refine (put_c H4.out (by omega) RL.out.ulo uses RL.out.rise hf.1 hf.2).mono ?_
  rintro _ w5 ⟨rfl, h5, o5⟩
  have B5 := hid (B4.out.trans (o5.below B4.out.size TB.out))
  have F5 := hid (F4.out.out o5 AP.out.1 AP.out.2.1 AP.out.2.2)
  clear h5 o5
  by_cases q0 : f = 0
  · have e1 : c.putR f (c.nextOf r.ss) = (0, 2) := by unfold Ca.putR; rw [if_pos q0]
    rw [e1]
    clear e1 q0
    go_wp2
    go_ret
    exact ⟨rfl, B5.out⟩
  rcases RL.out.put_cases hf.2 hf.1 RL.out.rise q0 with ⟨_, _, _, c4⟩ | ⟨c1, _, c3 | ⟨c3, c5, _⟩⟩
  · rw [c4]
    clear q0 c4
    go_wp2
    go_ret
    exact ⟨rfl, B5.out⟩
  · rw [c1, c3]
    clear q0 c1 c3
    go_wp2
    go_ret
    exact ⟨rfl, B5.out⟩
  · rw [c1, c3]
    obtain ⟨d1, d2⟩ := RL.out.next_le RL.out.rise c5
    have hnx := nextOf_range (c := c) (ss := r.ss) (fun x hx => by
      have := RL.out.has_rng ((RL.out.rise.2 x).1 hx)
      omega)
    have DG := hid (dirty_c F5.out hnx.1 hnx.2)
    rw [d1] at DG
    have D2 := hid d2
    have LC := hid (list_c F5.out (by omega) RL.out.rise)
    have HX := hid hnx
    have hb9 : (c.nextOf r.ss != 0) = true := by simp [c5]
    have hb8 : (c.nextOf r.ss == 0) = false := by simp [c5]
    rw [hb9]
    clear c1 c3 d1 d2 hb9 q0 hf c5
    generalize hnx0 : c.nextOf r.ss = nx at *
    clear hnx0
    go_wp2_with fail
    refine DG.out.mono ?_
    rintro _ w6 ⟨rfl, h6⟩
    rw [h6]
    clear h6 DG
    go_wp2_with fail
    refine LC.out.mono ?_
    rintro _ w7 ⟨v7, rfl, o7, hb7⟩
    have F7 := hid (F5.out.later hb7)
    have B7 := hid (B5.out.trans (hb7.mono B5.out.size))
    have R7 := hid (RowF.of_own o7 rfl)
    obtain ⟨a7, c7, rfl, _⟩ := own_shapeC o7
    obtain ⟨_, hcap7, hr7⟩ := R7.out.at
    have HR7 := hid hr7
    have SR : Hid (∀ k, k < r.ss.length → r.ss.getD k 0 ∈ r.ss ∧ 0 ≤ r.ss.getD k 0 ∧ r.ss.getD k 0 < 4294967296) := hid (fun k hk => ss_rng RL.out hk)
    have hsl : r.ss.length ≤ 10 := by rw [r.ss_len]; omega
    clear o7 hb7 hr7 LC
    generalize hss : r.ss = ss at *
    clear hss
    obtain ⟨L, hL⟩ : ∃ L, L = ss.length := ⟨_, rfl⟩
    rw [← hL] at hsl hcap7 HR7 SR
    rw [← hL]
    go_wp2_with fail
    go_loopg [16] L (fun gk j wr => ∃ m : Nat, m + gk = L ∧ j = .int .i64 m ∧ wr = w7)
    case atStart => exact ⟨0, by omega, rfl, rfl⟩
    case round =>
      obtain ⟨m, hm, rfl, rfl⟩ := hrel
      by_cases hlt : m < L
      · have hltI : (m : Int) < L := by omega
        obtain ⟨g7, o7, rfl, _, hc7⟩ := HR7.out (by omega)
        have k0 := hc7 m hlt
        obtain ⟨s1, s2, s3⟩ := SR.out m hlt
        have DX := hid (dirty_c F7.out s2 s3)
        have EX := hid (dear_c F7.out s2 s3)
        have EG := hid (dear_c F7.out HX.out.1 HX.out.2)
        have LT := D2.out _ s1
        clear hc7 s1
        generalize ss.getD m 0 = x at *
        cases hd : c.dirtyB x with
        | true =>
          rw [hd] at DX
          clear hd LT
          go_wp2_with (go_at_call 16; refine DX.out.mono ?_; rintro _ w8 ⟨rfl, h8⟩; rw [h8]; clear h8)
          go_roundg (gk - 1)
          case measure => omega
          case rel => exact ⟨m + 1, by omega, by go_num, rfl⟩
        | false =>
          have lt := LT hd
          have ltd : decide (c.dearN x < c.dearN nx) = false := decide_eq_false (by omega)
          rw [hd] at DX
          clear hd LT
          generalize c.dearN x = dx at *
          generalize c.dearN nx = dn at *
          go_wp2_with (first
            | (go_at_call 16; refine DX.out.mono ?_; rintro _ w8 ⟨rfl, h8⟩; rw [h8]; clear h8)
            | (have _q := TX.out; clear _q; go_at_call 19; refine EG.out.mono ?_; rintro _ w9 ⟨rfl, h9⟩; rw [h9]; clear h9)
            | (go_at_call 19; refine EX.out.mono ?_; rintro _ w8 ⟨rfl, h8⟩; rw [h8]; (have TX := hid h8); clear h8))
          go_roundg (gk - 1)
          case measure => omega
          case rel => exact ⟨m + 1, by omega, by go_num, rfl⟩
      · have em : m = L := by omega
        subst em
        have hge : ¬ (m : Int) < m := by omega
        go_wp2
        go_ret
        exact ⟨rfl, B7.out⟩
/-! ### The row of CacheDear -/
theorem cacheDear_own : ownKnob Try.prog.godebug = none := by kernel_rfl
theorem cacheDear_laidOut : laidOutB Try.prog = true := by kernel_rfl
set_option maxRecDepth 100000 in
theorem cacheDear_lifted (os : Os) (started : os.Started) (H : Type) (enc : TypeId × Value → H) :
    ReturnsInHanded {} Try.checked os 6 .any (Rows.cacheDearSpec.pre6 enc Try.prog Try.f6 Rows.cacheDearRow.domain false) (Rows.cacheDearSpec.post enc Try.prog Try.f6 false true false false) := by
  refine returnsInHanded_of_change (C := Try.checked) cacheDear_own started (by kernel_rfl) Try.func6
    (ChangeSpec.witness6 (enc := enc) (C := Try.checked) false ⟨#[], #[.int .u8 0, .slice none 0 0, .int .u32 0], []⟩ 8 (by kernel_rfl) (by kernel_rfl) (by kernel_rfl) (by kernel_rfl)) ?_
  intro W base args ds gs before hval0 hW hcnd _
  have hval : ∀ (j : Nat) t v, Try.f6.params[j]? = some t → args[j]? = some v → Value.okWide Try.prog W .any base t v := hval0
  have hW' := hW
  obtain ⟨p, q, hA0, hV, rfl, hfz, hnd⟩ := hW
  have hA : DataW.TrodAll enc Try.prog W 0 (fun _ => true) true Try.f6.params.toList args.toList ds p := hA0
  rw [Try.params6] at hA hval
  obtain ⟨v0, vs0, d0, ds0, p0, q0, hargs, rfl, rfl, h0, r0⟩ := trodAll_cons hA
  obtain ⟨v1, vs1, d1, ds1, p1, q1, rfl, rfl, rfl, h1, r1⟩ := trodAll_cons r0
  obtain ⟨v2, vs2, d2, ds2, p2, q2, rfl, rfl, rfl, h2, r2⟩ := trodAll_cons r1
  obtain ⟨rfl, rfl, rfl⟩ := trodAll_nil r2
  obtain rfl : args = #[v0, v1, v2] := by cases args; simp_all
  obtain ⟨rfl, rfl⟩ := trodVars_none hV
  obtain ⟨a0, rfl, rfl, rfl, w0⟩ := open_int Try.underlying5 (hval 0 5 v0 rfl rfl) h0
  have k1 := h1
  have lt1 : ∀ x ∈ p1, x.block < W.heap.size := by obtain ⟨m, hm⟩ := k1; exact DataW.trod_lt m _ _ _ hm
  obtain ⟨a1, len1, cap1, rfl⟩ := okWide_slice Try.underlying22 (hval 1 22 v1 rfl rfl)
  obtain ⟨z1, w1⟩ := isDc_of Try.underlying22 h1
  obtain ⟨a2, rfl, rfl, rfl, w2⟩ := open_int Try.underlying24 (hval 2 24 v2 rfl rfl) h2
  clear hA0 hval0
  refine (cacheDear_walk a0 w0 a1 len1 cap1 z1 a2 w2 W w1).mono fun e W' ⟨he, bel⟩ => ?_
  subst he
  exact ⟨_, rfl, _, _, _, [], _, [], hW', trodAll_mk1 (shut_bool Try.underlying4 _), (trodAll_cons_mk (shut_int Try.underlying5 w0) (trodAll_cons_mk (Below.trod cacheDear_laidOut (by kernel_rfl) (of_decide_eq_true (by kernel_rfl)) k1 bel lt1) (trodAll_cons_mk (shut_int Try.underlying24 w2) trodAll_mk0))), rfl, bel.frame _, fun h => by cases h⟩
theorem cacheDear_over : Rows.cacheDearRow.holds Try.pinned (OpenSpec.ofChange Rows.cacheDearSpec) :=
  OpenClaim.holds_of_wide 6 Try.f6 rfl rfl rfl rfl rfl rfl rfl ⟨rfl, rfl, rfl, rfl, rfl⟩ rfl rfl rfl rfl rfl (by kernel_rfl) Try.func6 (by kernel_rfl)
    (of_decide_eq_true (by kernel_rfl)) (by unfold Func.isWrapper; first | (rw [if_pos (by decide +kernel)]; kernel_rfl) | (rw [if_neg (by decide +kernel)]; exact ⟨rfl, rfl⟩))
    (fun os started H enc _ => cacheDear_lifted os started H enc)
/-- The statement. -/
theorem cacheDear_holds : Rows.CacheDearSaid := cacheDear_over
#print axioms cacheDear_holds

end Go.Proofs.Ytilcbkejmpfnfaa
