/-
  For every number, every deeds (the first twenty are done) and every group: behind a Reset there is that group alone; what has no room changes nothing.
-/
import Derived.Test.YtfmkgflhgapeoaaGN
namespace Go.Proofs.Ytfmkgflhgapeoaa
open Go.ChangeShapes Go.WideShapes Go.ChangeAt Go.RowKit Go.Maps
open Go.ChangeMaps (open_string shut_string)
set_option linter.unusedVariables false
set_option linter.unusedSimpArgs false
set_option maxRecDepth 100000 in
set_option maxHeartbeats 2000000 in
theorem jsets_walk (n : Nat) (hn : n < 256) (a : Option Addr) (len cap : Nat) (f : Nat → De) (ga : Option Addr) (gl gc : Nat) (g : Jo.Gr) (lc : gl ≤ gc) (w : World) (h : IsD5s w a len f) (hg : IsG0 w ga gl g) :
    Calls Try.prog 5 #[.int .u8 n, .slice a len cap, .slice ga gl gc] w fun e w' => e = .returned (.bool true) ∧ Below w.heap.size w w' := by
  have PC := hid (jplay_c n hn a len cap f h)
  have HG0 := hid hg
  clear h hg
  go_enter Try.func5, Try.ntmps5
  go_wp2_with fail
  refine PC.out.mono ?_
  rintro _ w1 ⟨j, d, b1, b2, rj, r, on, c, rfl, hP, hgd, hl, hb1⟩
  obtain ⟨rfl, k, t, L, hH⟩ := hgd
  have HP := hid hP
  have HH := hid hH
  have HB1 := hid hb1
  have hN8 := hP.1.2.2
  generalize n % 56 + 8 = N at *
  clear hP hb1 PC hH
  go_wp2_with fail
  refine (jlive_c _).mono ?_
  rintro _ w2 ⟨rfl, hb2⟩
  have HP2 := hid (HP.out.later hb2)
  have HB2 := hid (HB1.out.trans (hb2.mono HB1.out.size))
  have FC := hid (few_c ga gl gc g w2 (HG0.out.later HB2.out) lc)
  clear hb2
  go_wp2_with fail
  refine FC.out.mono ?_
  rintro _ w3 ⟨fa, fc, rfl, hG3, hfc, hfn, hb3⟩
  have HP3 := hid (HP2.out.later hb3)
  have HB3 := hid (HB2.out.trans (hb3.mono HB2.out.size))
  have HG3 := hid hG3
  have RC := hid (reset_c HP3.out.1 fa _ fc _ hG3)
  generalize fewG g = g' at *
  clear hb3 hG3 FC
  go_wp2_with fail
  refine RC.out.mono ?_
  have hsec : ∀ i, Jo.Sct (on i) := fun i => HP3.out.1.2.1.sec i
  have HSEC := hid hsec
  clear hsec
  rintro e w4 (⟨hz, rfl, hb4⟩ | ⟨hz, hs, rfl, hb4⟩ | ⟨hz, hfit, htm, rfl, hJ4, ho4⟩)
  · have HP4 := hid (HP3.out.later hb4)
    have HB4 := hid (HB3.out.trans (hb4.mono HB3.out.size))
    have NC := hid (needs_c fa g'.length fc g' w4 (HG3.out.later hb4).isG)
    rw [hz] at NC
    have SC := hid (jsame_c HP4.out)
    clear hb4 RC
    go_wp2_with (first
      | (go_at_call 15; refine NC.out.mono ?_; rintro _ w5 ⟨rfl, hw5⟩; rw [hw5]; clear hw5)
      | (go_at_call 11; refine SC.out.mono ?_; rintro _ w6 ⟨rfl, hb6⟩; have HB6 := hid (HB4.out.trans (hb6.mono HB4.out.size)); clear hb6))
    go_ret
    exact ⟨rfl, HB6.out⟩
  · have HP4 := hid (HP3.out.later hb4)
    have HB4 := hid (HB3.out.trans (hb4.mono HB3.out.size))
    have NC := hid (needs_c fa g'.length fc g' w4 (HG3.out.later hb4).isG)
    have SC := hid (jsame_c HP4.out)
    have hnl := need_le g'
    generalize Jo.needF g' = nd at *
    have e1 : ((nd : Int) == 0) = false := by simp; omega
    clear hb4 RC hs
    go_wp2_with (first
      | (go_at_call 15; refine NC.out.mono ?_; rintro _ w5 ⟨rfl, hw5⟩; rw [hw5]; clear hw5)
      | (go_at_call 11; refine SC.out.mono ?_; rintro _ w6 ⟨rfl, hb6⟩; have HB6 := hid (HB4.out.trans (hb6.mono HB4.out.size)); clear hb6))
    go_ret
    exact ⟨by first | rfl | exact ret_bool (by simp), HB6.out⟩
  · have hok := (Jo.need_pos hz).1
    have htt : t ≠ 4294967295 := by
      have : best (vw on fun _ => none) 2 = (k, t) := HH.out.bst
      rw [this] at htm; exact htm
    have hH4 := HH.out.setTo hN8 HSEC.out htt hok hfit
    have hgr : grps (vw (setTo (vw on fun _ => none) N g') fun _ => none) N = [g'] := hH4.grps (fun i => hJ4.2.1.sec i)
    have GC := hid (groups_all_c hJ4)
    rw [hgr] at GC
    have HOKS := hid hH4.oks
    have HB4 := hid (HB3.out.trans (ho4.below HB3.out.size (fun k e => by rcases e with e | e <;> omega)))
    have HG4 := hid (HG3.out.kc (kc_disk HP3.out.1.2.1 ho4))
    clear hz hfit htm hJ4 ho4 hgr hH4 RC
    go_wp2_with (first
      | (go_at_call 13; refine GC.out.mono ?_; rintro _ w5 ⟨v5, rfl, hP5, hb5⟩; (obtain ⟨a5, c5, hv5, hG5, _⟩ := hP5.isGs (by simp) HOKS.out); subst hv5; (have HB5 := hid (HB4.out.trans (hb5.mono HB4.out.size))); (have hb6 : Below w5.heap.size w5 (w5.alloc (.cells #[.slice fa g'.length fc] 30)) := (Below.refl _ _).alloc (Nat.le_refl _) _); (have SC := hid (rsame_eq a5 (some ⟨w5.heap.size, 0, none⟩) 1 c5 1 [g'] _ (hG5.later hb6) (isGs_one (cap := fc) (HG4.out.later hb5)))); (have HB6 := hid (HB5.out.trans (hb6.mono HB5.out.size))); clear hb5 hb6 hP5 hG5)
      | (go_at_call 17; refine SC.out.mono ?_; rintro _ w7 ⟨rfl, hb7⟩; have HB7 := hid (HB6.out.trans (hb7.mono HB6.out.size)); clear hb7))
    go_ret
    exact ⟨rfl, HB7.out⟩
theorem journalSets_walk (n : Int) (wn : (Lit.int .u8 n).wf = true) (a : Option Addr) (len cap : Nat) (f : Nat → De) (ga : Option Addr) (gl gc : Nat) (g : Jo.Gr) (lc : gl ≤ gc) (nc : ga = none → gc = 0) (w : World) (h : IsD5s w a len f) (hg : IsG0 w ga gl g) :
    Calls Try.prog 5 #[.int .u8 n, .slice a len cap, .slice ga gl gc] w fun e w' => e = .returned (.bool true) ∧ Below w.heap.size w w' := by
  have hb := bd_u8 wn
  obtain ⟨m, rfl⟩ : ∃ m : Nat, n = (m : Int) := ⟨n.toNat, by omega⟩
  exact jsets_walk m (by omega) a len cap f ga gl gc g lc w h hg
/-! ### The row of JournalSets -/
theorem journalSets_own : ownKnob Try.prog.godebug = none := by kernel_rfl
theorem journalSets_laidOut : laidOutB Try.prog = true := by kernel_rfl
set_option maxRecDepth 100000 in
theorem journalSets_lifted (os : Os) (started : os.Started) (H : Type) (enc : TypeId × Value → H) :
    ReturnsInHanded {} Try.checked os 5 .any (Rows.journalSetsSpec.pre6 enc Try.prog Try.f5 Rows.journalSetsRow.domain false) (Rows.journalSetsSpec.post enc Try.prog Try.f5 false true false false) := by
  refine returnsInHanded_of_change (C := Try.checked) journalSets_own started (by kernel_rfl) Try.func5
    (ChangeSpec.witness6 (enc := enc) (C := Try.checked) false ⟨#[], #[.int .u8 0, .slice none 0 0, .slice none 0 0], []⟩ 8 (by kernel_rfl) (by kernel_rfl) (by kernel_rfl) (by kernel_rfl)) ?_
  intro W base args ds gs before hval0 hW hcnd _
  have hval : ∀ (j : Nat) t v, Try.f5.params[j]? = some t → args[j]? = some v → Value.okWide Try.prog W .any base t v := hval0
  have hW' := hW
  obtain ⟨p, q, hA0, hV, rfl, hfz, hnd⟩ := hW
  have hA : DataW.TrodAll enc Try.prog W 0 (fun _ => true) true Try.f5.params.toList args.toList ds p := hA0
  rw [Try.params5] at hA hval
  obtain ⟨v0, vs0, d0, ds0, p0, q0, hargs, rfl, rfl, h0, r0⟩ := trodAll_cons hA
  obtain ⟨v1, vs1, d1, ds1, p1, q1, rfl, rfl, rfl, h1, r1⟩ := trodAll_cons r0
  obtain ⟨v2, vs2, d2, ds2, p2, q2, rfl, rfl, rfl, h2, r2⟩ := trodAll_cons r1
  obtain ⟨rfl, rfl, rfl⟩ := trodAll_nil r2
  obtain rfl : args = #[v0, v1, v2] := by cases args; simp_all
  obtain ⟨rfl, rfl⟩ := trodVars_none hV
  obtain ⟨a0, rfl, rfl, rfl, w0⟩ := open_int Try.underlying5 (hval 0 5 v0 rfl rfl) h0
  have k1 := h1
  have lt1 : ∀ x ∈ p1, x.block < W.heap.size := by obtain ⟨m, hm⟩ := k1; exact DataW.trod_lt m _ _ _ hm
  obtain ⟨a1, len1, cap1, rfl⟩ := okWide_slice Try.underlying22 (hval 1 22 v1 rfl rfl)
  obtain ⟨z1, w1⟩ := isD5s_of Try.underlying22 h1
  have k2 := h2
  have lt2 : ∀ x ∈ p2, x.block < W.heap.size := by obtain ⟨m, hm⟩ := k2; exact DataW.trod_lt m _ _ _ hm
  obtain ⟨a2, len2, cap2, rfl⟩ := okWide_slice Try.underlying30 (hval 2 30 v2 rfl rfl)
  obtain ⟨z2, w2, lc2, nc2⟩ := isG_of h2
  clear hA0 hval0
  refine (journalSets_walk a0 w0 a1 len1 cap1 z1 a2 len2 cap2 z2 lc2 nc2 W w1 w2).mono fun e W' ⟨he, bel⟩ => ?_
  subst he
  exact ⟨_, rfl, _, _, _, [], _, [], hW', trodAll_mk1 (shut_bool Try.underlying4 _), (trodAll_cons_mk (shut_int Try.underlying5 w0) (trodAll_cons_mk (Below.trod journalSets_laidOut (by kernel_rfl) (of_decide_eq_true (by kernel_rfl)) k1 bel lt1) (trodAll_cons_mk (Below.trod journalSets_laidOut (by kernel_rfl) (of_decide_eq_true (by kernel_rfl)) k2 bel lt2) trodAll_mk0))), rfl, bel.frame _, fun h => by cases h⟩
theorem journalSets_over : Rows.journalSetsRow.holds Try.pinned (OpenSpec.ofChange Rows.journalSetsSpec) :=
  OpenClaim.holds_of_wide 5 Try.f5 rfl rfl rfl rfl rfl rfl rfl ⟨rfl, rfl, rfl, rfl, rfl⟩ rfl rfl rfl rfl rfl (by kernel_rfl) Try.func5 (by kernel_rfl)
    (of_decide_eq_true (by kernel_rfl)) (by unfold Func.isWrapper; first | (rw [if_pos (by decide +kernel)]; kernel_rfl) | (rw [if_neg (by decide +kernel)]; exact ⟨rfl, rfl⟩))
    (fun os started H enc _ => journalSets_lifted os started H enc)
/-- The statement. -/
theorem journalSets_holds : Rows.JournalSetsSaid := journalSets_over
#print axioms journalSets_holds

end Go.Proofs.Ytfmkgflhgapeoaa
