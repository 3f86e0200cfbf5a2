/-
  For every number, every deeds (the first twenty are done) and every group: behind an Append there is one group more; what has no room changes nothing.
-/
import Derived.Test.YtfmkgflhgapeoaaGN
namespace Go.Proofs.Ytfmkgflhgapeoaa
open Go.ChangeShapes Go.WideShapes Go.ChangeAt Go.RowKit Go.Maps
open Go.ChangeMaps (open_string shut_string)
set_option linter.unusedVariables false
set_option linter.unusedSimpArgs false
set_option maxRecDepth 100000 in
set_option maxHeartbeats 2000000 in
theorem jadds_walk (n : Nat) (hn : n < 256) (a : Option Addr) (len cap : Nat) (f : Nat → De) (ga : Option Addr) (gl gc : Nat) (g : Jo.Gr) (lc : gl ≤ gc) (w : World) (h : IsD5s w a len f) (hg : IsG0 w ga gl g) :
    Calls Try.prog 4 #[.int .u8 n, .slice a len cap, .slice ga gl gc] w fun e w' => e = .returned (.bool true) ∧ Below w.heap.size w w' := by
  have PC := hid (jplay_c n hn a len cap f h)
  have HG0 := hid hg
  clear h hg
  go_enter Try.func4, Try.ntmps4
  go_wp2_with fail
  refine PC.out.mono ?_
  rintro _ w1 ⟨j, d, b1, b2, rj, r, on, c, rfl, hP, hgd, hl, hb1⟩
  obtain ⟨rfl, k, t, L, hH⟩ := hgd
  have HP := hid hP
  have HH := hid hH
  have HB1 := hid hb1
  have hN8 := hP.1.2.2
  generalize n % 56 + 8 = N at *
  clear hP hb1 PC hH
  go_wp2_with fail
  refine (jlive_c _).mono ?_
  rintro _ w2 ⟨rfl, hb2⟩
  have HP2 := hid (HP.out.later hb2)
  have HB2 := hid (HB1.out.trans (hb2.mono HB1.out.size))
  have FC := hid (few_c ga gl gc g w2 (HG0.out.later HB2.out) lc)
  clear hb2
  go_wp2_with fail
  refine FC.out.mono ?_
  rintro _ w3 ⟨fa, fc, rfl, hG3, hfc, hfn, hb3⟩
  have HP3 := hid (HP2.out.later hb3)
  have HB3 := hid (HB2.out.trans (hb3.mono HB2.out.size))
  have HG3 := hid hG3
  have hsec : ∀ i, Jo.Sct (on i) := fun i => HP3.out.1.2.1.sec i
  have HSEC := hid hsec
  obtain ⟨q1, q2, _⟩ := HH.out.ar hsec
  have hgr0 : grps (vw on fun _ => none) N = L := HH.out.grps hsec
  have hv0 : vw on (fun _ => none) = on := rfl
  rw [← hv0] at q1 q2
  have G1 := hid (groups_all_c HP3.out.1)
  rw [hgr0] at G1
  have F1 : Hid (∀ W, Below w3.heap.size w3 W → Calls Try.prog 14 #[pB j] W fun e w' => e = .returned (.int .i64 (((2 + k * asz N + asz N : Nat) : Int) - ((2 + k * asz N + sumN L : Nat) : Int))) ∧ Below W.heap.size W w') := fun W hW => by
    have := free_c (HP3.out.1.later hW)
    rw [q1, q2] at this; exact this
  generalize fewG g = g' at *
  have NC : Hid (∀ W, Below w3.heap.size w3 W → Calls Try.prog 15 #[.slice fa g'.length fc] W fun e w' => e = .returned (.int .i64 (Jo.needF g' : Nat)) ∧ w' = W) := fun W hW => needs_c fa g'.length fc g' W (HG3.out.later hW).isG
  have AC : Hid (∀ W, Below w3.heap.size w3 W → Calls Try.prog 16 #[pB j, .slice fa g'.length fc] W (AddPost j d b1 b2 N on (fun _ => none) g' W)) := fun W hW => append_c (HP3.out.1.later hW) fa _ fc _ (HG3.out.later hW)
  have hnl := need_le g'
  have hLl := HH.out.len
  have hle := HH.out.le
  have hk1 := HH.out.k1
  have hfw := HH.out.few
  have haz : asz N ≤ 1023 := by unfold asz; omega
  have HQ1 := hid q1
  have HQ2 := hid q2
  have HOK0 := hid HH.out.oks
  obtain ⟨fr, hfr⟩ : ∃ fr : Nat, fr + sumN L = asz N := ⟨asz N - sumN L, by omega⟩
  have hfrI : (((2 + k * asz N + asz N : Nat) : Int) - ((2 + k * asz N + sumN L : Nat) : Int)) = (fr : Int) := by omega
  rw [hfrI] at F1
  clear hb3 hG3 FC hsec q1 q2 hgr0 hfrI
  go_wp2_with (first
    | (go_at_call 13; refine G1.out.mono ?_; rintro _ w4 ⟨v4, rfl, hP4, hb4⟩; (obtain ⟨a4, c4, hv4, hG4, hc4⟩ := hP4.isGs (by omega) HOK0.out); subst hv4; (have HB4 := hid hb4); (have HG4 := hid hG4); clear hb4 hP4 hG4)
    | (go_at_call 14; refine (F1.out _ HB4.out).mono ?_; rintro _ w5 ⟨rfl, hb5⟩; (have HG5 := hid (HG4.out.later hb5)); (have HB5 := hid (HB4.out.trans (hb5.mono HB4.out.size))); clear hb5)
    | (go_at_call 15; refine (NC.out _ HB5.out).mono ?_; rintro _ w6 ⟨rfl, hw6⟩; rw [hw6]; clear hw6))
  refine (AC.out _ HB5.out).mono ?_
  rintro e w7 (⟨hz, rfl, hb7⟩ | ⟨hz, hs, rfl, hb7⟩ | ⟨hz, hfit, rfl, hJ7, ho7⟩)
  · have HP7 := hid (HP3.out.later (HB5.out.trans (hb7.mono HB5.out.size)))
    have HB7 := hid (HB3.out.trans ((HB5.out.trans (hb7.mono HB5.out.size)).mono HB3.out.size))
    have G7 := hid (groups_all_c HP7.out.1)
    have S7 : Hid (∀ W, Below w7.heap.size w7 W → Calls Try.prog 11 #[pB j, pB rj] W fun e w' => e = .returned (.bool true) ∧ Below W.heap.size W w') := fun W hW => jsame_c (HP7.out.later hW)
    rw [hz]
    clear hb7 AC
    go_wp2_with (first
      | (go_at_call 13; refine G7.out.mono ?_; rintro _ w8 ⟨v8, rfl, hP8, hb8⟩; (obtain ⟨a8, c8, hv8⟩ := hP8.shape); subst hv8; (have HB8 := hid hb8); clear hb8 hP8)
      | (go_at_call 11; refine (S7.out _ HB8.out).mono ?_; rintro _ w9 ⟨rfl, hb9⟩; have HB9 := hid (HB7.out.trans ((HB8.out.trans (hb9.mono HB8.out.size)).mono HB7.out.size)); clear hb9))
    go_ret
    exact ⟨rfl, HB9.out⟩
  · have HP7 := hid (HP3.out.later (HB5.out.trans (hb7.mono HB5.out.size)))
    have HB7 := hid (HB3.out.trans ((HB5.out.trans (hb7.mono HB5.out.size)).mono HB3.out.size))
    have G7 := hid (groups_all_c HP7.out.1)
    have S7 : Hid (∀ W, Below w7.heap.size w7 W → Calls Try.prog 11 #[pB j, pB rj] W fun e w' => e = .returned (.bool true) ∧ Below W.heap.size W w') := fun W hW => jsame_c (HP7.out.later hW)
    have hgt : (fr : Int) < (Jo.needF g' : Nat) := by rw [HQ1.out, HQ2.out] at hs; omega
    generalize Jo.needF g' = nd at *
    have e1 : ((nd : Int) == 0) = false := by simp; omega
    clear hb7 AC hs
    go_wp2_with (first
      | (go_at_call 13; refine G7.out.mono ?_; rintro _ w8 ⟨v8, rfl, hP8, hb8⟩; (obtain ⟨a8, c8, hv8⟩ := hP8.shape); subst hv8; (have HB8 := hid hb8); clear hb8 hP8)
      | (go_at_call 11; refine (S7.out _ HB8.out).mono ?_; rintro _ w9 ⟨rfl, hb9⟩; have HB9 := hid (HB7.out.trans ((HB8.out.trans (hb9.mono HB8.out.size)).mono HB7.out.size)); clear hb9))
    go_ret
    exact ⟨by first | rfl | exact ret_bool (by simp), HB9.out⟩
  · have hok := (Jo.need_pos hz).1
    have hroom : sumN L + Jo.needF g' ≤ asz N := by rw [HQ1.out, HQ2.out] at hfit; omega
    have hH7 : Held (added (vw on fun _ => none) N g') N k t (L ++ [g']) := HH.out.added HSEC.out hok hroom
    have hs7 : ∀ i, Jo.Sct (added (vw on fun _ => none) N g' i) := fun i => hJ7.2.1.sec i
    have hgr : grps (vw (added (vw on fun _ => none) N g') fun _ => none) N = L ++ [g'] := hH7.grps hs7
    obtain ⟨s1, s2, _⟩ := hH7.ar hs7
    have hv7 : vw (added (vw on fun _ => none) N g') (fun _ => none) = added (vw on fun _ => none) N g' := rfl
    have hrest : ((2 + k * asz N + asz N : Nat) : Int) - ((2 + k * asz N + sumN (L ++ [g']) : Nat) : Int) = (fr : Int) - (Jo.needF g' : Nat) := by rw [sumN_snoc]; omega
    have G7 := hid (groups_all_c hJ7)
    rw [hgr] at G7
    have F7 : Hid (∀ W, Below w7.heap.size w7 W → Calls Try.prog 14 #[pB j] W fun e w' => e = .returned (.int .i64 ((fr : Int) - (Jo.needF g' : Nat))) ∧ Below W.heap.size W w') := fun W hW => by
      have := free_c (hJ7.later hW)
      rw [hv7, s1, s2, hrest] at this; exact this
    have HOKS := hid hH7.oks
    have hlow : ∀ q, (q = b1 ∨ q = b2) → w.heap.size ≤ q := fun q e => by rcases e with e | e <;> omega
    have HB7 := hid ((HB3.out.trans (HB5.out.mono HB3.out.size)).trans (ho7.below (Nat.le_trans HB3.out.size HB5.out.size) hlow))
    have HKC := hid (kc_disk (HP3.out.1.later HB5.out).2.1 ho7)
    have HG7 := hid ((HG3.out.later HB5.out).kc HKC.out)
    have HW7 := hid (IsGs.kc HG5.out HKC.out)
    have hln : (L ++ [g']).length = L.length + 1 := by simp
    have hfrn : Jo.needF g' ≤ fr := by omega
    generalize Jo.needF g' = nd at *
    have e1 : ((nd : Int) == 0) = false := by simp; omega
    clear hz hfit hJ7 ho7 hgr hH7 AC hs7 s1 s2 hv7 hrest hroom
    have T1 : Hid True := hid trivial
    go_wp2_with (first
      | (go_at_call 13; refine G7.out.mono ?_; rintro _ w8 ⟨v8, rfl, hP8, hb8⟩; (obtain ⟨a8, c8, hv8, hG8, hc8⟩ := hP8.isGs (by rw [hln]; omega) HOKS.out); rw [hln] at hv8 hG8 hc8; (obtain ⟨b8, o8, he8, _⟩ := hG8.2.2 (by omega)); subst he8; subst hv8; (have HB8 := hid hb8); (have hc8I : (L.length : Int) ≤ c8 := by omega); (have hc8J : (L.length : Int) + 1 ≤ c8 := by omega); (have hn1 : L.length + 1 - L.length = 1 := by omega); (have hc80 : ¬ c8 - L.length = 0 := by omega); (have S1 : Hid (Calls Try.prog 17 #[.slice (some ⟨b8, o8, none⟩) L.length c8, .slice a4 L.length c4] w8 fun e w' => e = .returned (.bool true) ∧ Below w8.heap.size w8 w') := rsame_eq _ _ _ _ _ L w8 (by (have q := hG8.front L.length (by omega)); rw [List.take_left'] at q; exact q; rfl) (HW7.out.later hb8)); (have HT8 := hid (hG8.tail L.length (by omega))); clear hb8 hP8 hG8)
      | (have _q := T2.out; clear _q; go_at_call 17; refine S2.out.mono ?_; rintro _ w10 ⟨rfl, hb10⟩; (have HB10 := hid (HB9a.out.trans (hb10.mono HB9a.out.size))); clear hb10 T2)
      | (have _q := T1.out; clear _q; go_at_call 17; refine S1.out.mono ?_; rintro _ w9 ⟨rfl, hb9⟩; clear T1; (have T2 : Hid True := hid trivial); (have HB9 := hid (HB8.out.trans (hb9.mono HB8.out.size))); (have hb9a : Below w9.heap.size w9 (w9.alloc (.cells #[.slice fa g'.length fc] 30)) := (Below.refl _ _).alloc (Nat.le_refl _) _); (have HB9a := hid (HB9.out.trans (hb9a.mono HB9.out.size))); (have S2 : Hid (Calls Try.prog 17 #[.slice (some ⟨b8, o8 + L.length, none⟩) 1 (c8 - L.length), .slice (some ⟨w9.heap.size, 0, none⟩) 1 1] (w9.alloc (.cells #[.slice fa g'.length fc] 30)) fun e w' => e = .returned (.bool true) ∧ Below (w9.alloc (.cells #[.slice fa g'.length fc] 30)).heap.size (w9.alloc (.cells #[.slice fa g'.length fc] 30)) w') := rsame_eq _ _ 1 _ _ [g'] _ (by (have q := (HT8.out.later hb9).later hb9a); rw [hn1, List.drop_left'] at q; exact q; rfl) (isGs_one (cap := fc) (HG7.out.later HB9.out))); clear hb9 hb9a)
      | (go_at_call 14; refine (F7.out _ HB10.out).mono ?_; rintro _ w11 ⟨rfl, hb11⟩; have HB11 := hid (HB7.out.trans ((HB10.out.trans (hb11.mono HB10.out.size)).mono HB7.out.size)); clear hb11))
    go_ret
    exact ⟨by first | rfl | exact ret_bool (by simp), HB11.out⟩
theorem journalAdds_walk (n : Int) (wn : (Lit.int .u8 n).wf = true) (a : Option Addr) (len cap : Nat) (f : Nat → De) (ga : Option Addr) (gl gc : Nat) (g : Jo.Gr) (lc : gl ≤ gc) (nc : ga = none → gc = 0) (w : World) (h : IsD5s w a len f) (hg : IsG0 w ga gl g) :
    Calls Try.prog 4 #[.int .u8 n, .slice a len cap, .slice ga gl gc] w fun e w' => e = .returned (.bool true) ∧ Below w.heap.size w w' := by
  have hb := bd_u8 wn
  obtain ⟨m, rfl⟩ : ∃ m : Nat, n = (m : Int) := ⟨n.toNat, by omega⟩
  exact jadds_walk m (by omega) a len cap f ga gl gc g lc w h hg
/-! ### The row of JournalAdds -/
theorem journalAdds_own : ownKnob Try.prog.godebug = none := by kernel_rfl
theorem journalAdds_laidOut : laidOutB Try.prog = true := by kernel_rfl
set_option maxRecDepth 100000 in
theorem journalAdds_lifted (os : Os) (started : os.Started) (H : Type) (enc : TypeId × Value → H) :
    ReturnsInHanded {} Try.checked os 4 .any (Rows.journalAddsSpec.pre6 enc Try.prog Try.f4 Rows.journalAddsRow.domain false) (Rows.journalAddsSpec.post enc Try.prog Try.f4 false true false false) := by
  refine returnsInHanded_of_change (C := Try.checked) journalAdds_own started (by kernel_rfl) Try.func4
    (ChangeSpec.witness6 (enc := enc) (C := Try.checked) false ⟨#[], #[.int .u8 0, .slice none 0 0, .slice none 0 0], []⟩ 8 (by kernel_rfl) (by kernel_rfl) (by kernel_rfl) (by kernel_rfl)) ?_
  intro W base args ds gs before hval0 hW hcnd _
  have hval : ∀ (j : Nat) t v, Try.f4.params[j]? = some t → args[j]? = some v → Value.okWide Try.prog W .any base t v := hval0
  have hW' := hW
  obtain ⟨p, q, hA0, hV, rfl, hfz, hnd⟩ := hW
  have hA : DataW.TrodAll enc Try.prog W 0 (fun _ => true) true Try.f4.params.toList args.toList ds p := hA0
  rw [Try.params4] at hA hval
  obtain ⟨v0, vs0, d0, ds0, p0, q0, hargs, rfl, rfl, h0, r0⟩ := trodAll_cons hA
  obtain ⟨v1, vs1, d1, ds1, p1, q1, rfl, rfl, rfl, h1, r1⟩ := trodAll_cons r0
  obtain ⟨v2, vs2, d2, ds2, p2, q2, rfl, rfl, rfl, h2, r2⟩ := trodAll_cons r1
  obtain ⟨rfl, rfl, rfl⟩ := trodAll_nil r2
  obtain rfl : args = #[v0, v1, v2] := by cases args; simp_all
  obtain ⟨rfl, rfl⟩ := trodVars_none hV
  obtain ⟨a0, rfl, rfl, rfl, w0⟩ := open_int Try.underlying5 (hval 0 5 v0 rfl rfl) h0
  have k1 := h1
  have lt1 : ∀ x ∈ p1, x.block < W.heap.size := by obtain ⟨m, hm⟩ := k1; exact DataW.trod_lt m _ _ _ hm
  obtain ⟨a1, len1, cap1, rfl⟩ := okWide_slice Try.underlying22 (hval 1 22 v1 rfl rfl)
  obtain ⟨z1, w1⟩ := isD5s_of Try.underlying22 h1
  have k2 := h2
  have lt2 : ∀ x ∈ p2, x.block < W.heap.size := by obtain ⟨m, hm⟩ := k2; exact DataW.trod_lt m _ _ _ hm
  obtain ⟨a2, len2, cap2, rfl⟩ := okWide_slice Try.underlying30 (hval 2 30 v2 rfl rfl)
  obtain ⟨z2, w2, lc2, nc2⟩ := isG_of h2
  clear hA0 hval0
  refine (journalAdds_walk a0 w0 a1 len1 cap1 z1 a2 len2 cap2 z2 lc2 nc2 W w1 w2).mono fun e W' ⟨he, bel⟩ => ?_
  subst he
  exact ⟨_, rfl, _, _, _, [], _, [], hW', trodAll_mk1 (shut_bool Try.underlying4 _), (trodAll_cons_mk (shut_int Try.underlying5 w0) (trodAll_cons_mk (Below.trod journalAdds_laidOut (by kernel_rfl) (of_decide_eq_true (by kernel_rfl)) k1 bel lt1) (trodAll_cons_mk (Below.trod journalAdds_laidOut (by kernel_rfl) (of_decide_eq_true (by kernel_rfl)) k2 bel lt2) trodAll_mk0))), rfl, bel.frame _, fun h => by cases h⟩
theorem journalAdds_over : Rows.journalAddsRow.holds Try.pinned (OpenSpec.ofChange Rows.journalAddsSpec) :=
  OpenClaim.holds_of_wide 4 Try.f4 rfl rfl rfl rfl rfl rfl rfl ⟨rfl, rfl, rfl, rfl, rfl⟩ rfl rfl rfl rfl rfl (by kernel_rfl) Try.func4 (by kernel_rfl)
    (of_decide_eq_true (by kernel_rfl)) (by unfold Func.isWrapper; first | (rw [if_pos (by decide +kernel)]; kernel_rfl) | (rw [if_neg (by decide +kernel)]; exact ⟨rfl, rfl⟩))
    (fun os started H enc _ => journalAdds_lifted os started H enc)
/-- The statement. -/
theorem journalAdds_holds : Rows.JournalAddsSaid := journalAdds_over
#print axioms journalAdds_holds

end Go.Proofs.Ytfmkgflhgapeoaa
