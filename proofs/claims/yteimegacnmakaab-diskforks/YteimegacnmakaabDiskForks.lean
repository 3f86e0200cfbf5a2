/-
  For every deeds (the first sixty are done), and more of them on a Fork (the first twenty): the disk and the document's answer hold the same, and so do their Forks.
-/
import Derived.Test.YteimegacnmakaabRFork
namespace Go.Proofs.Yteimegacnmakaab
open Go.ChangeShapes Go.WideShapes Go.ChangeAt Go.RowKit Go.Maps
open Go.ChangeMaps (open_string shut_string)
set_option linter.unusedVariables false
set_option linter.unusedSimpArgs false
set_option maxRecDepth 100000 in
set_option maxHeartbeats 2000000 in
theorem diskForks_walk (a : Option Addr) (len cap : Nat) (f : Nat → Dd) (a2 : Option Addr) (len2 cap2 : Nat) (f2 : Nat → Dd) (w : World) (h : IsDs w a len f) (h2 : IsDs w a2 len2 f2) :
    Calls Try.prog 8 #[.slice a len cap, .slice a2 len2 cap2] w fun e w' => e = .returned (.bool true) ∧ Below w.heap.size w w' := by
  have PC := hid (play_c 5 (by omega) a len cap f h)
  have H2 := hid h2
  have hlm : len2 ≤ maxLen := h2.1
  unfold maxLen at hlm
  clear h h2
  go_enter Try.func8, Try.ntmps8
  go_wp2_with fail
  refine PC.out.mono ?_
  rintro _ w1 ⟨d, b1, b2, r, on, c, rfl, hP, hge, hb1⟩
  have HP := hid hP
  have HB1 := hid hb1
  clear hP hb1 PC hge
  go_wp2_with fail
  refine (dlive_c _).mono ?_
  rintro _ w2 ⟨rfl, hb2⟩
  have HP2 := hid (HP.out.later hb2)
  have HB2 := hid (HB1.out.trans (hb2.mono HB1.out.size))
  clear hb2 HP
  go_wp2_with fail
  refine (fork_c HP2.out.1).mono ?_
  rintro _ w3 ⟨d', p1, p2, rfl, hD3, hge3, hb3⟩
  obtain ⟨_, L, B, hR2, hon, hc⟩ := HP2.out
  have HR3 := hid (hR2.later hb3)
  have HD3 := hid hD3
  have HB3 := hid hb3
  have HON := hid hon
  have HC := hid hc
  clear hR2 hon hc hD3 hb3
  go_wp2_with (go_at_call 26; refine (rfork_c HR3.out).mono ?_; rintro _ w4 ⟨r', rfl, hR4, hge4, hb4⟩)
  have HP4 : Hid (Pair w4 d' p1 p2 r' 6 on c) := ⟨HD3.out.later hb4, L, B, hR4, HON.out, HC.out⟩
  have HB4 := hid (HB3.out.trans (hb4.mono HB3.out.size))
  have hr' : w2.heap.size ≤ r' := Nat.le_trans HB3.out.size hge4
  clear hR4 hb4 hge4
  go_loopw [10] (fun i wr => ∃ (m : Nat) (on : Int → Sec) (c : Int → Option Sec), m ≤ len2 ∧ m ≤ 20 ∧ i = .int .i64 m ∧ Hid (Pair wr d' p1 p2 r' 6 on c) ∧ Hid (Below w2.heap.size w2 wr)) (fun i _ => (20 - intOf i).toNat)
  case atStart => exact ⟨0, _, _, by omega, by omega, rfl, HP4, HB4⟩
  case round =>
    obtain ⟨m, on', c', hm, hm20, rfl, HPf, HB⟩ := hrel
    have END : Hid (Calls Try.prog 16 #[pD d, pD r] wr (fun e w' => e = .returned (.bool true) ∧ Below wr.heap.size wr w')) := same_c (HP2.out.later HB.out)
    by_cases hml : m < len2
    · by_cases hm6 : m < 20
      · obtain ⟨b, off, rfl, hrg, hwf, hz⟩ := (H2.out.later (HB2.out.trans (HB.out.mono HB2.out.size))).2 m hml
        have DC := hid (do_c HPf.out (f2 m) hwf hz)
        unfold Dd.val at DC
        have HR := hid hrg
        have k0 : wr.cell? ⟨b, off + m * 4, none⟩ = some (.int .i64 (f2 m).k) := HR.out 0 _ rfl
        have k1 : wr.cell? ⟨b, off + m * 4 + 1, none⟩ = some (.int .i64 (f2 m).i) := HR.out 1 _ rfl
        have k2 : wr.cell? ⟨b, off + m * 4 + 2, none⟩ = some (.int .u8 (f2 m).c) := HR.out 2 _ rfl
        have k3 : wr.cell? ⟨b, off + m * 4 + 3, none⟩ = some (.slice (f2 m).a (f2 m).len (f2 m).cap) := HR.out 3 _ rfl
        clear hrg hwf hz HR END
        generalize (f2 m).k = xk at *
        generalize (f2 m).i = xi at *
        generalize (f2 m).c = xc at *
        generalize (f2 m).a = xa at *
        generalize (f2 m).len = xl at *
        generalize (f2 m).cap = xp at *
        have hmI : (m : Int) < (len2 : Int) := by omega
        go_wp2_with (go_at_call 27; refine DC.out.mono ?_; rintro _ w5 ⟨rfl, ⟨on5, c5, hP5⟩, ho5⟩)
        go_roundw
        case rel => exact ⟨m + 1, on5, c5, by omega, by omega, by go_num, hP5, HB.out.trans (ho5.below HB.out.size (fun k e => by rcases e with e | e | e <;> omega))⟩
        case measure => simp [intOf]; omega
      · go_wp2_with (first
          | (go_at_call 16; refine E2.out.mono ?_; rintro _ w7 ⟨rfl, hb7⟩)
          | (go_at_call 16; refine END.out.mono ?_; rintro _ w6 ⟨rfl, hb6⟩; have E2 := hid (same_c (HPf.out.later hb6))))
        go_ret
        exact ⟨rfl, ((HB2.out.trans (HB.out.mono HB2.out.size)).trans (hb6.mono (Nat.le_trans HB2.out.size HB.out.size))).trans (hb7.mono (Nat.le_trans (Nat.le_trans HB2.out.size HB.out.size) hb6.size))⟩
    · go_wp2_with (first
        | (go_at_call 16; refine E2.out.mono ?_; rintro _ w7 ⟨rfl, hb7⟩)
        | (go_at_call 16; refine END.out.mono ?_; rintro _ w6 ⟨rfl, hb6⟩; have E2 := hid (same_c (HPf.out.later hb6))))
      go_ret
      exact ⟨rfl, ((HB2.out.trans (HB.out.mono HB2.out.size)).trans (hb6.mono (Nat.le_trans HB2.out.size HB.out.size))).trans (hb7.mono (Nat.le_trans (Nat.le_trans HB2.out.size HB.out.size) hb6.size))⟩
/-! ### The row of DiskForks -/
theorem diskForks_own : ownKnob Try.prog.godebug = none := by kernel_rfl
theorem diskForks_laidOut : laidOutB Try.prog = true := by kernel_rfl
set_option maxRecDepth 100000 in
theorem diskForks_lifted (os : Os) (started : os.Started) (H : Type) (enc : TypeId × Value → H) :
    ReturnsInHanded {} Try.checked os 8 .any (Rows.diskForksSpec.pre6 enc Try.prog Try.f8 Rows.diskForksRow.domain false) (Rows.diskForksSpec.post enc Try.prog Try.f8 false true false false) := by
  refine returnsInHanded_of_change (C := Try.checked) diskForks_own started (by kernel_rfl) Try.func8
    (ChangeSpec.witness6 (enc := enc) (C := Try.checked) false ⟨#[], #[.slice none 0 0, .slice none 0 0], []⟩ 8 (by kernel_rfl) (by kernel_rfl) (by kernel_rfl) (by kernel_rfl)) ?_
  intro W base args ds gs before hval0 hW hcnd _
  have hval : ∀ (j : Nat) t v, Try.f8.params[j]? = some t → args[j]? = some v → Value.okWide Try.prog W .any base t v := hval0
  have hW' := hW
  obtain ⟨p, q, hA0, hV, rfl, hfz, hnd⟩ := hW
  have hA : DataW.TrodAll enc Try.prog W 0 (fun _ => true) true Try.f8.params.toList args.toList ds p := hA0
  rw [Try.params8] at hA hval
  obtain ⟨v0, vs0, d0, ds0, p0, q0, hargs, rfl, rfl, h0, r0⟩ := trodAll_cons hA
  obtain ⟨v1, vs1, d1, ds1, p1, q1, rfl, rfl, rfl, h1, r1⟩ := trodAll_cons r0
  obtain ⟨rfl, rfl, rfl⟩ := trodAll_nil r1
  obtain rfl : args = #[v0, v1] := by cases args; simp_all
  obtain ⟨rfl, rfl⟩ := trodVars_none hV
  have k0 := h0
  have lt0 : ∀ x ∈ p0, x.block < W.heap.size := by obtain ⟨m, hm⟩ := k0; exact DataW.trod_lt m _ _ _ hm
  obtain ⟨a0, len0, cap0, rfl⟩ := okWide_slice Try.underlying38 (hval 0 38 v0 rfl rfl)
  obtain ⟨z0, w0⟩ := isDs_of Try.underlying38 h0
  have k1 := h1
  have lt1 : ∀ x ∈ p1, x.block < W.heap.size := by obtain ⟨m, hm⟩ := k1; exact DataW.trod_lt m _ _ _ hm
  obtain ⟨a1, len1, cap1, rfl⟩ := okWide_slice Try.underlying38 (hval 1 38 v1 rfl rfl)
  obtain ⟨z1, w1⟩ := isDs_of Try.underlying38 h1
  clear hA0 hval0
  refine (diskForks_walk a0 len0 cap0 z0 a1 len1 cap1 z1 W w0 w1).mono fun e W' ⟨he, bel⟩ => ?_
  subst he
  exact ⟨_, rfl, _, _, _, [], _, [], hW', trodAll_mk1 (shut_bool Try.underlying4 _), (trodAll_cons_mk (Below.trod diskForks_laidOut (by kernel_rfl) (of_decide_eq_true (by kernel_rfl)) k0 bel lt0) (trodAll_cons_mk (Below.trod diskForks_laidOut (by kernel_rfl) (of_decide_eq_true (by kernel_rfl)) k1 bel lt1) trodAll_mk0)), rfl, bel.frame _, fun h => by cases h⟩
theorem diskForks_over : Rows.diskForksRow.holds Try.pinned (OpenSpec.ofChange Rows.diskForksSpec) :=
  OpenClaim.holds_of_wide 8 Try.f8 rfl rfl rfl rfl rfl rfl rfl ⟨rfl, rfl, rfl, rfl, rfl⟩ rfl rfl rfl rfl rfl (by kernel_rfl) Try.func8 (by kernel_rfl)
    (of_decide_eq_true (by kernel_rfl)) (by unfold Func.isWrapper; first | (rw [if_pos (by decide +kernel)]; kernel_rfl) | (rw [if_neg (by decide +kernel)]; exact ⟨rfl, rfl⟩))
    (fun os started H enc _ => diskForks_lifted os started H enc)
/-- The statement. -/
theorem diskForks_holds : Rows.DiskForksSaid := diskForks_over
#print axioms diskForks_holds

end Go.Proofs.Yteimegacnmakaab
