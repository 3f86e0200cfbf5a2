/-
  For every nodes, twice: when two trees are the same.
-/
import Derived.Test.YtgbdplammniidaaGreatSrBw
import Derived.Test.YtgbdplammniidaaGreatSrBx
namespace Go.Proofs.YtgbdplammniidaaGreat
open Go.RowKit Go.ChangeShapes Go.WideShapes Go.ChangeAt Go.Maps Go.Shelf
set_option linter.unusedVariables false
set_option linter.unusedSimpArgs false
set_option maxRecDepth 100000
theorem Yes.by {p : Prop} {r : Bool} (hr : r = true ↔ p) {w : World} {e : Ending} {w' : World} (h : Yes p w e w') : e = .returned (.bool r) ∧ Below w.heap.size w w' := by
 obtain ⟨⟨q, rfl, hq⟩, hb⟩ := h
 have : q = r := by rw [Bool.eq_iff_iff, hq, hr]
 rw [this]
 exact ⟨rfl, hb⟩
set_option maxHeartbeats 4000000 in
theorem treeSame_walk (a0 : Option Addr) (len0 cap0 : Nat) (l0 : List Nd) (lz0 : l0.length = len0) (lc0 : len0 ≤ cap0) (a1 : Option Addr) (len1 cap1 : Nat) (l1 : List Nd) (lz1 : l1.length = len1) (lc1 : len1 ≤ cap1) (w : World) (h0 : IsNs w a0 l0 ∧ ∀ x ∈ l0, x.Nil) (h1 : IsNs w a1 l1 ∧ ∀ x ∈ l1, x.Nil) :
   Calls Tryz.prog 3 #[.slice a0 len0 cap0, .slice a1 len1 cap1] w fun e w' => e = .returned (.bool true) ∧ Below w.heap.size w w' := by
 have hI : IsNs w a0 (l0.take 42) := (TrI.take h0 42).1
 have hJ : IsNs w a1 (l1.take 42) := (TrI.take h1 42).1
 have hL : (l0.take 42).length ≤ 42 := by rw [List.length_take]; omega
 have hM : (l1.take 42).length ≤ 42 := by rw [List.length_take]; omega
 have FC := hid (fun W => few6_c a0 len0 cap0 l0 W lz0 lc0)
 have FD := hid (fun W => few6_c a1 len1 cap1 l1 W lz1 lc1)
 generalize l0.take 42 = A at *
 generalize l1.take 42 = B at *
 clear h0 h1 lz0 lc0 lz1 lc1
 have LC := hid (fun W => tlive_c W)
 obtain ⟨r, hr⟩ : ∃ r : Bool, (r = true ↔ A.map Nd.er = B.map Nd.er) := by classical exact ⟨decide (A.map Nd.er = B.map Nd.er), decide_eq_true_iff⟩
 have S1 : Hid (∀ W, Below w.heap.size w W → Calls Tryz.prog 8 #[.slice a0 A.length cap0, .slice a1 B.length cap1] W fun e w' => e = .returned (.bool r) ∧ Below W.heap.size W w') := hid (fun W hW => (tSameL_c a0 a1 cap0 cap1 A B W (hI.later hW) (hJ.later hW) (by omega) (by omega)).mono (fun e w2 hh => hh.by hr))
 have S2 : Hid (∀ W, Below w.heap.size w W → Calls Tryz.prog 9 #[.slice a0 A.length cap0, .slice a1 B.length cap1] W fun e w' => e = .returned (.bool r) ∧ Below W.heap.size W w') := hid (fun W hW => (rsame_c a0 a1 cap0 cap1 A B W (hI.later hW) (hJ.later hW)).mono (fun e w2 hh => hh.by hr))
 have S3 : Hid (∀ W, Below w.heap.size w W → Calls Tryz.prog 8 #[.slice a1 B.length cap1, .slice a0 A.length cap0] W fun e w' => e = .returned (.bool r) ∧ Below W.heap.size W w') := hid (fun W hW => (tSameL_c a1 a0 cap1 cap0 B A W (hJ.later hW) (hI.later hW) (by omega) (by omega)).mono (fun e w2 hh => hh.by (hr.trans eq_comm)))
 have S4 : Hid (∀ W, Below w.heap.size w W → Calls Tryz.prog 8 #[.slice a0 A.length cap0, .slice a0 A.length cap0] W fun e w' => e = .returned (.bool true) ∧ Below W.heap.size W w') := hid (fun W hW => (tSameL_c a0 a0 cap0 cap0 A A W (hI.later hW) (hI.later hW) (by omega) (by omega)).mono (fun e w2 hh => hh.by ⟨fun _ => rfl, fun _ => rfl⟩))
 clear hI hJ hL hM hr
 generalize A.length = n at *
 generalize B.length = m at *
 have W0 := hid (Below.refl w.heap.size w)
 go_enter Tryz.func3, Tryz.ntmps3
 cases r <;> go_wp2_with (first
   | (have _q := W5.out; clear _q; go_at_call 8; refine (S4.out _ W5.out).mono ?_; rintro _ w6 ⟨rfl, hb6⟩; have W6 := hid (W5.out.trans (hb6.mono W5.out.size)); clear hb6)
   | (have _q := W4.out; clear _q; go_at_call 8; refine (S3.out _ W4.out).mono ?_; rintro _ w5 ⟨rfl, hb5⟩; have W5 := hid (W4.out.trans (hb5.mono W4.out.size)); clear hb5)
   | (have _q := W3.out; clear _q; go_at_call 8; refine (S1.out _ W3.out).mono ?_; rintro _ w4 ⟨rfl, hb4⟩; have W4 := hid (W3.out.trans (hb4.mono W3.out.size)); clear hb4)
   | (have _q := W2.out; clear _q; go_at_call 9; refine (S2.out _ W2.out).mono ?_; rintro _ w3 ⟨rfl, hb3⟩; have W3 := hid (W2.out.trans (hb3.mono W2.out.size)); clear hb3)
   | (have _q := W1.out; clear _q; go_at_call 8; refine (S1.out _ W1.out).mono ?_; rintro _ w2 ⟨rfl, hb2⟩; have W2 := hid (W1.out.trans (hb2.mono W1.out.size)); clear hb2)
   | (go_at_call 7; refine (LC.out _).mono ?_; rintro _ w1 ⟨rfl, hb1⟩; have W1 := hid (W0.out.trans (hb1.mono W0.out.size)); clear hb1)
   | (go_at_call 6; refine (FD.out _).mono ?_; rintro _ v1 ⟨rfl, hw1⟩; have hw2 := hw1.symm; clear hw1; subst hw2)
   | (go_at_call 6; refine (FC.out _).mono ?_; rintro _ v1 ⟨rfl, hw1⟩; have hw2 := hw1.symm; clear hw1; subst hw2))
 all_goals (go_ret; exact ⟨by first | rfl | simp, W6.out⟩)
/-! ### The row of TreeSame -/
theorem treeSame_own : ownKnob Tryz.prog.godebug = none := by kernel_rfl
theorem treeSame_laidOut : laidOutB Tryz.prog = true := by kernel_rfl
set_option maxRecDepth 100000 in
theorem treeSame_lifted (os : Os) (started : os.Started) (H : Type) (enc : TypeId × Value → H) :
   ReturnsInHanded {} Tryz.checked os 3 .any (Rows.treeSameSpec.pre6 enc Tryz.prog Tryz.f3 Rows.treeSameRow.domain false) (Rows.treeSameSpec.post enc Tryz.prog Tryz.f3 false true false false) := by
 refine returnsInHanded_of_change (C := Tryz.checked) treeSame_own started (by kernel_rfl) Tryz.func3
   (ChangeSpec.witness6 (enc := enc) (C := Tryz.checked) false ⟨#[], #[.slice none 0 0, .slice none 0 0], []⟩ 8 (by kernel_rfl) (by kernel_rfl) (by kernel_rfl) (by kernel_rfl)) ?_
 intro W base args ds gs before hval0 hW hcnd _
 have hval : ∀ (j : Nat) t v, Tryz.f3.params[j]? = some t → args[j]? = some v → Value.okWide Tryz.prog W .any base t v := hval0
 have hW' := hW
 obtain ⟨p, q, hA0, hV, rfl, hfz, hnd⟩ := hW
 have hA : DataW.TrodAll enc Tryz.prog W 0 (fun _ => true) true Tryz.f3.params.toList args.toList ds p := hA0
 rw [Tryz.params3] at hA hval
 obtain ⟨v0, vs0, d0, ds0, p0, q0, hargs, rfl, rfl, h0, r0⟩ := trodAll_cons hA
 obtain ⟨v1, vs1, d1, ds1, p1, q1, rfl, rfl, rfl, h1, r1⟩ := trodAll_cons r0
 obtain ⟨rfl, rfl, rfl⟩ := trodAll_nil r1
 obtain rfl : args = #[v0, v1] := by cases args; simp_all
 obtain ⟨rfl, rfl⟩ := trodVars_none hV
 have k0 := h0
 have lt0 : ∀ x ∈ p0, x.block < W.heap.size := by obtain ⟨m, hm⟩ := k0; exact DataW.trod_lt m _ _ _ hm
 obtain ⟨a0, len0, cap0, rfl⟩ := okWide_slice Tryz.underlying22 (hval 0 22 v0 rfl rfl)
 obtain ⟨z0, lz0, w0, lc0⟩ := isNs_of Tryz.underlying22 h0
 have k1 := h1
 have lt1 : ∀ x ∈ p1, x.block < W.heap.size := by obtain ⟨m, hm⟩ := k1; exact DataW.trod_lt m _ _ _ hm
 obtain ⟨a1, len1, cap1, rfl⟩ := okWide_slice Tryz.underlying22 (hval 1 22 v1 rfl rfl)
 obtain ⟨z1, lz1, w1, lc1⟩ := isNs_of Tryz.underlying22 h1
 clear hA0 hval0
 refine (treeSame_walk a0 len0 cap0 z0 lz0 lc0 a1 len1 cap1 z1 lz1 lc1 W w0 w1).mono fun e W' ⟨he, bel⟩ => ?_
 subst he
 exact ⟨_, rfl, _, _, _, [], _, [], hW', trodAll_mk1 (shut_bool Tryz.underlying4 _), (trodAll_cons_mk (Below.trod treeSame_laidOut (by kernel_rfl) (of_decide_eq_true (by kernel_rfl)) k0 bel lt0) (trodAll_cons_mk (Below.trod treeSame_laidOut (by kernel_rfl) (of_decide_eq_true (by kernel_rfl)) k1 bel lt1) trodAll_mk0)), rfl, bel.frame _, fun h => by cases h⟩
theorem treeSame_over : Rows.treeSameRow.holds Tryz.pinned (OpenSpec.ofChange Rows.treeSameSpec) :=
 OpenClaim.holds_of_wide 3 Tryz.f3 rfl rfl rfl rfl rfl rfl rfl ⟨rfl, rfl, rfl, rfl, rfl⟩ rfl rfl rfl rfl rfl (by kernel_rfl) Tryz.func3 (by kernel_rfl)
   (of_decide_eq_true (by kernel_rfl)) (by unfold Func.isWrapper; first | (rw [if_pos (by decide +kernel)]; kernel_rfl) | (rw [if_neg (by decide +kernel)]; exact ⟨rfl, rfl⟩))
   (fun os started H enc _ => treeSame_lifted os started H enc)
theorem treeSame_holds : Rows.TreeSameSaid := treeSame_over
#print axioms treeSame_holds
end Go.Proofs.YtgbdplammniidaaGreat
