/-
  For every nodes and operations: a tree behind some operations, and the errors.
-/
import Derived.Test.YtloojakcknnilaaGreatSmBs
import Derived.Test.YtloojakcknnilaaGreatSmBp
namespace Go.Proofs.YtloojakcknnilaaGreat
open Go.RowKit Go.ChangeShapes Go.WideShapes Go.ChangeAt Go.Maps Go.Shelf
open Go.ChangeMaps (open_string shut_string)
set_option linter.unusedVariables false
set_option linter.unusedSimpArgs false
set_option maxRecDepth 20000
theorem FoldL_len (l : List Nd) (ops : List Rec) (h : l.length ≤ 43) : (FoldL l ops).1.length ≤ 43 ∧ (FoldL l ops).2.length = ops.length := by
 unfold FoldL
 split
 · have h1 := foldS_few l h ops ops.length
   have h2 := foldS_len l ops ops.length (Nat.le_refl _)
   rw [List.take_length] at h1 h2
   exact ⟨h1, h2⟩
 · exact ⟨by simp, by simp⟩
set_option maxHeartbeats 4000000 in
theorem treeFolds_walk (a0 : Option Addr) (len0 cap0 : Nat) (l0 : List Nd) (lz0 : l0.length = len0) (lc0 : len0 ≤ cap0) (a1 : Option Addr) (len1 cap1 : Nat) (ops : List Rec) (lz1 : ops.length = len1) (lc1 : len1 ≤ cap1) (w : World) (h0 : IsNs w a0 l0 ∧ ∀ x ∈ l0, x.Nil) (h1 : IsOs w a1 ops) :
   Calls Tryz.prog 4 #[.slice a0 len0 cap0, .slice a1 len1 cap1] w fun e w' => e = .returned (.bool true) ∧ Below w.heap.size w w' := by
 have FC := hid (few6_c a0 len0 cap0 l0 w lz0 lc0)
 have hI : TrI w a0 (l0.take 42) := TrI.take h0 42
 have hL : (l0.take 42).length ≤ 42 := by rw [List.length_take]; omega
 have LC := hid (fun W => tlive_c W)
 obtain ⟨l, hl⟩ : ∃ l, l = l0.take 42 := ⟨_, rfl⟩
 rw [← hl] at FC hI hL
 clear h0 lz0 lc0 hl
 by_cases q : 30 < len1
 · have q1 : (30 : Int) < (len1 : Int) := by omega
   have q2 : (30 : Int) ≤ (cap1 : Int) := by omega
   have e30 : (ops.take 30).length = 30 := by rw [List.length_take]; omega
   obtain ⟨⟨R, E⟩, HR⟩ : ∃ r, Hid (FoldL (l.map Nd.er) (ops.take 30) = r) := ⟨_, hid rfl⟩
   have LE := FoldL_len (l.map Nd.er) (ops.take 30) (by rw [List.length_map]; omega)
   rw [HR.out, e30] at LE
   have RL : Hid (R.length ≤ 43) := hid LE.1
   have EL : Hid (E.length = 30) := hid LE.2
   have TF : Hid (∀ W, Below w.heap.size w W → Calls Tryz.prog 21 #[.slice a0 l.length cap0, .slice a1 30 cap1] W (FoP W (R, E))) := hid (fun W hW => by
     have := foldI_c a0 a1 cap0 cap1 l (ops.take 30) W (hI.later hW) ((h1.later hW).take 30) (by omega) (by omega)
     rw [HR.out, e30] at this
     exact this)
   have RF : Hid (∀ W, Below w.heap.size w W → Calls Tryz.prog 22 #[.slice a0 l.length cap0, .slice a1 30 cap1] W (FoP W (R, E))) := hid (fun W hW => by
     have := rfoldI_c a0 a1 cap0 cap1 l (ops.take 30) W (hI.later hW) ((h1.later hW).take 30) (by omega) (by omega)
     rw [HR.out, e30] at this
     exact this)
   clear h1 lz1 LE e30 hI
   generalize l.length = n at *
   go_enter Tryz.func4, Tryz.ntmps4
   go_wp2_with (first
     | (go_at_call 23; refine (sameErrs_c b2 b3 d2 d3 E w6 (Z2.out.later V6.out) (Z3.out.later Y6.out) (by have := EL.out; omega)).mono ?_; rintro _ w7 ⟨rfl, hb7⟩; have K7 := hid (K6.out.trans (hb7.mono K6.out.size)); clear hb7)
     | (go_at_call 13; refine SC.out.mono ?_; rintro _ w6 ⟨rfl, hb6⟩; have K6 := hid (K5.out.trans (hb6.mono K5.out.size)); have V6 := hid (V5.out.trans (hb6.mono V5.out.size)); have Y6 := hid (Y5.out.trans (hb6.mono Y5.out.size)); clear hb6)
     | (go_at_call 12; refine (LC.out _).mono ?_; rintro _ w5 ⟨rfl, hb5⟩; have K5 := hid (K3.out.trans (hb5.mono K3.out.size)); have V5 := hid (V3.out.trans (hb5.mono V3.out.size)); have Y5 := hid hb5; have SC := hid (same6_c a2 a3 c2 c3 L2 L3 w5 (T2.out.1.later V5.out) (T3.out.1.later hb5) (E2.out.trans E3.out.symm) (by rw [er_len E2.out]; have := RL.out; omega) (fun x hx => by have := (T2.out.2 x hx).2.2; omega)); clear hb5)
     | (go_at_call 22; refine (RF.out w2 K2.out).mono ?_; rintro _ w3 ⟨a3, c3, L3, b3, d3, rfl, t3, e3, z3, hb3⟩; have T3 := hid t3; have E3 := hid e3; have Z3 := hid z3; have K3 := hid (K2.out.trans (hb3.mono K2.out.size)); have V3 := hid hb3; clear t3 e3 z3 hb3)
     | (go_at_call 21; refine (TF.out w (Below.refl _ _)).mono ?_; rintro _ w2 ⟨a2, c2, L2, b2, d2, rfl, t2, e2, z2, hb2⟩; have T2 := hid t2; have E2 := hid e2; have Z2 := hid z2; have K2 := hid hb2; clear t2 e2 z2 hb2)
     | (go_at_call 9; refine FC.out.mono ?_; rintro _ w1 ⟨rfl, hw1⟩; have hw2 := hw1.symm; clear hw1; subst hw2))
   go_ret
   exact ⟨by first | rfl | simp, K7.out⟩
 · have q1 : decide ((30 : Int) < (len1 : Int)) = false := decide_eq_false (by omega)
   obtain ⟨⟨R, E⟩, HR⟩ : ∃ r, Hid (FoldL (l.map Nd.er) ops = r) := ⟨_, hid rfl⟩
   have LE := FoldL_len (l.map Nd.er) ops (by rw [List.length_map]; omega)
   rw [HR.out] at LE
   have RL : Hid (R.length ≤ 43) := hid LE.1
   have EL : Hid (E.length ≤ 30) := hid (by have := LE.2; simp only at this; omega)
   have TF : Hid (∀ W, Below w.heap.size w W → Calls Tryz.prog 21 #[.slice a0 l.length cap0, .slice a1 len1 cap1] W (FoP W (R, E))) := hid (fun W hW => by
     have := foldI_c a0 a1 cap0 cap1 l ops W (hI.later hW) (h1.later hW) (by omega) (by omega)
     rw [HR.out, lz1] at this
     exact this)
   have RF : Hid (∀ W, Below w.heap.size w W → Calls Tryz.prog 22 #[.slice a0 l.length cap0, .slice a1 len1 cap1] W (FoP W (R, E))) := hid (fun W hW => by
     have := rfoldI_c a0 a1 cap0 cap1 l ops W (hI.later hW) (h1.later hW) (by omega) (by omega)
     rw [HR.out, lz1] at this
     exact this)
   clear h1 lz1 LE hI
   generalize l.length = n at *
   go_enter Tryz.func4, Tryz.ntmps4
   go_wp2_with (first
     | (go_at_call 23; refine (sameErrs_c b2 b3 d2 d3 E w6 (Z2.out.later V6.out) (Z3.out.later Y6.out) (by have := EL.out; omega)).mono ?_; rintro _ w7 ⟨rfl, hb7⟩; have K7 := hid (K6.out.trans (hb7.mono K6.out.size)); clear hb7)
     | (go_at_call 13; refine SC.out.mono ?_; rintro _ w6 ⟨rfl, hb6⟩; have K6 := hid (K5.out.trans (hb6.mono K5.out.size)); have V6 := hid (V5.out.trans (hb6.mono V5.out.size)); have Y6 := hid (Y5.out.trans (hb6.mono Y5.out.size)); clear hb6)
     | (go_at_call 12; refine (LC.out _).mono ?_; rintro _ w5 ⟨rfl, hb5⟩; have K5 := hid (K3.out.trans (hb5.mono K3.out.size)); have V5 := hid (V3.out.trans (hb5.mono V3.out.size)); have Y5 := hid hb5; have SC := hid (same6_c a2 a3 c2 c3 L2 L3 w5 (T2.out.1.later V5.out) (T3.out.1.later hb5) (E2.out.trans E3.out.symm) (by rw [er_len E2.out]; have := RL.out; omega) (fun x hx => by have := (T2.out.2 x hx).2.2; omega)); clear hb5)
     | (go_at_call 22; refine (RF.out w2 K2.out).mono ?_; rintro _ w3 ⟨a3, c3, L3, b3, d3, rfl, t3, e3, z3, hb3⟩; have T3 := hid t3; have E3 := hid e3; have Z3 := hid z3; have K3 := hid (K2.out.trans (hb3.mono K2.out.size)); have V3 := hid hb3; clear t3 e3 z3 hb3)
     | (go_at_call 21; refine (TF.out w (Below.refl _ _)).mono ?_; rintro _ w2 ⟨a2, c2, L2, b2, d2, rfl, t2, e2, z2, hb2⟩; have T2 := hid t2; have E2 := hid e2; have Z2 := hid z2; have K2 := hid hb2; clear t2 e2 z2 hb2)
     | (go_at_call 9; refine FC.out.mono ?_; rintro _ w1 ⟨rfl, hw1⟩; have hw2 := hw1.symm; clear hw1; subst hw2))
   go_ret
   exact ⟨by first | rfl | simp, K7.out⟩
/-! ### The row of TreeFolds -/
theorem treeFolds_own : ownKnob Tryz.prog.godebug = none := by kernel_rfl
theorem treeFolds_laidOut : laidOutB Tryz.prog = true := by kernel_rfl
set_option maxRecDepth 100000 in
theorem treeFolds_lifted (os : Os) (started : os.Started) (H : Type) (enc : TypeId × Value → H) :
   ReturnsInHanded {} Tryz.checked os 4 .any (Rows.treeFoldsSpec.pre6 enc Tryz.prog Tryz.f4 Rows.treeFoldsRow.domain false) (Rows.treeFoldsSpec.post enc Tryz.prog Tryz.f4 false true false false) := by
 refine returnsInHanded_of_change (C := Tryz.checked) treeFolds_own started (by kernel_rfl) Tryz.func4
   (ChangeSpec.witness6 (enc := enc) (C := Tryz.checked) false ⟨#[], #[.slice none 0 0, .slice none 0 0], []⟩ 8 (by kernel_rfl) (by kernel_rfl) (by kernel_rfl) (by kernel_rfl)) ?_
 intro W base args ds gs before hval0 hW hcnd _
 have hval : ∀ (j : Nat) t v, Tryz.f4.params[j]? = some t → args[j]? = some v → Value.okWide Tryz.prog W .any base t v := hval0
 have hW' := hW
 obtain ⟨p, q, hA0, hV, rfl, hfz, hnd⟩ := hW
 have hA : DataW.TrodAll enc Tryz.prog W 0 (fun _ => true) true Tryz.f4.params.toList args.toList ds p := hA0
 rw [Tryz.params4] at hA hval
 obtain ⟨v0, vs0, d0, ds0, p0, q0, hargs, rfl, rfl, h0, r0⟩ := trodAll_cons hA
 obtain ⟨v1, vs1, d1, ds1, p1, q1, rfl, rfl, rfl, h1, r1⟩ := trodAll_cons r0
 obtain ⟨rfl, rfl, rfl⟩ := trodAll_nil r1
 obtain rfl : args = #[v0, v1] := by cases args; simp_all
 obtain ⟨rfl, rfl⟩ := trodVars_none hV
 have k0 := h0
 have lt0 : ∀ x ∈ p0, x.block < W.heap.size := by obtain ⟨m, hm⟩ := k0; exact DataW.trod_lt m _ _ _ hm
 obtain ⟨a0, len0, cap0, rfl⟩ := okWide_slice Tryz.underlying22 (hval 0 22 v0 rfl rfl)
 obtain ⟨z0, lz0, w0, lc0⟩ := isNs_of Tryz.underlying22 h0
 have k1 := h1
 have lt1 : ∀ x ∈ p1, x.block < W.heap.size := by obtain ⟨m, hm⟩ := k1; exact DataW.trod_lt m _ _ _ hm
 obtain ⟨a1, len1, cap1, rfl⟩ := okWide_slice Tryz.underlying41 (hval 1 41 v1 rfl rfl)
 obtain ⟨z1, lz1, w1, lc1⟩ := isOs_of Tryz.underlying41 h1
 clear hA0 hval0
 refine (treeFolds_walk a0 len0 cap0 z0 lz0 lc0 a1 len1 cap1 z1 lz1 lc1 W w0 w1).mono fun e W' ⟨he, bel⟩ => ?_
 subst he
 exact ⟨_, rfl, _, _, _, [], _, [], hW', trodAll_mk1 (shut_bool Tryz.underlying4 _), (trodAll_cons_mk (Below.trod treeFolds_laidOut (by kernel_rfl) (of_decide_eq_true (by kernel_rfl)) k0 bel lt0) (trodAll_cons_mk (Below.trod treeFolds_laidOut (by kernel_rfl) (of_decide_eq_true (by kernel_rfl)) k1 bel lt1) trodAll_mk0)), rfl, bel.frame _, fun h => by cases h⟩
theorem treeFolds_over : Rows.treeFoldsRow.holds Tryz.pinned (OpenSpec.ofChange Rows.treeFoldsSpec) :=
 OpenClaim.holds_of_wide 4 Tryz.f4 rfl rfl rfl rfl rfl rfl rfl ⟨rfl, rfl, rfl, rfl, rfl⟩ rfl rfl rfl rfl rfl (by kernel_rfl) Tryz.func4 (by kernel_rfl)
   (of_decide_eq_true (by kernel_rfl)) (by unfold Func.isWrapper; first | (rw [if_pos (by decide +kernel)]; kernel_rfl) | (rw [if_neg (by decide +kernel)]; exact ⟨rfl, rfl⟩))
   (fun os started H enc _ => treeFolds_lifted os started H enc)
theorem treeFolds_holds : Rows.TreeFoldsSaid := treeFolds_over
#print axioms treeFolds_holds
end Go.Proofs.YtloojakcknnilaaGreat
