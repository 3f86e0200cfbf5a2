/-
  For every depth: a tree of directories is moved whole.
-/
import Derived.Test.YtgbdplammniidaaStBt
import Derived.ChangeOld
import Derived.Below
namespace Go.Proofs.Ytgbdplammniidaa
open Go.RowKit Go.ChangeShapes Go.WideShapes Go.ChangeAt Go.Maps Go.Shelf
set_option linter.unusedVariables false
set_option linter.unusedSimpArgs false
set_option maxRecDepth 100000
set_option maxHeartbeats 8000000 in
theorem topMoved_walk (d0 : Int) (w0 : (Lit.int .u8 d0).wf = true) (t0 : Int) (w1 : (Lit.int .u8 t0).wf = true) (w : World) :
   Calls Try.prog 3 #[.int .u8 d0, .int .u8 t0] w fun e w' => e = .returned (.bool true) ∧ Below w.heap.size w w' := by
 have hd : 0 ≤ d0 ∧ d0 < 256 := by simp [Lit.wf, IntKind.min, IntKind.max, IntKind.signed, IntKind.bits] at w0; omega
 have ht : 0 ≤ t0 ∧ t0 < 256 := by simp [Lit.wf, IntKind.min, IntKind.max, IntKind.signed, IntKind.bits] at w1; omega
 clear w0 w1
 obtain ⟨D, hD⟩ : ∃ D : Nat, (D : Int) = d0 % 6 + 1 := ⟨(d0 % 6 + 1).toNat, by omega⟩
 obtain ⟨J, hJ⟩ : ∃ J : Nat, (J : Int) = t0 % 5 + 1 := ⟨(t0 % 5 + 1).toNat, by omega⟩
 have D1 : 1 ≤ D := by omega
 have D6 : D ≤ 6 := by omega
 have J1 : 1 ≤ J := by omega
 have J5 : J ≤ 5 := by omega
 have ED := hid hD
 have EJ := hid hJ
 clear hD hJ
 have NC := hid (tNew_c w)
 go_enter Try.func3, Try.ntmps3
 go_wp2_with (go_at_call 4; refine NC.out.mono ?_; rintro _ w1 ⟨a0, c0, rfl, ht0, hb0⟩; have T0 := hid (show TrE w1 a0 newL (tA 0) from ⟨ht0, rfl⟩); have B0 := hid hb0; clear ht0 hb0)
 clear NC
 go_loopg [5, 6, 7, 8] D (fun gk v5 v6 v7 v8 wr => ∃ (m : Nat) (a : Option Addr) (c : Nat) (L : List Nd) (wh : ByteArray), m + gk = D ∧ v5 = .slice a L.length c ∧ v6 = .int .u32 (atA m) ∧ v7 = .string wh ∧ v8 = .int .i64 m ∧ Hid (TrE wr a L (tA m)) ∧ Hid (wh.data.toList = rep 97 m) ∧ Hid (Below w.heap.size w wr))
 case atStart => exact ⟨0, a0, c0, newL, ⟨#[]⟩, by omega, rfl, rfl, rfl, rfl, T0, hid rfl, B0⟩
 case round =>
   clear T0 B0
   obtain ⟨m, a, c, L, wh, hm, rfl, rfl, rfl, rfl, T1, W1, B1⟩ := hrel
   by_cases hlt : m < D
   · have hltI : (m : Int) < d0 % 6 + 1 := by have := ED.out; omega
     have AC := hid (mkA_c c m wr (by omega) T1.out)
     have z1 : wh.size = 2 * m := by rw [← rep_len 97 m, ← W1.out]; rfl
     have hz3 : wh.size ≤ 12 := by omega
     clear z1
     go_wp2_with (go_at_call 5; refine AC.out.mono ?_; rintro _ w2 ⟨a2, c2, L2, rfl, t2, hb2⟩; have T2 := hid t2; have B2 := hid (B1.out.trans (hb2.mono B1.out.size)); clear t2 hb2)
     go_roundg (gk - 1)
     case measure => omega
     case rel => exact ⟨m + 1, a2, c2, L2, _, by omega, rfl, by first | rfl | go_num, rfl, by go_num, T2, hid (by rw [app_d, W1.out]; rfl), B2⟩
   · have hge : ¬ (m : Int) < d0 % 6 + 1 := by have := ED.out; omega
     obtain rfl : m = D := by omega
     go_wp2
     go_loopg [5, 6, 11, 12] J (fun gk v5 v6 v7 v8 wr => ∃ (m' : Nat) (a : Option Addr) (c : Nat) (L : List Nd) (th : ByteArray), m' + gk = J ∧ v5 = .slice a L.length c ∧ v6 = .int .u32 (atB m') ∧ v7 = .string th ∧ v8 = .int .i64 m' ∧ Hid (TrE wr a L (tB m m')) ∧ Hid (th.data.toList = rep 98 m') ∧ Hid (Below w.heap.size w wr))
     case atStart => exact ⟨0, a, c, L, ⟨#[]⟩, by omega, rfl, rfl, rfl, rfl, T1, hid rfl, B1⟩
     case round =>
       clear T1 B1
       rename_i hrel'
       obtain ⟨j, a, c, L, th, hj, rfl, rfl, rfl, rfl, T1, W2, B1⟩ := hrel
       by_cases hlj : j < J
       · have hljI : (j : Int) < t0 % 5 + 1 := by have := EJ.out; omega
         have AC := hid (mkB_c c j _ D1 D6 (by omega) T1.out)
         have z2 : th.size = 2 * j := by rw [← rep_len 98 j, ← W2.out]; rfl
         have hz4 : th.size ≤ 10 := by omega
         clear z2
         go_wp2_with (go_at_call 5; refine AC.out.mono ?_; rintro _ w2 ⟨a2, c2, L2, rfl, t2, hb2⟩; have T2 := hid t2; have B2 := hid (B1.out.trans (hb2.mono B1.out.size)); clear t2 hb2)
         go_roundg (gk - 1)
         case measure => omega
         case rel => exact ⟨j + 1, a2, c2, L2, _, by omega, rfl, by first | rfl | go_num, rfl, by go_num, T2, hid (by rw [app_d, W2.out]; rfl), B2⟩
       · have hgj : ¬ (j : Int) < t0 % 5 + 1 := by have := EJ.out; omega
         obtain rfl : j = J := by omega
         have z1 : wh.size = 2 * m := by rw [← rep_len 97 m, ← W1.out]; rfl
         have z2 : th.size = 2 * j := by rw [← rep_len 98 j, ← W2.out]; rfl
         have hz2 : 2 ≤ wh.size := by omega
         have hz3 : wh.size ≤ 12 := by omega
         have hz4 : th.size ≤ 10 := by omega
         have C1 := hid (mvC' D1 D6 J1 J5)
         have D2 := hid (mvD' D1 D6 J1 J5)
         have E1 := hid (mvE' D1 D6 J1 J5)
         have F1 : Hid (∀ W, Below _ _ W → Calls Try.prog 6 #[.slice a L.length c, .string wh] W (FnP (atA m, 0) W)) := hid (fun W hW => by
           have := findE_c (s := wh) c W (T1.out.later hW) C1.out.1 (by omega) (by rw [W1.out]; exact E1.out.1)
           rw [D2.out.1] at this
           exact this)
         have M1 := hid (fun W hW => moX_c (a := a) (L := L) c (d := m) (j := j) W D1 D6 J1 J5 (T1.out.later hW))
         have F2 : Hid (∀ (a : Option Addr) (c : Nat) (L : List Nd) (W : World), TrE W a L (tX m j) → Calls Try.prog 6 #[.slice a L.length c, .string (th ++ ⟨#[47, 99]⟩ ++ wh.extract 2 wh.size)] W (FnP (atA m, 0) W)) := hid (fun a c L W h => by
           have := findE_c (s := th ++ ⟨#[47, 99]⟩ ++ wh.extract 2 wh.size) c W h C1.out.2.2.1 (by rw [app_s, app_s, ByteArray.size_extract]; show th.size + 2 + _ ≤ _; omega) (by rw [app_d, app_d, ext_d, W1.out, W2.out]; exact E1.out.2.1)
           rw [D2.out.2.1] at this
           exact this)
         have F3 : Hid (∀ (a : Option Addr) (c : Nat) (L : List Nd) (W : World), TrE W a L (tX m j) → Calls Try.prog 6 #[.slice a L.length c, .string wh] W (FnP (0, 5) W)) := hid (fun a c L W h => by
           have := findE_c (s := wh) c W h C1.out.2.2.1 (by omega) (by rw [W1.out]; exact E1.out.1)
           rw [D2.out.2.2.1] at this
           exact this)
         have M2 := hid (fun (a : Option Addr) (c : Nat) (L : List Nd) W h => upX_c (a := a) (L := L) c (d := m) (j := j) W D1 D6 J1 J5 h)
         have LX := hid C1.out.2.2.2
         clear z1 z2 C1 D2 E1
         go_wp2_with (first
           | (have _q := T5.out; clear _q; go_at_call 5; refine (M2.out a3 c3 L3 _ T5.out).mono ?_; rintro _ w6 ⟨a6, c6, L6, rfl, t6, hb6⟩; have B6 := hid (B5.out.trans (hb6.mono B5.out.size)); have hl3 := HL3.out; clear t6 hb6)
           | (have _q := T4.out; clear _q; go_at_call 6; refine (F3.out a3 c3 L3 _ T4.out).mono ?_; rintro _ w5 ⟨rfl, hb5⟩; have T5 := hid (T4.out.later hb5); have B5 := hid (B4.out.trans (hb5.mono B4.out.size)); clear hb5)
           | (have _q := T3.out; clear _q; go_at_call 6; refine (F2.out a3 c3 L3 _ T3.out).mono ?_; rintro _ w4 ⟨rfl, hb4⟩; have T4 := hid (T3.out.later hb4); have B4 := hid (B3.out.trans (hb4.mono B3.out.size)); clear hb4)
           | (have _q := Y2.out; clear _q; go_at_call 5; refine (M1.out _ Y2.out).mono ?_; rintro _ w3 ⟨a3, c3, L3, rfl, t3, hb3⟩; have T3 := hid t3; have HL3 : Hid (L3.length = L.length) := hid (by rw [t3.len, T1.out.len]; exact LX.out); have B3 := hid (B2.out.trans (hb3.mono B2.out.size)); clear t3 hb3)
           | (go_at_call 6; refine (F1.out _ (Below.refl _ _)).mono ?_; rintro _ w2 ⟨rfl, hb2⟩; have Y2 := hid hb2; have B2 := hid (B1.out.trans (hb2.mono B1.out.size)); clear hb2))
         go_ret
         exact ⟨by first | rfl | simp, B6.out⟩
/-! ### The row of TopMoved -/
theorem topMoved_own : ownKnob Try.prog.godebug = none := by kernel_rfl
theorem topMoved_laidOut : laidOutB Try.prog = true := by kernel_rfl
set_option maxRecDepth 100000 in
theorem topMoved_lifted (os : Os) (started : os.Started) (H : Type) (enc : TypeId × Value → H) :
   ReturnsInHanded {} Try.checked os 3 .any (Rows.topMovedSpec.pre6 enc Try.prog Try.f3 Rows.topMovedRow.domain false) (Rows.topMovedSpec.post enc Try.prog Try.f3 false true false false) := by
 refine returnsInHanded_of_change (C := Try.checked) topMoved_own started (by kernel_rfl) Try.func3
   (ChangeSpec.witness6 (enc := enc) (C := Try.checked) false ⟨#[], #[.int .u8 0, .int .u8 0], []⟩ 8 (by kernel_rfl) (by kernel_rfl) (by kernel_rfl) (by kernel_rfl)) ?_
 intro W base args ds gs before hval0 hW hcnd _
 have hval : ∀ (j : Nat) t v, Try.f3.params[j]? = some t → args[j]? = some v → Value.okWide Try.prog W .any base t v := hval0
 have hW' := hW
 obtain ⟨p, q, hA0, hV, rfl, hfz, hnd⟩ := hW
 have hA : DataW.TrodAll enc Try.prog W 0 (fun _ => true) true Try.f3.params.toList args.toList ds p := hA0
 rw [Try.params3] at hA hval
 obtain ⟨v0, vs0, d0, ds0, p0, q0, hargs, rfl, rfl, h0, r0⟩ := trodAll_cons hA
 obtain ⟨v1, vs1, d1, ds1, p1, q1, rfl, rfl, rfl, h1, r1⟩ := trodAll_cons r0
 obtain ⟨rfl, rfl, rfl⟩ := trodAll_nil r1
 obtain rfl : args = #[v0, v1] := by cases args; simp_all
 obtain ⟨rfl, rfl⟩ := trodVars_none hV
 obtain ⟨a0, rfl, rfl, rfl, w0⟩ := open_int Try.underlying5 (hval 0 5 v0 rfl rfl) h0
 obtain ⟨a1, rfl, rfl, rfl, w1⟩ := open_int Try.underlying5 (hval 1 5 v1 rfl rfl) h1
 clear hA0 hval0
 refine (topMoved_walk a0 w0 a1 w1 W).mono fun e W' ⟨he, bel⟩ => ?_
 subst he
 exact ⟨_, rfl, _, _, _, [], _, [], hW', trodAll_mk1 (shut_bool Try.underlying4 _), (trodAll_cons_mk (shut_int Try.underlying5 w0) (trodAll_cons_mk (shut_int Try.underlying5 w1) trodAll_mk0)), rfl, bel.frame _, fun h => by cases h⟩
theorem topMoved_over : Rows.topMovedRow.holds Try.pinned (OpenSpec.ofChange Rows.topMovedSpec) :=
 OpenClaim.holds_of_wide 3 Try.f3 rfl rfl rfl rfl rfl rfl rfl ⟨rfl, rfl, rfl, rfl, rfl⟩ rfl rfl rfl rfl rfl (by kernel_rfl) Try.func3 (by kernel_rfl)
   (of_decide_eq_true (by kernel_rfl)) (by unfold Func.isWrapper; first | (rw [if_pos (by decide +kernel)]; kernel_rfl) | (rw [if_neg (by decide +kernel)]; exact ⟨rfl, rfl⟩))
   (fun os started H enc _ => topMoved_lifted os started H enc)
theorem topMoved_holds : Rows.TopMovedSaid := topMoved_over
#print axioms topMoved_holds
end Go.Proofs.Ytgbdplammniidaa
