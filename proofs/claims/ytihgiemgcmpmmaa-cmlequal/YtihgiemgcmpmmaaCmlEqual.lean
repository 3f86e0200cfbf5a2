/-
  For every operations and records: a log that can be done, made shorter, can be done, and makes the same tree.
-/
import Derived.Test.YtihgiemgcmpmmaaGC
namespace Go.Proofs.Ytihgiemgcmpmmaa
open Go.RowKit Go.ChangeShapes Go.WideShapes Go.ChangeAt Go.Maps Go.Shelf
open Go.ChangeMaps (open_string shut_string)
set_option linter.unusedVariables false
set_option linter.unusedSimpArgs false
theorem es_zero {w : World} {b : Option Addr} {n : Nat} (h : IsEs w b (List.replicate n 0)) (hp : 0 < n) : ∃ g off, b = some ⟨g, off, none⟩ ∧ ∀ i, i < n → w.cell? ⟨g, off + i, none⟩ = some (.int .i64 0) := by
  obtain ⟨g, off, e, hc⟩ := h (by rw [List.length_replicate]; exact hp)
  refine ⟨g, off, e, fun i hi => ?_⟩
  have := hc i (by rw [List.length_replicate]; exact hi)
  rw [this, List.getD, List.getElem?_replicate, if_pos hi]
  rfl
set_option maxRecDepth 20000 in
set_option maxHeartbeats 1600000 in
theorem cmlEqual_walk (a0 : Option Addr) (len0 cap0 : Nat) (ops : List Rec) (lz0 : ops.length = len0) (lc0 : len0 ≤ cap0) (a1 : Option Addr) (len1 cap1 : Nat) (l0 : List Rec) (lz1 : l0.length = len1) (lc1 : len1 ≤ cap1) (w : World) (h0 : IsOs w a0 ops) (h1 : IsL w a1 l0) :
    Calls Try.prog 3 #[.slice a0 len0 cap0, .slice a1 len1 cap1] w fun e w' => e = .returned (.bool true) ∧ Below w.heap.size w w' := by
  have FC := hid (few8_c a1 len1 cap1 l0 w lz1 lc1 h1)
  have hI := h1.front 40
  have hn : (l0.take 40).length ≤ 40 := by rw [List.length_take]; omega
  subst lz0
  have DC := hid (done_c a0 a1 cap0 cap1 ops (l0.take 40) w h0 lc0 hI (by omega))
  obtain ⟨L, r, eL, hrun, R0, E0, hLw, hLl⟩ := log_all (l := l0.take 40) h0.2.1 hI.2.1
  rw [← eL] at DC
  have hL40 : L.length ≤ 40 := by omega
  have hrunS := run_opt E0 hLw hrun
  have hF1 := run_Fold R0 hrun
  have hF2 := run_Fold R0 hrunS
  have hSw := opt_wf hLw
  have hS40 : (optF L).length ≤ 40 := by have := opt_len L; omega
  have DF1 : Hid (∀ (a : Option Addr) (c : Nat) (T : List Nd) (b : Option Addr) (cb : Nat) (W : World), Tr W a T → T.map Nd.er = T0L ops → IsOs W b L → Calls Try.prog 7 #[.slice a T.length c, .slice b L.length cb] W (FoP W (r, List.replicate L.length 0))) := hid (fun a c T b cb W hT eT hO => by
    have := rFold_c a b c cb T L W hT hO (by have h := congrArg List.length eT; rw [List.length_map] at h; have := FoldL_few (l := newL) (by decide) (ops.take 30); unfold T0L at h; omega) (by omega)
    rw [eT, hF1] at this
    exact this)
  have DF2 : Hid (∀ (a : Option Addr) (c : Nat) (T : List Nd) (b : Option Addr) (cb : Nat) (W : World), Tr W a T → T.map Nd.er = T0L ops → IsOs W b (optF L) → Calls Try.prog 7 #[.slice a T.length c, .slice b (optF L).length cb] W (FoP W (r, List.replicate (optF L).length 0))) := hid (fun a c T b cb W hT eT hO => by
    have := rFold_c a b c cb T (optF L) W hT hO (by have h := congrArg List.length eT; rw [List.length_map] at h; have := FoldL_few (l := newL) (by decide) (ops.take 30); unfold T0L at h; omega) (by omega)
    rw [eT, hF2] at this
    exact this)
  have OC := hid (fun (a : Option Addr) (c : Nat) (W : World) (h : IsL W a L) => ops_c a c L W h (by omega))
  have OS := hid (fun (a : Option Addr) (c : Nat) (W : World) (h : IsL W a (optF L)) => ops_c a c (optF L) W h (by omega))
  have PC := hid (fun (a : Option Addr) (c : Nat) (W : World) (h : IsL W a L) => optimise_c a c L W h (by omega))
  have LC := hid (fun W => clive_c W)
  have HLW := hid hLw
  have HSW := hid hSw
  have hr43 : r.length ≤ 40 := by
    have := fold_rt L (T0L ops, []) R0 hLw
    rw [run_fold L _ r [] hrun] at this
    exact this.few
  clear h0 h1 hI eL hrun R0 E0 hLw hLl hrunS hF1 hF2 hSw lz1 lc1 lc0 hn
  generalize T0L ops = t0 at *
  generalize optF L = S at *
  generalize l0.take 40 = lt at *
  go_enter Try.func3, Try.ntmps3
  go_upto_region 2 with (first
    | (go_at_call 5; refine DC.out.mono ?_; intro e2 w2 h2; obtain ⟨a, c, T, v2, rfl, hT, eT, hO2, hb2⟩ := h2; obtain ⟨a2, c2, rfl, i2, _, _⟩ := isL_own hO2 HLW.out; have K2 := hid hb2; have TT := hid hT; have ET := hid eT; have I2 := hid i2; have O1 := hid (OC.out a2 c2 w2 i2); clear hT eT hO2 hb2 i2 DC)
    | (go_at_call 6; refine FC.out.mono ?_; rintro _ wf ⟨rfl, hwf⟩; have hwf2 := hwf.symm; clear hwf; subst hwf2))
  clear FC
  go_upto_region 3 with (first
    | (go_at_call 7; refine F1.out.mono ?_; intro e4 w4 h4; obtain ⟨a4, c4, A, b4, d4, rfl, tA, eA, zA, hb4⟩ := h4; have TA := hid tA; have EA := hid eA; have ZA := hid zA; have K4 := hid (K3.out.trans (hb4.mono K3.out.size)); have B4 := hid hb4; have P1 := hid (PC.out a2 c2 w4 (I2.out.later (B3.out.trans (hb4.mono B3.out.size)))); clear tA eA zA hb4 F1)
    | (go_at_call 8; refine O1.out.mono ?_; intro e3 w3 h3; obtain ⟨v3, rfl, hO3, hb3⟩ := h3; obtain ⟨a3, c3, rfl, i3⟩ := isOs_own hO3 HLW.out; have K3 := hid (K2.out.trans (hb3.mono K2.out.size)); have B3 := hid hb3; have F1 := hid (DF1.out a c T a3 c3 w3 (TT.out.later hb3) ET.out i3); clear hO3 i3 hb3 O1))
  clear DF1 OC
  go_upto_region 4 with (go_at_call 9; refine P1.out.mono ?_; intro e5 w5 h5; obtain ⟨v5, rfl, hO5, hb5⟩ := h5; obtain ⟨a5, c5, rfl, i5, _, _⟩ := isL_own hO5 HSW.out; have K5 := hid (K4.out.trans (hb5.mono K4.out.size)); have B5 := hid hb5; have O2 := hid (OS.out a5 c5 w5 i5); clear hO5 i5 hb5 P1)
  clear PC
  go_upto_region 5 with (first
    | (go_at_call 7; refine F2.out.mono ?_; intro e7 w7 h7; obtain ⟨a7, c7, B, b7, d7, rfl, tB, eB, zB, hb7⟩ := h7; have TB := hid tB; have EB := hid eB; have ZB := hid zB; have K7 := hid (K6.out.trans (hb7.mono K6.out.size)); have B7 := hid hb7; clear tB eB zB hb7 F2)
    | (go_at_call 8; refine O2.out.mono ?_; intro e6 w6 h6; obtain ⟨v6, rfl, hO6, hb6⟩ := h6; obtain ⟨a6, c6, rfl, i6⟩ := isOs_own hO6 HSW.out; have K6 := hid (K5.out.trans (hb6.mono K5.out.size)); have B6 := hid hb6; have F2 := hid (DF2.out a c T a6 c6 w6 (TT.out.later ((B3.out.trans (B4.out.mono B3.out.size)).trans ((B5.out.trans (hb6.mono B5.out.size)).mono (B3.out.trans (B4.out.mono B3.out.size)).size))) ET.out i6); clear hO6 i6 hb6 O2))
  clear DF2 OS
  have TA7 := hid (TA.out.later ((B5.out.trans (B6.out.mono B5.out.size)).trans (B7.out.mono (B5.out.trans (B6.out.mono B5.out.size)).size)))
  have ZA7 := hid (ZA.out.later ((B5.out.trans (B6.out.mono B5.out.size)).trans (B7.out.mono (B5.out.trans (B6.out.mono B5.out.size)).size)))
  have hAB : A.map Nd.er = B.map Nd.er := EA.out.trans EB.out.symm
  have hAl : A.length ≤ 40 := by have := congrArg List.length EA.out; rw [List.length_map] at this; omega
  have SC := hid (fun W (hW : Below w7.heap.size w7 W) => same6_c a4 a7 c4 c7 A B W (TA7.out.later hW).1 (TB.out.later hW).1 hAB (by omega) (fun x hx => by have := (TA7.out.2 x hx).2.2; omega))
  clear TA TB EA EB TT ET I2 hAB TA7 ZA B3 B4 B5 B6 B7 K2 K3 K4 K5 K6
  go_wp2
  go_loopg [12] L.length (fun gk i wr => ∃ m : Nat, m + gk = L.length ∧ i = .int .i64 m ∧ Hid (wr = w7))
  case atStart => exact ⟨0, by omega, rfl, hid rfl⟩
  case round =>
    obtain ⟨m, hm2, rfl, HW⟩ := hrel
    have hwr := HW.out.symm
    subst hwr
    by_cases hlt : m < L.length
    · have hltI : (m : Int) < L.length := by omega
      obtain ⟨g, off, rfl, hc⟩ := es_zero ZA7.out (by omega)
      have z0 := hc m hlt
      clear hc
      go_wp2
      go_roundg (gk - 1)
      case measure => omega
      case rel => exact ⟨m + 1, by omega, by go_num, hid rfl⟩
    · have hge : ¬ (m : Int) < L.length := by omega
      go_wp2
      go_loopg [13] S.length (fun gk i wr => ∃ m : Nat, m + gk = S.length ∧ i = .int .i64 m ∧ Hid (wr = w7))
      case atStart => exact ⟨0, by omega, rfl, hid rfl⟩
      case round =>
        obtain ⟨m', hm3, rfl, HW'⟩ := hrel
        have hwr := HW'.out.symm
        subst hwr
        by_cases hlt' : m' < S.length
        · have hltI : (m' : Int) < S.length := by omega
          obtain ⟨g, off, rfl, hc⟩ := es_zero ZB.out (by omega)
          have z0 := hc m' hlt'
          clear hc
          go_wp2
          go_roundg (gk - 1)
          case measure => omega
          case rel => exact ⟨m' + 1, by omega, by go_num, hid rfl⟩
        · have hge : ¬ (m' : Int) < S.length := by omega
          have LW := hid (LC.out w7)
          go_wp2_with (first
            | (go_at_call 11; refine S8.out.mono ?_; rintro _ w9 ⟨rfl, hb9⟩; have K9 := hid (K8.out.trans (hb9.mono K8.out.size)); clear hb9)
            | (go_at_call 10; refine LW.out.mono ?_; rintro _ w8 ⟨rfl, hb8⟩; have K8 := hid (K7.out.trans (hb8.mono K7.out.size)); have S8 := hid (SC.out w8 hb8); clear hb8))
          go_ret
          exact ⟨by first | rfl | simp, K9.out⟩
/-! ### The row of CmlEqual -/
theorem cmlEqual_own : ownKnob Try.prog.godebug = none := by kernel_rfl
theorem cmlEqual_laidOut : laidOutB Try.prog = true := by kernel_rfl
set_option maxRecDepth 100000 in
theorem cmlEqual_lifted (os : Os) (started : os.Started) (H : Type) (enc : TypeId × Value → H) :
    ReturnsInHanded {} Try.checked os 3 .any (Rows.cmlEqualSpec.pre6 enc Try.prog Try.f3 Rows.cmlEqualRow.domain false) (Rows.cmlEqualSpec.post enc Try.prog Try.f3 false true false false) := by
  refine returnsInHanded_of_change (C := Try.checked) cmlEqual_own started (by kernel_rfl) Try.func3
    (ChangeSpec.witness6 (enc := enc) (C := Try.checked) false ⟨#[], #[.slice none 0 0, .slice none 0 0], []⟩ 8 (by kernel_rfl) (by kernel_rfl) (by kernel_rfl) (by kernel_rfl)) ?_
  intro W base args ds gs before hval0 hW hcnd _
  have hval : ∀ (j : Nat) t v, Try.f3.params[j]? = some t → args[j]? = some v → Value.okWide Try.prog W .any base t v := hval0
  have hW' := hW
  obtain ⟨p, q, hA0, hV, rfl, hfz, hnd⟩ := hW
  have hA : DataW.TrodAll enc Try.prog W 0 (fun _ => true) true Try.f3.params.toList args.toList ds p := hA0
  rw [Try.params3] at hA hval
  obtain ⟨v0, vs0, d0, ds0, p0, q0, hargs, rfl, rfl, h0, r0⟩ := trodAll_cons hA
  obtain ⟨v1, vs1, d1, ds1, p1, q1, rfl, rfl, rfl, h1, r1⟩ := trodAll_cons r0
  obtain ⟨rfl, rfl, rfl⟩ := trodAll_nil r1
  obtain rfl : args = #[v0, v1] := by cases args; simp_all
  obtain ⟨rfl, rfl⟩ := trodVars_none hV
  have k0 := h0
  have lt0 : ∀ x ∈ p0, x.block < W.heap.size := by obtain ⟨m, hm⟩ := k0; exact DataW.trod_lt m _ _ _ hm
  obtain ⟨a0, len0, cap0, rfl⟩ := okWide_slice Try.underlying22 (hval 0 22 v0 rfl rfl)
  obtain ⟨z0, lz0, w0, lc0⟩ := isOs_of Try.underlying22 h0
  have k1 := h1
  have lt1 : ∀ x ∈ p1, x.block < W.heap.size := by obtain ⟨m, hm⟩ := k1; exact DataW.trod_lt m _ _ _ hm
  obtain ⟨a1, len1, cap1, rfl⟩ := okWide_slice Try.underlying23 (hval 1 23 v1 rfl rfl)
  obtain ⟨z1, lz1, w1, lc1⟩ := isL_of Try.underlying23 h1
  clear hA0 hval0
  refine (cmlEqual_walk a0 len0 cap0 z0 lz0 lc0 a1 len1 cap1 z1 lz1 lc1 W w0 w1).mono fun e W' ⟨he, bel⟩ => ?_
  subst he
  exact ⟨_, rfl, _, _, _, [], _, [], hW', trodAll_mk1 (shut_bool Try.underlying4 _), (trodAll_cons_mk (Below.trod cmlEqual_laidOut (by kernel_rfl) (of_decide_eq_true (by kernel_rfl)) k0 bel lt0) (trodAll_cons_mk (Below.trod cmlEqual_laidOut (by kernel_rfl) (of_decide_eq_true (by kernel_rfl)) k1 bel lt1) trodAll_mk0)), rfl, bel.frame _, fun h => by cases h⟩
theorem cmlEqual_over : Rows.cmlEqualRow.holds Try.pinned (OpenSpec.ofChange Rows.cmlEqualSpec) :=
  OpenClaim.holds_of_wide 3 Try.f3 rfl rfl rfl rfl rfl rfl rfl ⟨rfl, rfl, rfl, rfl, rfl⟩ rfl rfl rfl rfl rfl (by kernel_rfl) Try.func3 (by kernel_rfl)
    (of_decide_eq_true (by kernel_rfl)) (by unfold Func.isWrapper; first | (rw [if_pos (by decide +kernel)]; kernel_rfl) | (rw [if_neg (by decide +kernel)]; exact ⟨rfl, rfl⟩))
    (fun os started H enc _ => cmlEqual_lifted os started H enc)
/-- The statement. -/
theorem cmlEqual_holds : Rows.CmlEqualSaid := cmlEqual_over
#print axioms cmlEqual_holds

end Go.Proofs.Ytihgiemgcmpmmaa
