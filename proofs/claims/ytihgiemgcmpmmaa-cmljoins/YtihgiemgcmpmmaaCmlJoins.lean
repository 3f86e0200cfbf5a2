/-
  For every operations, records and number: of a log that can be done the first part, made shorter, and the rest, made shorter, can be done and make the same tree.
-/
import Derived.Test.YtihgiemgcmpmmaaCJ0
namespace Go.Proofs.Ytihgiemgcmpmmaa
open Go.RowKit Go.ChangeShapes Go.WideShapes Go.ChangeAt Go.Maps Go.Shelf
open Go.ChangeMaps (open_string shut_string)
set_option linter.unusedVariables false
set_option linter.unusedSimpArgs false
theorem es_zero {w : World} {b : Option Addr} {n : Nat} (h : IsEs w b (List.replicate n 0)) (hp : 0 < n) : ∃ g off, b = some ⟨g, off, none⟩ ∧ ∀ i, i < n → w.cell? ⟨g, off + i, none⟩ = some (.int .i64 0) := by
  obtain ⟨g, off, e, hc⟩ := h (by rw [List.length_replicate]; exact hp)
  refine ⟨g, off, e, fun i hi => ?_⟩
  have := hc i (by rw [List.length_replicate]; exact hi)
  rw [this, List.getD, List.getElem?_replicate, if_pos hi]
  rfl
set_option maxRecDepth 20000 in
set_option maxHeartbeats 2400000 in
theorem cmlJoins_walk (a0 : Option Addr) (len0 cap0 : Nat) (ops : List Rec) (lz0 : ops.length = len0) (lc0 : len0 ≤ cap0) (a1 : Option Addr) (len1 cap1 : Nat) (l0 : List Rec) (lz1 : l0.length = len1) (lc1 : len1 ≤ cap1) (z : Int) (hz : (Lit.int .u8 z).wf = true) (w : World) (h0 : IsOs w a0 ops) (h1 : IsL w a1 l0) :
    Calls Try.prog 4 #[.slice a0 len0 cap0, .slice a1 len1 cap1, .int .u8 z] w fun e w' => e = .returned (.bool true) ∧ Below w.heap.size w w' := by
  have FC := hid (few8_c a1 len1 cap1 l0 w lz1 lc1 h1)
  have hI := h1.front 40
  have hn : (l0.take 40).length ≤ 40 := by rw [List.length_take]; omega
  subst lz0
  have DC := hid (done_c a0 a1 cap0 cap1 ops (l0.take 40) w h0 lc0 hI (by omega))
  obtain ⟨L, r, eL, hrun, R0, E0, hLw, hLl⟩ := log_all (l := l0.take 40) h0.2.1 hI.2.1
  rw [← eL] at DC
  have hL40 : L.length ≤ 40 := by omega
  obtain ⟨z0, z1⟩ := bd_u8 hz
  obtain ⟨zn, rfl⟩ : ∃ zn : Nat, z = zn := ⟨z.toNat, by omega⟩
  obtain ⟨q, hq⟩ : ∃ q : Nat, q = zn % (L.length + 1) := ⟨_, rfl⟩
  have hM2 : (zn : Int) % ((L.length : Int) + 1) = (q : Int) := by rw [hq]; push_cast; rfl
  have hM1 : (zn : Int).tmod ((L.length : Int) + 1) = (q : Int) := by rw [Int.tmod_eq_emod_of_nonneg (by omega)]; exact hM2
  have hrunS := run_join R0 E0 hLw hrun (q : Int)
  obtain ⟨hcw, hdw⟩ := cut_wf hLw (q : Int)
  have hJw : ∀ o ∈ optF (cutF q L) ++ dropF q L, o.Wf := fun o ho => by
    rcases List.mem_append.1 ho with h | h
    · exact opt_wf hcw o h
    · exact hdw o h
  have hA40 : (optF (cutF q L)).length ≤ 40 := by have := opt_len (cutF q L); have := keep_len (fun i => decide ((q : Int) ≤ (i : Int))) L L.length; unfold cutF at *; omega
  have hC40 : (cutF q L).length ≤ 40 := by have := keep_len (fun i => decide ((q : Int) ≤ (i : Int))) L L.length; unfold cutF; omega
  have hB40 : (dropF q L).length ≤ 40 := by have := keep_len (fun i => decide ((i : Int) < (q : Int))) L L.length; unfold dropF; omega
  have hS80 : (optF (optF (cutF q L) ++ dropF q L)).length ≤ 80 := by have := opt_len (optF (cutF q L) ++ dropF q L); rw [List.length_append] at this; omega
  have hF1 := run_Fold R0 hrun
  have hF2 := run_Fold R0 hrunS
  have hSw := opt_wf hJw
  have DF1 : Hid (∀ (a : Option Addr) (c : Nat) (T : List Nd) (b : Option Addr) (cb : Nat) (W : World), Tr W a T → T.map Nd.er = T0L ops → IsOs W b L → Calls Try.prog 7 #[.slice a T.length c, .slice b L.length cb] W (FoP W (r, List.replicate L.length 0))) := hid (fun a c T b cb W hT eT hO => by
    have := rFold_c a b c cb T L W hT hO (by have h := congrArg List.length eT; rw [List.length_map] at h; have := FoldL_few (l := newL) (by decide) (ops.take 30); unfold T0L at h; omega) (by omega)
    rw [eT, hF1] at this
    exact this)
  have DF2 : Hid (∀ (a : Option Addr) (c : Nat) (T : List Nd) (b : Option Addr) (cb : Nat) (W : World), Tr W a T → T.map Nd.er = T0L ops → IsOs W b (optF (optF (cutF q L) ++ dropF q L)) → Calls Try.prog 7 #[.slice a T.length c, .slice b (optF (optF (cutF q L) ++ dropF q L)).length cb] W (FoP W (r, List.replicate (optF (optF (cutF q L) ++ dropF q L)).length 0))) := hid (fun a c T b cb W hT eT hO => by
    have := rFold_c a b c cb T (optF (optF (cutF q L) ++ dropF q L)) W hT hO (by have h := congrArg List.length eT; rw [List.length_map] at h; have := FoldL_few (l := newL) (by decide) (ops.take 30); unfold T0L at h; omega) (by omega)
    rw [eT, hF2] at this
    exact this)
  have OC := hid (fun (a : Option Addr) (c : Nat) (W : World) (h : IsL W a L) => ops_c a c L W h (by omega))
  have OS := hid (fun (a : Option Addr) (c : Nat) (W : World) (h : IsL W a (optF (optF (cutF q L) ++ dropF q L))) => ops_c a c _ W h (by omega))
  have CC := hid (fun (a : Option Addr) (c : Nat) (W : World) (h : IsL W a L) => cut_c a c L (q : Int) W h (by omega))
  have KC := hid (fun (a : Option Addr) (c : Nat) (W : World) (h : IsL W a L) => drop_c a c L (q : Int) W h (by omega))
  have PC := hid (fun (a : Option Addr) (c : Nat) (W : World) (h : IsL W a (cutF q L)) => optimise_c a c (cutF q L) W h (by omega))
  have PS := hid (fun (a : Option Addr) (c : Nat) (W : World) (h : IsL W a (optF (cutF q L) ++ dropF q L)) => optimise_c a c (optF (cutF q L) ++ dropF q L) W h (by rw [List.length_append]; omega))
  have HLW := hid hLw
  have HCW := hid hcw
  have HDW := hid hdw
  have HAW := hid (opt_wf hcw)
  have HJW := hid hJw
  have HSW := hid hSw
  have hr43 : r.length ≤ 40 := by
    have := fold_rt L (T0L ops, []) R0 hLw
    rw [run_fold L _ r [] hrun] at this
    exact this.few
  clear h0 h1 hI eL hrun R0 E0 hLw hLl hrunS hF1 hF2 hSw lz1 lc1 lc0 hn hcw hdw hJw hq hz
  generalize T0L ops = t0 at *
  generalize l0.take 40 = lt at *
  generalize hSS : optF (optF (cutF q L) ++ dropF q L) = S at *
  generalize hAA : optF (cutF q L) = A at *
  clear hAA
  generalize hDD : dropF q L = D at *
  clear hDD
  generalize hCC : cutF q L = C at *
  clear hCC
  obtain ⟨J, hJ⟩ : ∃ J, J = A ++ D := ⟨_, rfl⟩
  rw [← hJ] at PS HJW
  clear hSS
  have HJ := hid hJ
  have HJL : Hid (A.length + D.length = J.length) := hid (by rw [hJ, List.length_append])
  clear hJ
  go_enter Try.func4, Try.ntmps4
  go_upto_region 2 with (first
    | (go_at_call 5; refine DC.out.mono ?_; intro e2 w2 h2; obtain ⟨a, c, T, v2, rfl, hT, eT, hO2, hb2⟩ := h2; obtain ⟨a2, c2, rfl, i2, _, _⟩ := isL_own hO2 HLW.out; have K2 := hid hb2; have TT := hid hT; have ET := hid eT; have I2 := hid i2; clear hT eT hO2 hb2 i2 DC)
    | (go_at_call 6; refine FC.out.mono ?_; rintro _ wf ⟨rfl, hwf⟩; have hwf2 := hwf.symm; clear hwf; subst hwf2))
  clear FC
  have hnz : ¬ ((L.length : Int) + 1 = 0) := by omega
  have hnz2 : ((L.length : Int) + 1 == 0) = false := beq_eq_false_iff_ne.2 hnz
  go_upto_region 3 with fail
  clear hM1 hM2 hnz hnz2
  have B3 := hid (below_oneJ w2 (.cells #[] 49))
  have O3 := hid (own_emptyR w2 w2.heap.size (Nat.le_refl _))
  have C3 := hid (CC.out a2 c2 _ (I2.out.later B3.out))
  clear CC
  go_upto_region 4 with (first
    | (at_builtin; refine wpList_appendL _ (by rfl) _ _ rfl w2.heap.size _ _ A rfl O7.out a7 _ c7 D rfl rfl I7.out N7.out (by omega) B7.out.size ?_; intro v8 w8 hO8 hg8
       have B8 := hid (below_grownR B7.out O7.out (Nat.le_refl _) B7.out.size hg8)
       rw [← HJ.out, HJL.out] at hO8
       obtain ⟨a8, c8, rfl, i8, _, _⟩ := isL_own hO8 HJW.out
       have I8 := hid i8
       clear hO8 hg8 i8 O7 B7 I7)
    | (go_at_call 13; refine K6.out.mono ?_; intro e7 w7 h7; obtain ⟨v7, rfl, hO7, hb7⟩ := h7; obtain ⟨a7, c7, rfl, i7, _, n7⟩ := isL_own hO7 HDW.out; have B7 := hid (B6.out.trans (hb7.mono B6.out.size)); have O7 := hid (own_latR O6.out hb7); have I7 := hid i7; have N7 := hid n7; clear hO7 i7 n7 hb7 K6 O6 B6)
    | (at_builtin; refine wpList_appendL _ (by rfl) _ _ rfl w2.heap.size _ _ [] rfl O5.out a5 _ c5 A rfl rfl I5.out N5.out (by omega) B5.out.size ?_; intro v6 w6 hO6 hg6
       have B6 := hid (below_grownR B5.out O5.out (Nat.le_refl _) B5.out.size hg6)
       obtain ⟨a6, c6, rfl⟩ := own_shapeR hO6
       rw [List.nil_append, Nat.zero_add] at hO6
       rw [Nat.zero_add]
       have O6 := hid hO6
       have K6 := hid (KC.out a2 c2 w6 (I2.out.later B6.out))
       clear hO6 hg6 O5 B5 I5)
    | (go_at_call 9; refine P4.out.mono ?_; intro e5 w5 h5; obtain ⟨v5, rfl, hO5, hb5⟩ := h5; obtain ⟨a5, c5, rfl, i5, _, n5⟩ := isL_own hO5 HAW.out; have B5 := hid (B4.out.trans (hb5.mono B4.out.size)); have O5 := hid (own_latR O4.out hb5); have I5 := hid i5; have N5 := hid n5; clear hO5 i5 n5 hb5 P4 O4 B4)
    | (go_at_call 12; refine C3.out.mono ?_; intro e4 w4 h4; obtain ⟨v4, rfl, hO4, hb4⟩ := h4; obtain ⟨a4, c4, rfl, i4, _, _⟩ := isL_own hO4 HCW.out; have B4 := hid (B3.out.trans (hb4.mono B3.out.size)); have O4 := hid (own_latR O3.out hb4); have P4 := hid (PC.out a4 c4 w4 i4); clear hO4 i4 hb4 C3 O3 B3))
  clear PC KC HCW HDW HAW HJW
  have O8 := hid (OC.out a2 c2 w8 (I2.out.later B8.out))
  go_upto_region 5 with (first
    | (go_at_call 7; refine F1.out.mono ?_; intro e10 w10 h10; obtain ⟨a10, c10, A1, b10, d10, rfl, tA, eA, _, hb10⟩ := h10; have TA := hid tA; have EA := hid eA; have B10 := hid (B9.out.trans (hb10.mono B9.out.size)); have P10 := hid (PS.out a8 c8 w10 (I8.out.later (C9.out.trans (hb10.mono C9.out.size)))); clear tA eA hb10 F1)
    | (go_at_call 8; refine O8.out.mono ?_; intro e9 w9 h9; obtain ⟨v9, rfl, hO9, hb9⟩ := h9; obtain ⟨a9, c9, rfl, i9⟩ := isOs_own hO9 HLW.out; have B9 := hid (B8.out.trans (hb9.mono B8.out.size)); have C9 := hid hb9; have F1 := hid (DF1.out a c T a9 c9 w9 (TT.out.later B9.out) ET.out i9); clear hO9 i9 hb9 O8))
  clear DF1 OC PS
  go_upto_region 6 with (first
    | (go_at_call 7; refine F2.out.mono ?_; intro e13 w13 h13; obtain ⟨a13, c13, A2, b13, d13, rfl, tB, eB, zB, hb13⟩ := h13; have TB := hid tB; have EB := hid eB; have ZB := hid zB; have C13 := hid (C12.out.trans (hb13.mono C12.out.size)); clear tB eB zB hb13 F2)
    | (go_at_call 8; refine O11.out.mono ?_; intro e12 w12 h12; obtain ⟨v12, rfl, hO12, hb12⟩ := h12; obtain ⟨a12, c12, rfl, i12⟩ := isOs_own hO12 HSW.out; have C12 := hid (C11.out.trans (hb12.mono C11.out.size)); have F2 := hid (DF2.out a c T a12 c12 w12 (TT.out.later (B10.out.trans (C12.out.mono B10.out.size))) ET.out i12); clear hO12 i12 hb12 O11)
    | (go_at_call 9; refine P10.out.mono ?_; intro e11 w11 h11; obtain ⟨v11, rfl, hO11, hb11⟩ := h11; obtain ⟨a11, c11, rfl, i11, _, _⟩ := isL_own hO11 HSW.out; have C11 := hid hb11; have O11 := hid (OS.out a11 c11 w11 i11); clear hO11 i11 hb11 P10))
  clear DF2 OS
  have K13 := hid (K2.out.trans ((B10.out.trans (C13.out.mono B10.out.size)).mono K2.out.size))
  have TA7 := hid (TA.out.later C13.out)
  have hAB : A1.map Nd.er = A2.map Nd.er := EA.out.trans EB.out.symm
  have hAl : A1.length ≤ 40 := by have := congrArg List.length EA.out; rw [List.length_map] at this; omega
  have SC := hid (fun W (hW : Below w13.heap.size w13 W) => same6_c a10 a13 c10 c13 A1 A2 W (TA7.out.later hW).1 (TB.out.later hW).1 hAB (by omega) (fun x hx => by have := (TA7.out.2 x hx).2.2; omega))
  clear TA TB EA EB TT ET I2 I8 hAB TA7 B8 B9 C9 B10 C11 C12 C13 K2
  go_wp2
  go_loopg [15] S.length (fun gk i wr => ∃ m : Nat, m + gk = S.length ∧ i = .int .i64 m ∧ Hid (wr = w13))
  case atStart => exact ⟨0, by omega, rfl, hid rfl⟩
  case round =>
    obtain ⟨m', hm3, rfl, HW'⟩ := hrel
    have hwr := HW'.out.symm
    subst hwr
    by_cases hlt' : m' < S.length
    · have hltI : (m' : Int) < S.length := by omega
      obtain ⟨g, off, rfl, hc⟩ := es_zero ZB.out (by omega)
      have z0 := hc m' hlt'
      clear hc
      go_wp2
      go_roundg (gk - 1)
      case measure => omega
      case rel => exact ⟨m' + 1, by omega, by go_num, hid rfl⟩
    · have hge : ¬ (m' : Int) < S.length := by omega
      have LW := hid (clive_c w13)
      go_wp2_with (first
        | (go_at_call 11; refine S14.out.mono ?_; rintro _ w15 ⟨rfl, hb15⟩; have K15 := hid (K14.out.trans (hb15.mono K14.out.size)); clear hb15)
        | (go_at_call 10; refine LW.out.mono ?_; rintro _ w14 ⟨rfl, hb14⟩; have K14 := hid (K13.out.trans (hb14.mono K13.out.size)); have S14 := hid (SC.out w14 hb14); clear hb14))
      go_ret
      exact ⟨by first | rfl | simp, K15.out⟩
/-! ### The row of CmlJoins -/
theorem cmlJoins_own : ownKnob Try.prog.godebug = none := by kernel_rfl
theorem cmlJoins_laidOut : laidOutB Try.prog = true := by kernel_rfl
set_option maxRecDepth 100000 in
theorem cmlJoins_lifted (os : Os) (started : os.Started) (H : Type) (enc : TypeId × Value → H) :
    ReturnsInHanded {} Try.checked os 4 .any (Rows.cmlJoinsSpec.pre6 enc Try.prog Try.f4 Rows.cmlJoinsRow.domain false) (Rows.cmlJoinsSpec.post enc Try.prog Try.f4 false true false false) := by
  refine returnsInHanded_of_change (C := Try.checked) cmlJoins_own started (by kernel_rfl) Try.func4
    (ChangeSpec.witness6 (enc := enc) (C := Try.checked) false ⟨#[], #[.slice none 0 0, .slice none 0 0, .int .u8 0], []⟩ 8 (by kernel_rfl) (by kernel_rfl) (by kernel_rfl) (by kernel_rfl)) ?_
  intro W base args ds gs before hval0 hW hcnd _
  have hval : ∀ (j : Nat) t v, Try.f4.params[j]? = some t → args[j]? = some v → Value.okWide Try.prog W .any base t v := hval0
  have hW' := hW
  obtain ⟨p, q, hA0, hV, rfl, hfz, hnd⟩ := hW
  have hA : DataW.TrodAll enc Try.prog W 0 (fun _ => true) true Try.f4.params.toList args.toList ds p := hA0
  rw [Try.params4] at hA hval
  obtain ⟨v0, vs0, d0, ds0, p0, q0, hargs, rfl, rfl, h0, r0⟩ := trodAll_cons hA
  obtain ⟨v1, vs1, d1, ds1, p1, q1, rfl, rfl, rfl, h1, r1⟩ := trodAll_cons r0
  obtain ⟨v2, vs2, d2, ds2, p2, q2, rfl, rfl, rfl, h2, r2⟩ := trodAll_cons r1
  obtain ⟨rfl, rfl, rfl⟩ := trodAll_nil r2
  obtain rfl : args = #[v0, v1, v2] := by cases args; simp_all
  obtain ⟨rfl, rfl⟩ := trodVars_none hV
  have k0 := h0
  have lt0 : ∀ x ∈ p0, x.block < W.heap.size := by obtain ⟨m, hm⟩ := k0; exact DataW.trod_lt m _ _ _ hm
  obtain ⟨a0, len0, cap0, rfl⟩ := okWide_slice Try.underlying22 (hval 0 22 v0 rfl rfl)
  obtain ⟨z0, lz0, w0, lc0⟩ := isOs_of Try.underlying22 h0
  have k1 := h1
  have lt1 : ∀ x ∈ p1, x.block < W.heap.size := by obtain ⟨m, hm⟩ := k1; exact DataW.trod_lt m _ _ _ hm
  obtain ⟨a1, len1, cap1, rfl⟩ := okWide_slice Try.underlying23 (hval 1 23 v1 rfl rfl)
  obtain ⟨z1, lz1, w1, lc1⟩ := isL_of Try.underlying23 h1
  obtain ⟨a2, rfl, rfl, rfl, w2⟩ := open_int Try.underlying5 (hval 2 5 v2 rfl rfl) h2
  clear hA0 hval0
  refine (cmlJoins_walk a0 len0 cap0 z0 lz0 lc0 a1 len1 cap1 z1 lz1 lc1 a2 w2 W w0 w1).mono fun e W' ⟨he, bel⟩ => ?_
  subst he
  exact ⟨_, rfl, _, _, _, [], _, [], hW', trodAll_mk1 (shut_bool Try.underlying4 _), (trodAll_cons_mk (Below.trod cmlJoins_laidOut (by kernel_rfl) (of_decide_eq_true (by kernel_rfl)) k0 bel lt0) (trodAll_cons_mk (Below.trod cmlJoins_laidOut (by kernel_rfl) (of_decide_eq_true (by kernel_rfl)) k1 bel lt1) (trodAll_cons_mk (shut_int Try.underlying5 w2) trodAll_mk0))), rfl, bel.frame _, fun h => by cases h⟩
theorem cmlJoins_over : Rows.cmlJoinsRow.holds Try.pinned (OpenSpec.ofChange Rows.cmlJoinsSpec) :=
  OpenClaim.holds_of_wide 4 Try.f4 rfl rfl rfl rfl rfl rfl rfl ⟨rfl, rfl, rfl, rfl, rfl⟩ rfl rfl rfl rfl rfl (by kernel_rfl) Try.func4 (by kernel_rfl)
    (of_decide_eq_true (by kernel_rfl)) (by unfold Func.isWrapper; first | (rw [if_pos (by decide +kernel)]; kernel_rfl) | (rw [if_neg (by decide +kernel)]; exact ⟨rfl, rfl⟩))
    (fun os started H enc _ => cmlJoins_lifted os started H enc)
/-- The statement. -/
theorem cmlJoins_holds : Rows.CmlJoinsSaid := cmlJoins_over
#print axioms cmlJoins_holds

end Go.Proofs.Ytihgiemgcmpmmaa
