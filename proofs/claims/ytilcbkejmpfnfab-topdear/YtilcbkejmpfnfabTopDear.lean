/-
  For every number of dear objects and all that is used: what is dear is at hand, as long as there is room for it.
-/
import Derived.Test.YtilcbkejmpfnfabCD0
import Derived.Test.YtilcbkejmpfnfabCWk
namespace Go.Proofs.Ytilcbkejmpfnfab
open Go.RowKit Go.ChangeShapes Go.WideShapes Go.ChangeAt Go.Maps Go.Shelf
open Go.ChangeMaps (open_string shut_string)
set_option linter.unusedVariables false
set_option linter.unusedSimpArgs false
set_option maxRecDepth 100000
theorem mod_eight {n : Int} (h0 : 0 ≤ n) (h1 : n < 256) : ∃ M0 : Nat, M0 < 8 ∧ n.tmod 8 = (M0 : Int) := ⟨n.toNat % 8, by omega, by rw [Int.tmod_eq_emod_of_nonneg h0]; omega⟩
theorem td_list {w : World} {p b1 b2 : Nat} {c : Ca} {M : Nat} {us : List Int} (h : IsCa w p b1 b2 c) (hT : TD c M us) : Calls Try.prog 9 #[pA p] w fun e w' => (∃ a cap, e = .returned (.slice a us.length cap)) ∧ Below w.heap.size w w' :=
  (list_c h (by have := hT.len; have := hT.few; omega) hT.rise).mono fun e w' ⟨v, e1, o1, b1⟩ => by
    obtain ⟨a, cap, e2, _⟩ := own_shapeW o1
    rw [sort_len] at e2
    exact ⟨⟨a, cap, by rw [e1, e2]⟩, b1⟩
theorem RdF.base2 {w : World} {b b' : Nat} {v : Value} {us : List Int} (h : RdF w b v us) (hb : b' ≤ b) : RdF w b' v us := by
  obtain ⟨a, cap, e, h1, h3⟩ := h
  refine ⟨a, cap, e, h1, fun hp => ?_⟩
  obtain ⟨g, off, cur, e1, e2, e3⟩ := h3 hp
  exact ⟨g, off, cur, e1, Nat.le_trans hb e2, e3⟩
theorem td_none {c : Ca} {M : Nat} {us ss : List Int} (hT : TD c M us) (hw : WalkL c ss) (hall : ∀ i : Nat, i < M → (100 + (i : Int)) ∈ us) : ss = [] := by
  cases ss with
  | nil => rfl
  | cons x ss =>
    exfalso
    obtain ⟨h1, h2⟩ := (hw.2 x).1 (by simp)
    rw [hT.dear] at h1
    by_cases q : 100 ≤ x ∧ x < 100 + (M : Int)
    · have := hall (x - 100).toNat (by omega)
      rw [show 100 + (((x - 100).toNat : Nat) : Int) = x from by omega] at this
      rw [(hT.mem x).1 this] at h2; cases h2
    · rw [if_neg q] at h1; cases h1
set_option maxHeartbeats 16000000 in
theorem topDear_walk (n : Int) (wn : (Lit.int .u8 n).wf = true) (a : Option Addr) (len cap : Nat) (zs : List Int) (lc : len ≤ cap) (w : World) (hB : IsB w a len zs) :
    Calls Try.prog 3 #[.int .u8 n, .slice a len cap] w fun e w' => e = .returned (.bool true) ∧ Below w.heap.size w w' := by
  have hn := bd_u8 wn
  obtain ⟨M0, hM0, eM⟩ := mod_eight hn.1 hn.2
  have HB := hid hB
  clear hB wn
  go_enter Try.func3, Try.ntmps3
  go_wp2_with fail
  refine (new_c 10 (by decide) (by decide) w).mono ?_
  rintro _ w1 ⟨rfl, hC1, hb1⟩
  have C1 := hid hC1
  have B1 := hid hb1
  have T0 := hid TD.new
  have TB : Hid (∀ k, Tri (w.heap.size + 2) w.heap.size (w.heap.size + 1) k → w.heap.size ≤ k) := hid (fun k h => by rcases h with h | h | h <;> omega)
  have S1 : Hid (w.heap.size + 3 ≤ w1.heap.size) := hid (by obtain ⟨_, _, _, _, _, l0, _⟩ := hC1.cells; omega)
  clear hC1 hb1
  generalize hp : w.heap.size + 2 = p at *
  generalize hp1 : w.heap.size + 1 = p1 at *
  go_wp2_with fail
  go_loopg [7] (M0 + 1) (fun gk j wr => ∃ (m : Nat) (c : Ca), m + gk = M0 + 1 ∧ j = .int .i64 m ∧ Hid (IsCa wr p w.heap.size p1 c) ∧ Hid (TD c m []) ∧ Hid (c.uses = 0) ∧ Hid (w.heap.size + 3 ≤ wr.heap.size) ∧ Hid (Below w.heap.size w wr))
  case atStart => exact ⟨0, _, by omega, rfl, C1, T0, hid rfl, S1, B1⟩
  case round =>
    obtain ⟨m, c, hm, rfl, CK, TK, UK, SK, BK⟩ := hrel
    by_cases hlt : m < M0 + 1
    · have hltI : (m : Int) < (M0 : Int) + 1 := by omega
      have hw1 : IntKind.u32.wrap (100 + (m : Int)) = 100 + (m : Int) := by rw [IntKind.wrap_u32]; omega
      obtain ⟨e1, t1⟩ := TK.out.hoard (by omega)
      have HC := hid (hoard_c CK.out (n := 50) (by have := TK.out.k; omega) (i := 100 + (m : Int)) (by omega) (by omega))
      rw [e1] at HC
      have T1 := hid t1
      have U1 : Hid ((c.hoardS (100 + (m : Int)) 50).uses = 0) := hid (by unfold Ca.hoardS; rw [if_pos e1, if_neg (by decide)]; exact UK.out)
      clear e1 t1
      generalize c.hoardS (100 + (m : Int)) 50 = c9 at *
      go_wp2_with (go_at_call 5; refine HC.out.mono ?_; rintro _ w2 ⟨rfl, h2, o2⟩; (have C2 := hid h2); (have B2 := hid (BK.out.trans (o2.below BK.out.size TB.out))); (have S2 := hid (Nat.le_trans SK.out o2.size)); clear h2 o2)
      go_roundg (gk - 1)
      case measure => omega
      case rel => exact ⟨m + 1, c9, by omega, by go_num, C2, T1, U1, S2, B2⟩
    · have em : m = M0 + 1 := by omega
      have hge : ¬ (m : Int) < (M0 : Int) + 1 := by omega
      have hmb : m ≤ 8 := by omega
      have HEM := hid em
      clear em
      have WC := hid (walk_c CK.out (by have := TK.out.k; have := TK.out.hM; omega))
      clear hlt
      go_wp2_with fail
      refine WC.out.mono ?_
      rintro _ w2 ⟨v2, ss, rfl, hW, hl8, hR, hb2⟩
      have C2 := hid (CK.out.later hb2)
      have B2 := hid (BK.out.trans (hb2.mono BK.out.size))
      have SR : Hid (∀ j, j < ss.length → 100 ≤ ss.getD j 0 ∧ ss.getD j 0 < 100 + (m : Int)) := hid (fun j hj => by
        have hmm : ss.getD j 0 ∈ ss := by simp only [List.getD, List.getElem?_eq_getElem hj]; exact List.getElem_mem hj
        have := ((hW.2 _).1 hmm).1
        rw [TK.out.dear] at this
        by_cases q : 100 ≤ ss.getD j 0 ∧ ss.getD j 0 < 100 + (m : Int)
        · exact q
        · rw [if_neg q] at this; cases this)
      have ALL : Hid (∀ i : Nat, i < m → (100 + (i : Int)) ∈ ss) := hid (fun i hi => (hW.2 _).2 ⟨by rw [TK.out.dear, if_pos (by omega)]; rfl, by
        cases hh : c.has (100 + (i : Int)) with
        | false => rfl
        | true => have := (TK.out.mem _).2 hh; simp at this⟩)
      have R2 := hid (hR.base2 SK.out)
      have S2 := hid (Nat.le_trans SK.out hb2.size)
      obtain ⟨a2, c2, e2, _⟩ := hR
      subst e2
      clear hb2 hW WC
      obtain ⟨L, hL⟩ : ∃ L, L = ss.length := ⟨_, rfl⟩
      rw [← hL] at hl8 SR R2
      rw [← hL]
      have HL := hid hL
      clear hL
      have T2 : Hid (TD c m []) := TK
      go_wp2_with fail
      go_loopg [8] L (fun gk j wr => ∃ (k : Nat) (c' : Ca) (us : List Int), k + gk = L ∧ j = .int .i64 k ∧ Hid (IsCa wr p w.heap.size p1 c') ∧ Hid (TD c' m us) ∧ Hid (c'.uses ≤ k) ∧ Hid (∀ j, j < k → ss.getD j 0 ∈ us) ∧ Hid (RdF wr (w.heap.size + 3) (.slice a2 L c2) ss) ∧ Hid (Below w.heap.size w wr))
      case atStart => exact ⟨0, c, [], by omega, rfl, C2, T2, hid (by rw [UK.out]; exact Int.le_refl _), hid (fun j hj => by omega), R2, B2⟩
      case round =>
        obtain ⟨k, c', us, hk, rfl, CX, TX, UX, MX, RX, BX⟩ := hrel
        by_cases hkl : k < L
        · have hkI : (k : Int) < L := by omega
          obtain ⟨eL, _, hr7⟩ := RX.out.at
          obtain ⟨g7, o7, ea, _, hc7⟩ := hr7 (by omega)
          subst ea
          have k0 := hc7 k hkl
          obtain ⟨r1, r2⟩ := SR.out k hkl
          have PC := hid (put_c CX.out (by have := TX.out.len; have := TX.out.few; omega) TX.out.ulo (by have := UX.out; omega) TX.out.rise (i := ss.getD k 0) (by omega) (by omega))
          obtain ⟨e1, us', t1, m1, s1⟩ := TX.out.put (f := ss.getD k 0) (by omega) (by omega)
          have T9 := hid t1
          have U9 : Hid ((c'.putS (ss.getD k 0) (c'.nextOf (sortF us))).uses ≤ ((k + 1 : Nat) : Int)) := hid (by have h1 := TD.uses_put (c := c') (ss.getD k 0) (c'.nextOf (sortF us)); have h2 := UX.out; omega)
          have M9 : Hid (∀ j, j < k + 1 → ss.getD j 0 ∈ us') := hid (fun j hj => by
            by_cases q : j = k
            · rw [q]; exact m1
            · exact s1 _ (MX.out j (by omega)) (SR.out j (by omega)))
          clear eL hr7 hc7 e1 t1 m1 s1 r1 r2
          generalize (c'.putR (ss.getD k 0) (c'.nextOf (sortF us))).1 = g1 at *
          generalize (c'.putR (ss.getD k 0) (c'.nextOf (sortF us))).2 = g2 at *
          generalize c'.putS (ss.getD k 0) (c'.nextOf (sortF us)) = c9 at *
          generalize ss.getD k 0 = x at *
          go_wp2_with (go_at_call 7; refine PC.out.mono ?_; rintro _ w3 ⟨rfl, h3, o3⟩; (have C3 := hid h3); (have B3 := hid (BX.out.trans (o3.below BX.out.size TB.out))); (have R3 := hid (RX.out.out o3 (fun q e => by rcases e with e | e | e <;> omega))); clear h3 o3)
          go_roundg (gk - 1)
          case measure => omega
          case rel => exact ⟨k + 1, c9, us', by omega, by go_num, C3, T9, U9, M9, R3, B3⟩
        · have ek : k = L := by omega
          subst ek
          have hge2 : ¬ (k : Int) < k := by omega
          have AL : Hid (∀ i : Nat, i < m → (100 + (i : Int)) ∈ us) := hid (fun i hi => by
            obtain ⟨j, hj, e⟩ := List.getElem_of_mem (ALL.out i hi)
            have h1 := MX.out j (by rw [HL.out]; exact hj)
            have h2 : ss.getD j 0 = 100 + (i : Int) := by simp [List.getD, List.getElem?_eq_getElem hj, e]
            rw [h2] at h1; exact h1)
          obtain ⟨N3, hN3⟩ : ∃ N3, N3 = min len 60 := ⟨_, rfl⟩
          have hn1 : N3 ≤ len := by omega
          have hn2 : N3 ≤ 60 := by omega
          have hn3 : N3 < len → N3 = 60 := by omega
          have hml : len ≤ maxLen := HB.out.2.1
          clear hN3 hkl
          go_wp2_with fail
          go_loopg [10] N3 (fun gk j wr => ∃ (q : Nat) (c' : Ca) (us : List Int), q + gk = N3 ∧ j = .int .i64 q ∧ Hid (IsCa wr p w.heap.size p1 c') ∧ Hid (TD c' m us) ∧ Hid (c'.uses ≤ 8 + q) ∧ Hid (∀ i : Nat, i < m → (100 + (i : Int)) ∈ us) ∧ Hid (Below w.heap.size w wr))
          case atStart => exact ⟨0, c', us, by omega, rfl, CX, TX, hid (by have := UX.out; omega), AL, BX⟩
          case round =>
            obtain ⟨q, d, vs, hq, rfl, CY, TY, UY, AY, BY⟩ := hrel
            by_cases hql : q < N3
            · have hl1 : (q : Int) < (len : Int) := by omega
              have hl2 : (q : Int) < 60 := by omega
              obtain ⟨sb, so, ea, hcell⟩ := (HB.out.later BY.out).2.2.1 (by omega)
              have hc := hcell q (by omega)
              have hzb := HB.out.2.2.2 q
              subst ea
              clear hcell
              generalize zs.getD q 0 = z at *
              have hw2 : IntKind.u32.wrap (z + 1000) = z + 1000 := by rw [IntKind.wrap_u32]; omega
              have hw3 : IntKind.u32.wrap z = z := by rw [IntKind.wrap_u32]; omega
              have PC := hid (put_c CY.out (by have := TY.out.len; have := TY.out.few; omega) TY.out.ulo (by have := UY.out; omega) TY.out.rise (i := z + 1000) (by omega) (by omega))
              obtain ⟨e1, us', t1, m1, s1⟩ := TY.out.put (f := z + 1000) (by omega) (by omega)
              rw [e1] at PC
              have T9 := hid t1
              have U9 : Hid ((d.putS (z + 1000) (d.nextOf (sortF vs))).uses ≤ 8 + ((q + 1 : Nat) : Int)) := hid (by have h1 := TD.uses_put (c := d) (z + 1000) (d.nextOf (sortF vs)); have h2 := UY.out; omega)
              have A9 : Hid (∀ i : Nat, i < m → (100 + (i : Int)) ∈ us') := hid (fun i hi => s1 _ (AY.out i hi) (by omega))
              clear e1 t1 m1 s1
              generalize (d.putR (z + 1000) (d.nextOf (sortF vs))).1 = g1 at *
              generalize d.putS (z + 1000) (d.nextOf (sortF vs)) = c9 at *
              go_wp2_with (go_at_call 7; refine PC.out.mono ?_; rintro _ w3 ⟨rfl, h3, o3⟩; (have C3 := hid h3); (have B3 := hid (BY.out.trans (o3.below BY.out.size TB.out))); clear h3 o3)
              go_roundg (gk - 1)
              case measure => omega
              case rel => exact ⟨q + 1, c9, us', by omega, by go_num, C3, T9, U9, A9, B3⟩
            · have eq9 : q = N3 := by omega
              subst eq9
              have hout : ((q : Int) < (len : Int) ∧ ¬ (q : Int) < 60) ∨ ¬ (q : Int) < (len : Int) := by
                by_cases hl : q < len
                · have := hn3 hl
                  exact .inl ⟨by omega, by omega⟩
                · exact .inr (by omega)
              clear hn3 hql
              rcases hout with ⟨d1, d2⟩ | d1
              all_goals (
                go_wp2_with fail
                go_loopg [13] m (fun gk j wx => ∃ i : Nat, i + gk = m ∧ j = .int .i64 i ∧ Hid (Below wr.heap.size wr wx))
                case atStart => exact ⟨0, by omega, rfl, hid (Below.refl _ _)⟩
                case round =>
                  obtain ⟨i, hi, rfl, HX⟩ := hrel
                  by_cases hil : i < m
                  · have hiI : (i : Int) < (M0 : Int) + 1 := by have := HEM.out; omega
                    have hw1 : IntKind.u32.wrap (100 + (i : Int)) = 100 + (i : Int) := by rw [IntKind.wrap_u32]; omega
                    have HC := hid (has_c (CY.out.later HX.out) (i := 100 + (i : Int)) (by omega) (by omega))
                    rw [(TY.out.mem _).1 (AY.out i hil)] at HC
                    go_wp2_with (go_at_call 8; refine HC.out.mono ?_; rintro _ w8 ⟨rfl, hb8⟩; (have B8 := hid hb8); clear hb8)
                    go_roundg (gk - 1)
                    case measure => omega
                    case rel => exact ⟨i + 1, by omega, by go_num, hid (HX.out.trans (B8.out.mono HX.out.size))⟩
                  · have hge3 : ¬ (i : Int) < (M0 : Int) + 1 := by have := HEM.out; omega
                    have C8 := hid (CY.out.later HX.out)
                    have B8 := hid (BY.out.trans (HX.out.mono BY.out.size))
                    have WC := hid (walk_c C8.out (by have := TY.out.k; have := TY.out.hM; omega))
                    have few := TY.out.few
                    clear hil
                    go_wp2_with fail
                    refine WC.out.mono ?_
                    rintro _ w8 ⟨v8, s8, rfl, hW8, _, hR8, hb8⟩
                    have e8 := td_none TY.out hW8 AY.out
                    subst e8
                    obtain ⟨a8, c8, e8, _⟩ := hR8
                    subst e8
                    have LC := hid (td_list (C8.out.later hb8) TY.out)
                    have B9 := hid (B8.out.trans (hb8.mono B8.out.size))
                    have fewI : (vs.length : Int) ≤ 10 := by omega
                    have fewD : decide ((vs.length : Int) ≤ 10) = true := decide_eq_true fewI
                    clear hb8 hW8
                    go_wp2_with (go_at_call 9; refine LC.out.mono ?_; rintro _ w9 ⟨⟨a9, cap9, rfl⟩, hb9⟩; (have B10 := hid (B9.out.trans (hb9.mono B9.out.size))); clear hb9)
                    go_ret
                    exact ⟨by first | rfl | exact ret_bool (by simp), B10.out⟩)
/-! ### The row of TopDear -/
theorem topDear_own : ownKnob Try.prog.godebug = none := by kernel_rfl
theorem topDear_laidOut : laidOutB Try.prog = true := by kernel_rfl
set_option maxRecDepth 100000 in
theorem topDear_lifted (os : Os) (started : os.Started) (H : Type) (enc : TypeId × Value → H) :
    ReturnsInHanded {} Try.checked os 3 .any (Rows.topDearSpec.pre6 enc Try.prog Try.f3 Rows.topDearRow.domain false) (Rows.topDearSpec.post enc Try.prog Try.f3 false true false false) := by
  refine returnsInHanded_of_change (C := Try.checked) topDear_own started (by kernel_rfl) Try.func3
    (ChangeSpec.witness6 (enc := enc) (C := Try.checked) false ⟨#[], #[.int .u8 0, .slice none 0 0], []⟩ 8 (by kernel_rfl) (by kernel_rfl) (by kernel_rfl) (by kernel_rfl)) ?_
  intro W base args ds gs before hval0 hW hcnd _
  have hval : ∀ (j : Nat) t v, Try.f3.params[j]? = some t → args[j]? = some v → Value.okWide Try.prog W .any base t v := hval0
  have hW' := hW
  obtain ⟨p, q, hA0, hV, rfl, hfz, hnd⟩ := hW
  have hA : DataW.TrodAll enc Try.prog W 0 (fun _ => true) true Try.f3.params.toList args.toList ds p := hA0
  rw [Try.params3] at hA hval
  obtain ⟨v0, vs0, d0, ds0, p0, q0, hargs, rfl, rfl, h0, r0⟩ := trodAll_cons hA
  obtain ⟨v1, vs1, d1, ds1, p1, q1, rfl, rfl, rfl, h1, r1⟩ := trodAll_cons r0
  obtain ⟨rfl, rfl, rfl⟩ := trodAll_nil r1
  obtain rfl : args = #[v0, v1] := by cases args; simp_all
  obtain ⟨rfl, rfl⟩ := trodVars_none hV
  obtain ⟨a0, rfl, rfl, rfl, w0⟩ := open_int Try.underlying5 (hval 0 5 v0 rfl rfl) h0
  have k1 := h1
  have lt1 : ∀ x ∈ p1, x.block < W.heap.size := by obtain ⟨m, hm⟩ := k1; exact DataW.trod_lt m _ _ _ hm
  obtain ⟨a1, len1, cap1, rfl⟩ := okWide_slice Try.underlying22 (hval 1 22 v1 rfl rfl)
  obtain ⟨z1, w1, lc1⟩ := isB_of Try.underlying22 Try.underlying5 (by kernel_rfl) h1
  clear hA0 hval0
  refine (topDear_walk a0 w0 a1 len1 cap1 z1 lc1 W w1).mono fun e W' ⟨he, bel⟩ => ?_
  subst he
  exact ⟨_, rfl, _, _, _, [], _, [], hW', trodAll_mk1 (shut_bool Try.underlying4 _), (trodAll_cons_mk (shut_int Try.underlying5 w0) (trodAll_cons_mk (Below.trod topDear_laidOut (by kernel_rfl) (of_decide_eq_true (by kernel_rfl)) k1 bel lt1) trodAll_mk0)), rfl, bel.frame _, fun h => by cases h⟩
theorem topDear_over : Rows.topDearRow.holds Try.pinned (OpenSpec.ofChange Rows.topDearSpec) :=
  OpenClaim.holds_of_wide 3 Try.f3 rfl rfl rfl rfl rfl rfl rfl ⟨rfl, rfl, rfl, rfl, rfl⟩ rfl rfl rfl rfl rfl (by kernel_rfl) Try.func3 (by kernel_rfl)
    (of_decide_eq_true (by kernel_rfl)) (by unfold Func.isWrapper; first | (rw [if_pos (by decide +kernel)]; kernel_rfl) | (rw [if_neg (by decide +kernel)]; exact ⟨rfl, rfl⟩))
    (fun os started H enc _ => topDear_lifted os started H enc)
/-- The statement. -/
theorem topDear_holds : Rows.TopDearSaid := topDear_over
#print axioms topDear_holds

end Go.Proofs.Ytilcbkejmpfnfab
