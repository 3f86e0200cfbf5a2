/-
  For every number, every deeds (the first twenty are done) and one that is torn: behind a Torn the groups are as they were, or as behind it, whatever is kept.
-/
import Derived.Test.YtfmkgflhgapeoaaGN
namespace Go.Proofs.Ytfmkgflhgapeoaa
open Go.ChangeShapes Go.WideShapes Go.ChangeAt Go.RowKit Go.Maps
open Go.ChangeMaps (open_string shut_string)
set_option linter.unusedVariables false
set_option linter.unusedSimpArgs false
set_option maxRecDepth 100000 in
set_option maxHeartbeats 2000000 in
theorem jtorn_walk (n : Nat) (hn : n < 256) (a : Option Addr) (len cap : Nat) (f : Nat → De) (x : De) (w : World) (h : IsD5s w a len f) (hx : x.Ok w) :
    Calls Try.prog 6 #[.int .u8 n, .slice a len cap, x.val] w fun e w' => e = .returned (.bool true) ∧ Below w.heap.size w w' := by
  obtain ⟨xk, xga, xgl, xgc, xg, xr, xst, xa, xlen, xcap, xzs⟩ := x
  show Calls Try.prog 6 #[.int .u8 n, .slice a len cap, .agg #[.int .i64 xk, .slice xga xgl xgc, .bool xr, .int .i64 xst, .slice xa xlen xcap]] w _
  have hb0 : Below w.heap.size w (w.alloc (.cells #[.int .i64 xk, .slice xga xgl xgc, .bool xr, .int .i64 xst, .slice xa xlen xcap] 42)) := (Below.refl _ _).alloc (Nat.le_refl _) _
  have HX : Hid (BoxJ (w.alloc (.cells #[.int .i64 xk, .slice xga xgl xgc, .bool xr, .int .i64 xst, .slice xa xlen xcap] 42)) w.heap.size xk xga xgl xgc xr xst xa xlen xcap) := heap_alloc_new w _
  have PC := hid (jplay_c n hn a len cap f (h.later hb0))
  have HB0 := hid hb0
  have HXO := hid hx
  clear h hx hb0
  go_enter Try.func6, Try.ntmps6
  go_wp2_with fail
  generalize (w.alloc (.cells #[.int .i64 xk, .slice xga xgl xgc, .bool xr, .int .i64 xst, .slice xa xlen xcap] 42)) = W0 at *
  refine PC.out.mono ?_
  rintro _ w1 ⟨j, d, b1, b2, rj, r, on, c, rfl, hP, hgd, hl, hb1⟩
  obtain ⟨rfl, k, t, L, hH⟩ := hgd
  have HJ := hid hP.1
  have HH := hid hH
  have HX1 := hid (HX.out.later hb1)
  have HB1 := hid (HB0.out.trans (hb1.mono HB0.out.size))
  have hN8 := hP.1.2.2
  have hlo : w.heap.size ≤ b1 ∧ w.heap.size ≤ b2 := by have := HB0.out.size; omega
  generalize n % 56 + 8 = N at *
  clear hP hb1 PC hH
  go_wp2_with fail
  refine (jlive_c _).mono ?_
  rintro _ w2 ⟨rfl, hb2⟩
  have HJ2 := hid (HJ.out.later hb2)
  have HX2 := hid (HX1.out.later hb2)
  have HB2 := hid (HB1.out.trans (hb2.mono HB1.out.size))
  obtain ⟨x0, x1, x2, x3, x4⟩ := HX2.out.cells
  have FC := hid (few_c xga xgl xgc xg w2 (HXO.out.2.2.1.1.later HB2.out) HXO.out.2.2.1.2.1)
  clear hb2
  go_wp2_with fail
  refine FC.out.mono ?_
  rintro _ w3 ⟨fa, fc, rfl, hG3, hfc, hfn, hb3⟩
  have HJ3 := hid (HJ2.out.later hb3)
  have HX3 := hid (HX2.out.later hb3)
  have HB3 := hid (HB2.out.trans (hb3.mono HB2.out.size))
  have HG3 := hid hG3
  have hgr0 : grps (vw on fun _ => none) N = L := HH.out.grps (fun i => HJ3.out.2.1.sec i)
  have G1 := hid (groups_all_c HJ3.out)
  rw [hgr0] at G1
  generalize fewG xg = g' at *
  have hLl := HH.out.len
  have HOK0 := hid HH.out.oks
  clear hb3 hG3 FC hgr0 x0 x1 x2 x3 x4
  go_wp2_with fail
  refine G1.out.mono ?_
  rintro _ w4 ⟨v4, rfl, hP4, hb4⟩
  obtain ⟨a4, c4, hv4⟩ := hP4.shape
  subst hv4
  have HP4 := hid hP4
  have HJ4 := hid (HJ3.out.later hb4)
  have HX4 := hid (HX3.out.later hb4)
  have HB4 := hid (HB3.out.trans (hb4.mono HB3.out.size))
  have HG4 := hid (HG3.out.later hb4)
  obtain ⟨x0, x1, x2, x3, x4⟩ := HX4.out.cells
  have TC := hid (jtorn_c HJ4.out HH.out fa _ fc g' HG4.out xr xst xa xlen xcap xzs (HXO.out.2.2.2.lat HB4.out))
  clear hP4 hb4 G1
  go_wp2_with fail
  refine TC.out.mono ?_
  rintro e w5 ⟨nn, rfl, ⟨on5, L5, k5, t5, hJ5, hH5, hcase⟩, ho5⟩
  have HKC := hid (kc_disk HJ4.out.2.1 ho5)
  have HB5 := hid (HB4.out.trans (ho5.below HB4.out.size (fun q e => by rcases e with e | e <;> omega)))
  have HX5 := hid (HX4.out.kc HKC.out)
  have HG5 := hid (HG4.out.kc HKC.out)
  have HP5 := hid (HP4.out.keep HKC.out)
  have hgr5 : grps (vw on5 fun _ => none) N = L5 := hH5.grps (fun i => hJ5.2.1.sec i)
  have G5 := hid (groups_all_c hJ5)
  rw [hgr5] at G5
  have hLl5 := hH5.len
  have HOK5 := hid hH5.oks
  have HCS := hid hcase
  clear hJ5 hH5 hgr5 TC x0 x1 x2 x3 x4 hcase ho5
  go_wp2_with fail
  refine G5.out.mono ?_
  rintro _ w6 ⟨v6, rfl, hP6, hb6⟩
  obtain ⟨a6, c6, hv6, hG6, hc6⟩ := hP6.isGs (by omega) HOK5.out
  subst hv6
  have HI6 := hid hG6
  have HX6 := hid (HX5.out.later hb6)
  have HG6 := hid (HG5.out.later hb6)
  have HP6 := hid (HP5.out.later hb6)
  have HB6 := hid (HB5.out.trans (hb6.mono HB5.out.size))
  obtain ⟨a4', c4', hv4', hI4, _⟩ := HP6.out.isGs (by omega) HOK0.out
  cases hv4'
  have HI4 := hid hI4
  obtain ⟨x0, x1, x2, x3, x4⟩ := HX6.out.cells
  clear hP6 hb6 hG6 hI4 G5
  by_cases hnn : nn = 0
  · subst hnn
    have HCS2 : Hid (L5 = L ∨ L5 = if xr then [g'] else L ++ [g']) := by
      rcases HCS.out with ⟨h0, _⟩ | ⟨_, h1⟩
      · exact absurd rfl h0
      · exact h1
    clear HCS
    obtain ⟨vals, hrow, hone, hall⟩ := HP6.out.vals HOK0.out
    have HRW := hid hrow
    have HON := hid hone
    have HAL := hid hall
    clear hrow hone hall
    cases xr with
    | true =>
      obtain ⟨i0, hi, hzi0, hzi1, hzi2⟩ := info30
      go_wp2_with (at_builtin; refine wpList_append_own _ rfl _ _ 32 rfl w6.heap.size 30 i0 (.slice none 0 0) 1 24 Try.underlying32 hi hzi0 hzi1 hzi2 rfl (by decide) _ _ _ rfl (World.ownsRow_nil _ w6.heap.size 30 1) ⟨w6.heap.size, 0, none⟩ 1 1 [.slice fa g'.length fc] rfl rfl (cell_one_new _ _ _) (fun y hy => by simp at hy; subst hy; rfl) (by unfold maxLen; omega) (by omega) (by simp) ?_; intro v9 w9 hown9 hgrow9 hnil9; (have B9 := hid (below_grown ((Below.refl w6.heap.size w6).alloc (Nat.le_refl _) (.cells #[.slice fa g'.length fc] 30)) (World.ownsRow_nil _ w6.heap.size 30 1) (Nat.le_refl _) (by simp) hgrow9)); (obtain ⟨a9, c9, hv9, hI9⟩ := own_isGs (L := [g']) (by simpa using hown9) (by simp) (fun i hi => by obtain rfl : i = 0 := (by simpa using hi); exact ⟨fa, fc, rfl, HG6.out.later B9.out⟩)); (rw [show [g'].length = 1 from rfl] at hv9 hI9); subst hv9; (have HI9 := hid hI9); clear hown9 hgrow9 hnil9 hI9)
      have S1 := hid (rsame_both a6 a4 _ _ c6 c4 L5 L w9 (HI6.out.later B9.out) (HI4.out.later B9.out))
      clear HRW HON HAL
      go_wp2_with fail
      refine S1.out.mono ?_
      rintro _ w10 ⟨⟨x, rfl, hxe⟩, hb10⟩
      have HB10 := hid (HB6.out.trans ((B9.out.trans (hb10.mono B9.out.size)).mono HB6.out.size))
      have S2 := hid (rsame_both a6 a9 _ _ c6 c9 L5 ([g']) w10 ((HI6.out.later B9.out).later hb10) (HI9.out.later hb10))
      cases x with
      | true =>
        clear hxe
        go_wp2
        go_ret
        exact ⟨rfl, HB10.out⟩
      | false =>
        have HL5 : Hid (L5 = [g']) := by
          rcases HCS2.out with e | e
          · exact absurd (hxe e) (by decide)
          · exact e
        clear hxe hb10
        go_wp2_with fail
        refine S2.out.mono ?_
        rintro _ w11 ⟨⟨y, rfl, hye⟩, hb11⟩
        have hy := hye HL5.out
        subst hy
        clear hye HL5
        go_wp2
        go_ret
        exact ⟨rfl, HB10.out.trans (hb11.mono HB10.out.size)⟩
    | false =>
      obtain ⟨i0, hi, hzi0, hzi1, hzi2⟩ := info30
      have T1 : Hid True := hid trivial
      go_wp2_with (first
        | (have _q := T1.out; clear _q; at_builtin; refine wpList_appendG _ rfl _ _ rfl w6.heap.size _ 0 [] rfl (World.ownsRow_nil _ w6.heap.size 30 1) _ _ _ vals rfl HRW.out HON.out (by omega) (Nat.le_refl _) ?_; intro v8 w8 hown8 hgrow8; clear T1; (have T2 : Hid True := hid trivial); (have B8 := hid (below_grown (Below.refl w6.heap.size w6) (World.ownsRow_nil _ w6.heap.size 30 1) (Nat.le_refl _) (Nat.le_refl _) hgrow8)); (have hown8' : w8.ownsRow w6.heap.size 30 1 v8 L.length vals := by simpa using hown8); (obtain ⟨a8, c8, hv8⟩ := own_shape6 hown8'); subst hv8; (have HO8 := hid hown8'); clear hown8 hown8' hgrow8)
        | (have _q := T2.out; clear _q; at_builtin; refine wpList_append_own _ rfl _ _ 32 rfl w6.heap.size 30 i0 (.slice none 0 0) 1 24 Try.underlying32 hi hzi0 hzi1 hzi2 rfl (by decide) _ _ _ rfl (HO8.out.alloc _) ⟨w8.heap.size, 0, none⟩ 1 1 [.slice fa g'.length fc] rfl rfl (cell_one_new _ _ _) (fun y hy => by simp at hy; subst hy; rfl) (by unfold maxLen; omega) (by omega) (by have := B8.out.size; simp; omega) ?_; intro v9 w9 hown9 hgrow9 hnil9; clear T2; (have B9 := hid (below_grown (B8.out.alloc B8.out.size (.cells #[.slice fa g'.length fc] 30)) (HO8.out.alloc _) (Nat.le_refl _) (by have := B8.out.size; simp; omega) hgrow9)); (have hvl : vals.length = L.length := by simpa using HO8.out.1); (obtain ⟨a9, c9, hv9, hI9⟩ := own_isGs (L := L ++ [g']) (by simpa using hown9) (by simp; omega) (each_snoc hvl (fun i hi => by obtain ⟨ga, gc, e1, e2⟩ := HAL.out i hi; exact ⟨ga, gc, e1, e2.later B9.out⟩) (HG6.out.later B9.out))); (rw [show (L ++ [g']).length = L.length + 1 by simp] at hv9 hI9); subst hv9; (have HI9 := hid hI9); clear hown9 hgrow9 hnil9 hI9))
      have S1 := hid (rsame_both a6 a4 _ _ c6 c4 L5 L w9 (HI6.out.later B9.out) (HI4.out.later B9.out))
      clear HRW HON HAL
      go_wp2_with fail
      refine S1.out.mono ?_
      rintro _ w10 ⟨⟨x, rfl, hxe⟩, hb10⟩
      have HB10 := hid (HB6.out.trans ((B9.out.trans (hb10.mono B9.out.size)).mono HB6.out.size))
      have S2 := hid (rsame_both a6 a9 _ _ c6 c9 L5 (L ++ [g']) w10 ((HI6.out.later B9.out).later hb10) (HI9.out.later hb10))
      cases x with
      | true =>
        clear hxe
        go_wp2
        go_ret
        exact ⟨rfl, HB10.out⟩
      | false =>
        have HL5 : Hid (L5 = L ++ [g']) := by
          rcases HCS2.out with e | e
          · exact absurd (hxe e) (by decide)
          · exact e
        clear hxe hb10
        go_wp2_with fail
        refine S2.out.mono ?_
        rintro _ w11 ⟨⟨y, rfl, hye⟩, hb11⟩
        have hy := hye HL5.out
        subst hy
        clear hye HL5
        go_wp2
        go_ret
        exact ⟨rfl, HB10.out.trans (hb11.mono HB10.out.size)⟩
  · have e1 : (nn != 0) = true := by simpa using hnn
    have e2 : (nn == 0) = false := by simpa using hnn
    have hLL : L5 = L := by
      rcases HCS.out with ⟨_, h1⟩ | ⟨h1, _⟩
      · exact h1
      · exact absurd h1 hnn
    subst hLL
    have SC := hid (rsame_eq a6 a4 _ c6 c4 L5 w6 HI6.out HI4.out)
    clear hnn
    go_wp2_with (go_at_call 17; refine SC.out.mono ?_; rintro _ w7 ⟨rfl, hb7⟩)
    go_ret
    exact ⟨rfl, HB6.out.trans (hb7.mono HB6.out.size)⟩
theorem journalTorn_walk (n : Int) (wn : (Lit.int .u8 n).wf = true) (a : Option Addr) (len cap : Nat) (f : Nat → De) (x : De) (w : World) (h : IsD5s w a len f) (hx : x.Ok w) :
    Calls Try.prog 6 #[.int .u8 n, .slice a len cap, x.val] w fun e w' => e = .returned (.bool true) ∧ Below w.heap.size w w' := by
  have hb := bd_u8 wn
  obtain ⟨m, rfl⟩ : ∃ m : Nat, n = (m : Int) := ⟨n.toNat, by omega⟩
  exact jtorn_walk m (by omega) a len cap f x w h hx
/-! ### The row of JournalTorn -/
theorem journalTorn_own : ownKnob Try.prog.godebug = none := by kernel_rfl
theorem journalTorn_laidOut : laidOutB Try.prog = true := by kernel_rfl
set_option maxRecDepth 100000 in
theorem journalTorn_lifted (os : Os) (started : os.Started) (H : Type) (enc : TypeId × Value → H) :
    ReturnsInHanded {} Try.checked os 6 .any (Rows.journalTornSpec.pre6 enc Try.prog Try.f6 Rows.journalTornRow.domain false) (Rows.journalTornSpec.post enc Try.prog Try.f6 false true false false) := by
  refine returnsInHanded_of_change (C := Try.checked) journalTorn_own started (by kernel_rfl) Try.func6
    (ChangeSpec.witness6 (enc := enc) (C := Try.checked) false ⟨#[], #[.int .u8 0, .slice none 0 0, .agg #[.int .i64 0, .slice none 0 0, .bool false, .int .i64 0, .slice none 0 0]], []⟩ 8 (by kernel_rfl) (by kernel_rfl) (by kernel_rfl) (by kernel_rfl)) ?_
  intro W base args ds gs before hval0 hW hcnd _
  have hval : ∀ (j : Nat) t v, Try.f6.params[j]? = some t → args[j]? = some v → Value.okWide Try.prog W .any base t v := hval0
  have hW' := hW
  obtain ⟨p, q, hA0, hV, rfl, hfz, hnd⟩ := hW
  have hA : DataW.TrodAll enc Try.prog W 0 (fun _ => true) true Try.f6.params.toList args.toList ds p := hA0
  rw [Try.params6] at hA hval
  obtain ⟨v0, vs0, d0, ds0, p0, q0, hargs, rfl, rfl, h0, r0⟩ := trodAll_cons hA
  obtain ⟨v1, vs1, d1, ds1, p1, q1, rfl, rfl, rfl, h1, r1⟩ := trodAll_cons r0
  obtain ⟨v2, vs2, d2, ds2, p2, q2, rfl, rfl, rfl, h2, r2⟩ := trodAll_cons r1
  obtain ⟨rfl, rfl, rfl⟩ := trodAll_nil r2
  obtain rfl : args = #[v0, v1, v2] := by cases args; simp_all
  obtain ⟨rfl, rfl⟩ := trodVars_none hV
  obtain ⟨a0, rfl, rfl, rfl, w0⟩ := open_int Try.underlying5 (hval 0 5 v0 rfl rfl) h0
  have k1 := h1
  have lt1 : ∀ x ∈ p1, x.block < W.heap.size := by obtain ⟨m, hm⟩ := k1; exact DataW.trod_lt m _ _ _ hm
  obtain ⟨a1, len1, cap1, rfl⟩ := okWide_slice Try.underlying22 (hval 1 22 v1 rfl rfl)
  obtain ⟨z1, w1⟩ := isD5s_of Try.underlying22 h1
  have k2 := h2
  have lt2 : ∀ x ∈ p2, x.block < W.heap.size := by obtain ⟨m, hm⟩ := k2; exact DataW.trod_lt m _ _ _ hm
  obtain ⟨q2, rfl, wq2⟩ := open_deed5 (hval 2 42 v2 rfl rfl) h2
  clear hA0 hval0
  refine (journalTorn_walk a0 w0 a1 len1 cap1 z1 q2 W w1 wq2).mono fun e W' ⟨he, bel⟩ => ?_
  subst he
  exact ⟨_, rfl, _, _, _, [], _, [], hW', trodAll_mk1 (shut_bool Try.underlying4 _), (trodAll_cons_mk (shut_int Try.underlying5 w0) (trodAll_cons_mk (Below.trod journalTorn_laidOut (by kernel_rfl) (of_decide_eq_true (by kernel_rfl)) k1 bel lt1) (trodAll_cons_mk (Below.trod journalTorn_laidOut (by kernel_rfl) (of_decide_eq_true (by kernel_rfl)) k2 bel lt2) trodAll_mk0))), rfl, bel.frame _, fun h => by cases h⟩
theorem journalTorn_over : Rows.journalTornRow.holds Try.pinned (OpenSpec.ofChange Rows.journalTornSpec) :=
  OpenClaim.holds_of_wide 6 Try.f6 rfl rfl rfl rfl rfl rfl rfl ⟨rfl, rfl, rfl, rfl, rfl⟩ rfl rfl rfl rfl rfl (by kernel_rfl) Try.func6 (by kernel_rfl)
    (of_decide_eq_true (by kernel_rfl)) (by unfold Func.isWrapper; first | (rw [if_pos (by decide +kernel)]; kernel_rfl) | (rw [if_neg (by decide +kernel)]; exact ⟨rfl, rfl⟩))
    (fun os started H enc _ => journalTorn_lifted os started H enc)
/-- The statement. -/
theorem journalTorn_holds : Rows.JournalTornSaid := journalTorn_over
#print axioms journalTorn_holds

end Go.Proofs.Ytfmkgflhgapeoaa
