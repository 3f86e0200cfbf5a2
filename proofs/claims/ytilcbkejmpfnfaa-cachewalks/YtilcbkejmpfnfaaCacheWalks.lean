/-
  For every number, all deeds and every object: Walk tells just those that are dear and not at hand, the dearest first.
-/
import Derived.Test.YtilcbkejmpfnfaaCAf
import Derived.Test.YtilcbkejmpfnfaaCWk
import Derived.Deep.CutRange
namespace Go.Proofs.Ytilcbkejmpfnfaa
open Go.RowKit Go.ChangeShapes Go.WideShapes Go.ChangeAt Go.Maps Go.Shelf
open Go.ChangeMaps (open_string shut_string)
set_option linter.unusedVariables false
set_option linter.unusedSimpArgs false
set_option maxRecDepth 100000
theorem Rl.dear_pos {c : Ca} {r : Rc} (h : Rl c r) (x : Int) : (c.d x).isSome = true ↔ 0 < c.dearN x := by
  unfold Ca.dearN
  cases hd : c.d x with
  | none => simp
  | some n =>
    have := (h.hrng (x, n) ((h.hmem x n).2 hd)).2
    simp
    omega
theorem Rl.dear_rng {c : Ca} {r : Rc} (h : Rl c r) {x : Int} (hx : (c.d x).isSome = true) : 0 ≤ x ∧ x < 4294967296 := by
  obtain ⟨n, hn⟩ := Option.isSome_iff_exists.1 hx
  have := (h.hrng (x, n) ((h.hmem x n).2 hn)).1
  simp only at this
  omega
theorem walk_found {c : Ca} {r : Rc} (h : Rl c r) {ss : List Int} (hw : WalkL c ss) (f : Int) : decide (f ∈ ss) = (decide (0 < c.dearN f) && !c.has f) := by
  have e := hw.2 f
  rw [h.dear_pos] at e
  cases hh : c.has f with
  | true =>
    rw [hh] at e
    rw [decide_eq_false (fun q => by have := (e.1 q).2; cases this)]
    simp
  | false =>
    rw [hh] at e
    by_cases q : 0 < c.dearN f
    · rw [decide_eq_true (e.2 ⟨q, rfl⟩), decide_eq_true q]; rfl
    · rw [decide_eq_false (fun p => q (e.1 p).1), decide_eq_false q]; rfl
theorem take_found (ss : List Int) (f : Int) {m : Nat} (h : m < ss.length) : decide (f ∈ ss.take (m + 1)) = (decide (f ∈ ss.take m) || (ss.getD m 0 == f)) := by
  have e : ss.take (m + 1) = ss.take m ++ [ss.getD m 0] := by rw [List.take_add_one, List.getElem?_eq_getElem h]; simp [List.getD, List.getElem?_eq_getElem h]
  rw [e]
  generalize ss.getD m 0 = x
  generalize ss.take m = l
  by_cases q : f ∈ l
  · rw [decide_eq_true (List.mem_append.2 (.inl q)), decide_eq_true q]; rfl
  · rw [decide_eq_false q, Bool.false_or]
    by_cases p : x = f
    · rw [decide_eq_true (List.mem_append.2 (.inr (by simp [p])))]; simp [p]
    · rw [decide_eq_false (fun h => by rcases List.mem_append.1 h with h | h; exact q h; simp at h; exact p h.symm)]; simp [p]
set_option maxHeartbeats 16000000 in
theorem cacheWalks_walk (n : Int) (wn : (Lit.int .u8 n).wf = true) (a : Option Addr) (len cap : Nat) (z : Nat → Dc) (f : Int) (wf : (Lit.int .u32 f).wf = true) (w : World) (hz : IsDc w a len z) :
    Calls Try.prog 7 #[.int .u8 n, .slice a len cap, .int .u32 f] w fun e w' => e = .returned (.bool true) ∧ Below w.heap.size w w' := by
  have hn := bd_u8 wn
  have hf := bd_u32 wf
  obtain ⟨M0, hM, eM⟩ := mod_ten hn.1 hn.2
  have PC := hid (play_c n hn.1 hn.2 hM eM a len cap z w hz)
  clear hz wn wf
  generalize min len 80 = N at *
  go_enter Try.func7, Try.ntmps7
  go_wp2_with fail
  refine PC.out.mono ?_
  rintro _ w1 ⟨p, b1, b2, g, vl, vh, rfl, hB, hK, hb⟩
  generalize (stP ((M0 : Int) + 1) z N).1 = c at *
  generalize (stP ((M0 : Int) + 1) z N).2 = r at *
  have H1 := hid hB.hc
  have RL := hid hB.rl
  have B1 := hid hb
  clear hB hK hb PC
  go_wp2_with fail
  refine (clive_c w1).mono ?_
  rintro _ w2 ⟨rfl, hb2⟩
  have H2 := hid (H1.out.later hb2)
  have B2 := hid (B1.out.trans (hb2.mono B1.out.size))
  clear hb2
  have hlen := RL.out.lens
  go_wp2_with fail
  refine (walk_c H2.out (by omega)).mono ?_
  rintro _ w3 ⟨v3, ss, rfl, hW, hl8, hR, hb3⟩
  have H3 := hid (H2.out.later hb3)
  have B3 := hid (B2.out.trans (hb3.mono B2.out.size))
  have R3 := hid hR
  have WL := hid hW
  have FND := hid (walk_found RL.out hW f)
  have EL : Hid (∀ k, k < ss.length → c.has (ss.getD k 0) = false ∧ 0 < c.dearN (ss.getD k 0) ∧ (0 ≤ ss.getD k 0 ∧ ss.getD k 0 < 4294967296)) := hid (fun k hk => by
    have hm : ss.getD k 0 ∈ ss := by simp only [List.getD, List.getElem?_eq_getElem hk]; exact List.getElem_mem hk
    obtain ⟨q1, q2⟩ := (hW.2 _).1 hm
    exact ⟨q2, (RL.out.dear_pos _).1 q1, RL.out.dear_rng q1⟩)
  have OD : Hid (∀ k, 0 < k → k < ss.length → c.dearN (ss.getD k 0) < c.dearN (ss.getD (k - 1) 0) ∨ c.dearN (ss.getD k 0) = c.dearN (ss.getD (k - 1) 0) ∧ ss.getD (k - 1) 0 < ss.getD k 0) := hid (fun k h0 hk => by
    have o := List.pairwise_iff_getElem.1 hW.1 (k - 1) k (by omega) hk (by omega)
    have e1 := (EL.out k hk).2.2
    have e2 := (EL.out (k - 1) (by omega)).2.2
    have x1 : ss.getD k 0 = ss[k] := by simp [List.getD, List.getElem?_eq_getElem hk]
    have x2 : ss.getD (k - 1) 0 = ss[k - 1] := by simp [List.getD, List.getElem?_eq_getElem (show k - 1 < ss.length by omega)]
    rw [← x1, ← x2] at o
    unfold Ca.rank at o
    omega)
  have TK : Hid (∀ m, m < ss.length → decide (f ∈ ss.take (m + 1)) = (decide (f ∈ ss.take m) || (ss.getD m 0 == f))) := hid (fun m hm => take_found ss f hm)
  obtain ⟨a3, c3, e3, _⟩ := hR
  subst e3
  clear hb3 hW
  have TA : Hid (decide (f ∈ ss.take ss.length) = decide (f ∈ ss)) := hid (by rw [List.take_length])
  obtain ⟨L, hL⟩ : ∃ L, L = ss.length := ⟨_, rfl⟩
  rw [← hL] at hl8 EL OD TK R3 TA
  rw [← hL]
  clear hL
  go_wp2_with fail
  go_loopg [11, 12] L (fun gk fv j wr => ∃ m : Nat, m + gk = L ∧ j = .int .i64 m ∧ fv = .bool (decide (f ∈ ss.take m)) ∧ Hid (Below w3.heap.size w3 wr))
  case atStart => exact ⟨0, by omega, rfl, by simp, hid (Below.refl _ _)⟩
  case round =>
    obtain ⟨m, hm, rfl, rfl, HB⟩ := hrel
    have HRW := hid (R3.out.later HB.out)
    by_cases hlt : m < L
    · have hltI : (m : Int) < L := by omega
      obtain ⟨eL, hcap7, hr7⟩ := HRW.out.at
      obtain ⟨g7, o7, ea, _, hc7⟩ := hr7 (by omega)
      subst ea
      have CELL : Hid (∀ W, Below wr.heap.size wr W → ∀ j, j < L → W.cell? ⟨g7, o7 + j, none⟩ = some (.int .u32 (ss.getD j 0))) := hid (fun W hb j hj => by
        obtain ⟨_, _, hr8⟩ := (HRW.out.later hb).at
        obtain ⟨g8, o8, ea, _, hc8⟩ := hr8 (by omega)
        cases ea
        exact hc8 j hj)
      have k0 := hc7 m hlt
      obtain ⟨x1, x2, x3, x4⟩ := EL.out m hlt
      have HCX : Hid (IsCa wr p b1 b2 c) := hid (H3.out.later HB.out)
      have A1 : ∀ W, Below wr.heap.size wr W → W.cell? ⟨g7, o7 + m, none⟩ = some (.int .u32 (ss.getD m 0)) := fun W hb => CELL.out W hb m hlt
      have HA : Hid (∀ W, Below wr.heap.size wr W → Calls Try.prog 14 #[pA p, .int .u32 (ss.getD m 0)] W fun e w' => e = .returned (.bool false) ∧ Below W.heap.size W w') := hid (fun W hb => by have := has_c (HCX.out.later hb) x3 x4; rw [x1] at this; exact this)
      have DA : Hid (∀ W, Below wr.heap.size wr W → Calls Try.prog 19 #[pA p, .int .u32 (ss.getD m 0)] W fun e w' => e = .returned (.int .i64 (c.dearN (ss.getD m 0))) ∧ Below W.heap.size W w') := hid (fun W hb => (dear_c (HCX.out.later hb) x3 x4).mono fun e w' q => ⟨q.1, by rw [q.2]; exact Below.refl _ _⟩)
      have TKm := TK.out m hlt
      have ODm : Hid (0 < m → c.dearN (ss.getD m 0) < c.dearN (ss.getD (m - 1) 0) ∨ c.dearN (ss.getD m 0) = c.dearN (ss.getD (m - 1) 0) ∧ ss.getD (m - 1) 0 < ss.getD m 0) := hid (fun q => OD.out m q hlt)
      have DB : Hid (0 < m → ∀ W, Below wr.heap.size wr W → Calls Try.prog 19 #[pA p, .int .u32 (ss.getD (m - 1) 0)] W fun e w' => e = .returned (.int .i64 (c.dearN (ss.getD (m - 1) 0))) ∧ Below W.heap.size W w') := hid (fun q W hb => (dear_c (HCX.out.later hb) (EL.out (m - 1) (by omega)).2.2.1 (EL.out (m - 1) (by omega)).2.2.2).mono fun e w' q => ⟨q.1, by rw [q.2]; exact Below.refl _ _⟩)
      have A2 : Hid (0 < m → ∀ W, Below wr.heap.size wr W → W.cell? ⟨g7, o7 + (m - 1), none⟩ = some (.int .u32 (ss.getD (m - 1) 0))) := hid (fun q W hb => CELL.out W hb (m - 1) (by omega))
      have NX : Hid (decide (f ∈ ss.take (m + 1)) = (decide (f ∈ ss.take m) || (ss.getD m 0 == f))) := hid TKm
      have dx1 : ¬ c.dearN (ss.getD m 0) < 1 := by omega
      have dx2 : decide (c.dearN (ss.getD m 0) < 1) = false := decide_eq_false dx1
      clear eL hr7 hc7 TKm x1 x3 x4 hcap7 x2
      generalize decide (f ∈ ss.take m) = fb at *
      generalize ss.getD m 0 = x at *
      generalize ss.getD (m - 1) 0 = y at *
      generalize c.dearN x = dx at *
      generalize c.dearN y = dy at *
      go_upto_region 9 with fail
      go_cut [11] from 34 to 42 (fun s11 wx => s11 = .bool (fb || (x == f)) ∧ wx = wr)
      case first =>
        cases fb with
        | true =>
          go_wp2_with fail
          go_meet
          exact ⟨rfl, rfl⟩
        | false =>
          cases hq : (x == f) with
          | true =>
            go_wp2_with fail
            go_meet
            exact ⟨by rw [hq]; rfl, rfl⟩
          | false =>
            go_wp2_with fail
            go_meet
            exact ⟨by rw [hq]; rfl, rfl⟩
      obtain ⟨rfl, hwx⟩ := hcut
      subst hwx
      by_cases h0 : 0 < m
      · have h0I : (0 : Int) < (m : Int) := by omega
        have h0D : decide ((0 : Int) < (m : Int)) = true := decide_eq_true h0I
        have hj1 : (m : Int) - 1 = ((m - 1 : Nat) : Int) := by omega
        have hj1n : ((m - 1 : Nat) : Int) < (L : Int) := by omega
        have hwr : IntKind.i64.wrap ((m - 1 : Nat) : Int) = ((m - 1 : Nat) : Int) := wrap_small (by omega) (by omega)
        have A3 := A2.out h0
        have DY := hid (DB.out h0)
        rcases ODm.out h0 with q | ⟨q, q2⟩
        · have g1 : decide (dx > dy) = false := decide_eq_false (by omega)
          have g2 : decide (dy < dx) = false := decide_eq_false (by omega)
          have g3 : (dx == dy) = false := by rw [beq_eq_false_iff_ne]; omega
          have g4 : ¬ dy < dx := by omega
          clear q ODm DB A2 OD TK EL CELL
          go_wp2_with fail
          refine wp_region_class (by kernel_rfl) (by kernel_rfl) ?_
          repeat (first
            | go_big_quiet_skip
            | (go_big_quiet_want
               apply quiet_by
               · intro w1 hw1
                 go_simp
                 first
                   | rfl
                   | (go_at_call 14; with_reducible exact class_of hw1 (HA.out _ hw1))
                   | (go_at_call 19; with_reducible exact class_of hw1 (DA.out _ hw1))
                   | (go_at_call 19; with_reducible exact class_of hw1 (DY.out _ hw1))
               · go_simp; rfl
               go_big_quiet_on))
          refine wpQuiet_nil ?_
          intro w8 hw8
          go_wp2
          go_roundg (gk - 1)
          case measure => omega
          case rel => exact ⟨m + 1, by omega, by go_num, by rw [NX.out], hid (HB.out.trans (hw8.mono HB.out.size))⟩
        · have g1 : decide (dx > dy) = false := decide_eq_false (by omega)
          have g2 : decide (dy < dx) = false := decide_eq_false (by omega)
          have g3 : (dx == dy) = true := by rw [beq_iff_eq]; exact q
          have g4 : ¬ dy < dx := by omega
          have g5 : ¬ x ≤ y := by omega
          have g6 : decide (x ≤ y) = false := decide_eq_false g5
          clear q q2 ODm DB A2 OD TK EL CELL
          go_wp2_with fail
          refine wp_region_class (by kernel_rfl) (by kernel_rfl) ?_
          repeat (first
            | go_big_quiet_skip
            | (go_big_quiet_want
               apply quiet_by
               · intro w1 hw1
                 go_simp
                 first
                   | rfl
                   | (go_at_call 14; with_reducible exact class_of hw1 (HA.out _ hw1))
                   | (go_at_call 19; with_reducible exact class_of hw1 (DA.out _ hw1))
                   | (go_at_call 19; with_reducible exact class_of hw1 (DY.out _ hw1))
               · go_simp; rfl
               go_big_quiet_on))
          refine wpQuiet_nil ?_
          intro w8 hw8
          go_wp2
          go_roundg (gk - 1)
          case measure => omega
          case rel => exact ⟨m + 1, by omega, by go_num, by rw [NX.out], hid (HB.out.trans (hw8.mono HB.out.size))⟩
      · have hd1 : ¬ (0 : Int) < (m : Int) := by omega
        have hd0 : decide ((0 : Int) < (m : Int)) = false := decide_eq_false hd1
        clear ODm DB A2 OD TK EL CELL
        go_wp2_with fail
        refine wp_region_class (by kernel_rfl) (by kernel_rfl) ?_
        repeat (first
          | go_big_quiet_skip
          | (go_big_quiet_want
             apply quiet_by
             · intro w1 hw1
               go_simp
               first
                 | rfl
                 | (go_at_call 14; with_reducible exact class_of hw1 (HA.out _ hw1))
                 | (go_at_call 19; with_reducible exact class_of hw1 (DA.out _ hw1))
             · go_simp; rfl
             go_big_quiet_on))
        refine wpQuiet_nil ?_
        intro w8 hw8
        go_wp2
        go_roundg (gk - 1)
        case measure => omega
        case rel => exact ⟨m + 1, by omega, by go_num, by rw [NX.out], hid (HB.out.trans (hw8.mono HB.out.size))⟩
    · have em : m = L := by omega
      subst em
      have hge : ¬ (m : Int) < m := by omega
      have h8I : (m : Int) ≤ 8 := by omega
      have h8D : decide ((m : Int) ≤ 8) = true := decide_eq_true h8I
      have HCX : Hid (IsCa wr p b1 b2 c) := hid (H3.out.later HB.out)
      have DF := hid (dear_c HCX.out hf.1 hf.2)
      have HFc := hid (has_c HCX.out hf.1 hf.2)
      have B9 := hid (B3.out.trans (HB.out.mono B3.out.size))
      rw [TA.out, FND.out]
      clear FND TA WL OD TK EL
      by_cases hd : 0 < c.dearN f
      · have hdD : decide (0 < c.dearN f) = true := decide_eq_true hd
        rw [hdD]
        cases hh : c.has f with
        | true =>
          rw [hh] at HFc
          generalize c.dearN f = df at *
          go_wp2_with (first
            | (go_at_call 19; refine DF.out.mono ?_; rintro _ w8 ⟨rfl, h8⟩; rw [h8]; clear h8)
            | (go_at_call 14; refine HFc.out.mono ?_; rintro _ w9 ⟨rfl, hb9⟩; (have C9 := hid (B9.out.trans (hb9.mono B9.out.size))); clear hb9))
          go_ret
          exact ⟨by first | rfl | exact ret_bool (by simp), C9.out⟩
        | false =>
          rw [hh] at HFc
          generalize c.dearN f = df at *
          go_wp2_with (first
            | (go_at_call 19; refine DF.out.mono ?_; rintro _ w8 ⟨rfl, h8⟩; rw [h8]; clear h8)
            | (go_at_call 14; refine HFc.out.mono ?_; rintro _ w9 ⟨rfl, hb9⟩; (have C9 := hid (B9.out.trans (hb9.mono B9.out.size))); clear hb9))
          go_ret
          exact ⟨by first | rfl | exact ret_bool (by simp), C9.out⟩
      · have hdD : decide (0 < c.dearN f) = false := decide_eq_false hd
        rw [hdD]
        generalize c.dearN f = df at *
        go_wp2_with (go_at_call 19; refine DF.out.mono ?_; rintro _ w8 ⟨rfl, h8⟩; rw [h8]; clear h8)
        go_ret
        exact ⟨by first | rfl | exact ret_bool (by simp), B9.out⟩
/-! ### The row of CacheWalks -/
theorem cacheWalks_own : ownKnob Try.prog.godebug = none := by kernel_rfl
theorem cacheWalks_laidOut : laidOutB Try.prog = true := by kernel_rfl
set_option maxRecDepth 100000 in
theorem cacheWalks_lifted (os : Os) (started : os.Started) (H : Type) (enc : TypeId × Value → H) :
    ReturnsInHanded {} Try.checked os 7 .any (Rows.cacheWalksSpec.pre6 enc Try.prog Try.f7 Rows.cacheWalksRow.domain false) (Rows.cacheWalksSpec.post enc Try.prog Try.f7 false true false false) := by
  refine returnsInHanded_of_change (C := Try.checked) cacheWalks_own started (by kernel_rfl) Try.func7
    (ChangeSpec.witness6 (enc := enc) (C := Try.checked) false ⟨#[], #[.int .u8 0, .slice none 0 0, .int .u32 0], []⟩ 8 (by kernel_rfl) (by kernel_rfl) (by kernel_rfl) (by kernel_rfl)) ?_
  intro W base args ds gs before hval0 hW hcnd _
  have hval : ∀ (j : Nat) t v, Try.f7.params[j]? = some t → args[j]? = some v → Value.okWide Try.prog W .any base t v := hval0
  have hW' := hW
  obtain ⟨p, q, hA0, hV, rfl, hfz, hnd⟩ := hW
  have hA : DataW.TrodAll enc Try.prog W 0 (fun _ => true) true Try.f7.params.toList args.toList ds p := hA0
  rw [Try.params7] at hA hval
  obtain ⟨v0, vs0, d0, ds0, p0, q0, hargs, rfl, rfl, h0, r0⟩ := trodAll_cons hA
  obtain ⟨v1, vs1, d1, ds1, p1, q1, rfl, rfl, rfl, h1, r1⟩ := trodAll_cons r0
  obtain ⟨v2, vs2, d2, ds2, p2, q2, rfl, rfl, rfl, h2, r2⟩ := trodAll_cons r1
  obtain ⟨rfl, rfl, rfl⟩ := trodAll_nil r2
  obtain rfl : args = #[v0, v1, v2] := by cases args; simp_all
  obtain ⟨rfl, rfl⟩ := trodVars_none hV
  obtain ⟨a0, rfl, rfl, rfl, w0⟩ := open_int Try.underlying5 (hval 0 5 v0 rfl rfl) h0
  have k1 := h1
  have lt1 : ∀ x ∈ p1, x.block < W.heap.size := by obtain ⟨m, hm⟩ := k1; exact DataW.trod_lt m _ _ _ hm
  obtain ⟨a1, len1, cap1, rfl⟩ := okWide_slice Try.underlying22 (hval 1 22 v1 rfl rfl)
  obtain ⟨z1, w1⟩ := isDc_of Try.underlying22 h1
  obtain ⟨a2, rfl, rfl, rfl, w2⟩ := open_int Try.underlying24 (hval 2 24 v2 rfl rfl) h2
  clear hA0 hval0
  refine (cacheWalks_walk a0 w0 a1 len1 cap1 z1 a2 w2 W w1).mono fun e W' ⟨he, bel⟩ => ?_
  subst he
  exact ⟨_, rfl, _, _, _, [], _, [], hW', trodAll_mk1 (shut_bool Try.underlying4 _), (trodAll_cons_mk (shut_int Try.underlying5 w0) (trodAll_cons_mk (Below.trod cacheWalks_laidOut (by kernel_rfl) (of_decide_eq_true (by kernel_rfl)) k1 bel lt1) (trodAll_cons_mk (shut_int Try.underlying24 w2) trodAll_mk0))), rfl, bel.frame _, fun h => by cases h⟩
theorem cacheWalks_over : Rows.cacheWalksRow.holds Try.pinned (OpenSpec.ofChange Rows.cacheWalksSpec) :=
  OpenClaim.holds_of_wide 7 Try.f7 rfl rfl rfl rfl rfl rfl rfl ⟨rfl, rfl, rfl, rfl, rfl⟩ rfl rfl rfl rfl rfl (by kernel_rfl) Try.func7 (by kernel_rfl)
    (of_decide_eq_true (by kernel_rfl)) (by unfold Func.isWrapper; first | (rw [if_pos (by decide +kernel)]; kernel_rfl) | (rw [if_neg (by decide +kernel)]; exact ⟨rfl, rfl⟩))
    (fun os started H enc _ => cacheWalks_lifted os started H enc)
/-- The statement. -/
theorem cacheWalks_holds : Rows.CacheWalksSaid := cacheWalks_over
#print axioms cacheWalks_holds

end Go.Proofs.Ytilcbkejmpfnfaa
