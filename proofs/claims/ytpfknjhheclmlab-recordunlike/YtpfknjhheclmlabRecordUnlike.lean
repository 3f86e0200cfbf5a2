/-
  For every two operations: where both have bytes, these are the same just where the operations are.
-/
import Derived.Test.YtpfknjhheclmlabRBk
namespace Go.Proofs.Ytpfknjhheclmlab
open Go.RowKit Go.ChangeShapes Go.WideShapes Go.ChangeAt Go.Maps Go.Shelf
open Go.ChangeMaps (open_string shut_string)
set_option linter.unusedVariables false
set_option linter.unusedSimpArgs false
set_option maxRecDepth 20000 in
set_option maxHeartbeats 2000000 in
theorem recordUnlike_walk (x : Rec) (y : Rec) (w : World) (hx : x.Wf) (hy : y.Wf) :
    Calls Try.prog 3 #[x.opV, y.opV] w fun e w' => e = .returned (.bool true) ∧ Below w.heap.size w w' := by
  have b0 := below_1 w (.cells x.ops.toArray 27)
  have hX0 := heap_alloc_new w (.cells x.ops.toArray 27)
  have b1 := below_1 (w.alloc (.cells x.ops.toArray 27)) (.cells y.ops.toArray 27)
  have hY1 := heap_alloc_new (w.alloc (.cells x.ops.toArray 27)) (.cells y.ops.toArray 27)
  rw [show (w.alloc (.cells x.ops.toArray 27)).heap.size = w.heap.size + 1 by simp] at hY1
  have hX1 := (b1.block _ (lt_blkR hX0)).trans hX0
  have B1 := hid (b0.trans (b1.mono b0.size))
  have HX1 := hid hX1
  have HY1 := hid hY1
  obtain ⟨p0, p1, p2, p3, p4, p5, p6, p7⟩ := op_all hX1
  simp only [Rec.ops] at p0 p1 p2 p3 p4 p5 p6 p7
  have OX := hid (op_c x ((w.alloc (.cells x.ops.toArray 27)).alloc (.cells y.ops.toArray 27)) hx)
  have OY := hid (fun W => op_c y W hy)
  have LC := hid rlive_c
  obtain ⟨R, hR, hq⟩ := ops_equal hx hy
  have HI := hid (fun rx ry => opB_inj hx hy rx ry)
  have HRR := hid hR
  have HQ := hid hq
  clear b0 b1 hX0 hX1 hY1 hR hq hx hy
  cases rx : rightF x with
  | false =>
    rw [rx] at OX
    simp only [Bool.false_eq_true, if_false] at OX
    cases ry : rightF y with
    | false =>
      rw [ry] at OY
      simp only [Bool.false_eq_true, if_false] at OY
      unfold Rec.opV at OX OY ⊢
      go_enter Try.func3, Try.ntmps3
      go_wp2_with (first
        | (go_at_call 5; refine (LC.out _).mono ?_; rintro _ w4 ⟨rfl, hb4⟩)
        | (have _q := t2.out; clear _q; go_at_call 4; refine (OY.out _).mono ?_; rintro _ w3 ⟨rfl, hb3⟩; have B3 := hid (B2.out.trans (hb3.mono B2.out.size)); clear hb3 t2)
        | (go_at_call 4; refine OX.out.mono ?_; rintro _ w2 ⟨rfl, hb2⟩; have B2 := hid (B1.out.trans (hb2.mono B1.out.size)); obtain ⟨z0, z1, z2, z3, z4, z5, z6, z7⟩ := op_all ((hb2.block _ (lt_blkR HY1.out)).trans HY1.out); have t2 := hid True.intro; clear hb2))
      go_ret
      exact ⟨rfl, B3.out.trans (hb4.mono B3.out.size)⟩
    | true =>
      rw [ry] at OY
      simp only [if_true] at OY
      unfold Rec.opV at OX OY ⊢
      go_enter Try.func3, Try.ntmps3
      go_wp2_with (first
        | (go_at_call 5; refine (LC.out _).mono ?_; rintro _ w4 ⟨rfl, hb4⟩)
        | (have _q := t2.out; clear _q; go_at_call 4; refine (OY.out _).mono ?_; rintro _ w3 ⟨⟨v3, rfl, hO3⟩, hb3⟩; obtain ⟨a3, c3, rfl⟩ := own_shapeR hO3; have B3 := hid (B2.out.trans (hb3.mono B2.out.size)); clear hb3 t2 hO3)
        | (go_at_call 4; refine OX.out.mono ?_; rintro _ w2 ⟨rfl, hb2⟩; have B2 := hid (B1.out.trans (hb2.mono B1.out.size)); obtain ⟨z0, z1, z2, z3, z4, z5, z6, z7⟩ := op_all ((hb2.block _ (lt_blkR HY1.out)).trans HY1.out); have t2 := hid True.intro; clear hb2))
      go_ret
      exact ⟨rfl, B3.out.trans (hb4.mono B3.out.size)⟩
  | true =>
    rw [rx] at OX
    simp only [if_true] at OX
    cases ry : rightF y with
    | false =>
      rw [ry] at OY
      simp only [Bool.false_eq_true, if_false] at OY
      unfold Rec.opV at OX OY ⊢
      go_enter Try.func3, Try.ntmps3
      go_wp2_with (first
        | (go_at_call 5; refine (LC.out _).mono ?_; rintro _ w4 ⟨rfl, hb4⟩)
        | (have _q := t2.out; clear _q; go_at_call 4; refine (OY.out _).mono ?_; rintro _ w3 ⟨rfl, hb3⟩; have B3 := hid (B2.out.trans (hb3.mono B2.out.size)); clear hb3 t2)
        | (go_at_call 4; refine OX.out.mono ?_; rintro _ w2 ⟨⟨v2, rfl, hO2⟩, hb2⟩; obtain ⟨a2, c2, rfl⟩ := own_shapeR hO2; have B2 := hid (B1.out.trans (hb2.mono B1.out.size)); obtain ⟨z0, z1, z2, z3, z4, z5, z6, z7⟩ := op_all ((hb2.block _ (lt_blkR HY1.out)).trans HY1.out); have t2 := hid True.intro; clear hb2 hO2))
      go_ret
      exact ⟨rfl, B3.out.trans (hb4.mono B3.out.size)⟩
    | true =>
      rw [ry] at OY
      simp only [if_true] at OY
      have HXI := hid (opB_in x)
      have HYI := hid (opB_in y)
      have HE : Hid (((Fr.tx (opB x)).toList == (Fr.tx (opB y)).toList) = R) := hid (by
        have e1 := tx_inj HXI.out HYI.out
        have e2 := HI.out rx ry
        have e3 := HRR.out
        rw [Bool.eq_iff_iff]
        exact e1.trans (e2.trans e3.symm))
      have hgd := ops_guard
      unfold Rec.opV at OX OY ⊢
      have hqq := HQ.out
      unfold Rec.opV at hqq
      obtain ⟨xs, hxs⟩ : ∃ xs, xs = opB x := ⟨_, rfl⟩
      obtain ⟨ys, hys⟩ : ∃ ys, ys = opB y := ⟨_, rfl⟩
      rw [← hxs] at OX HXI HE
      rw [← hys] at OY HYI HE
      clear hxs hys HI HRR HQ
      go_enter Try.func3, Try.ntmps3
      go_wp2_with (first
        | (have _q := t2.out; clear _q; go_at_call 4; refine (OY.out _).mono ?_; rintro _ w3 ⟨⟨v3, rfl, hO3⟩, hb3⟩; obtain ⟨a3, c3, rfl, hI3, _, _⟩ := isB_ownR hO3 HYI.out; have B3 := hid (B2.out.trans (hb3.mono B2.out.size)); have I3 := hid hI3; have I2 := hid (I1.out.later hb3); have HX3 := hid ((hb3.block _ (lt_blkR HX2.out)).trans HX2.out); have HY3 := hid ((hb3.block _ (lt_blkR HY2.out)).trans HY2.out); clear hb3 t2 hO3 hI3)
        | (go_at_call 4; refine OX.out.mono ?_; rintro _ w2 ⟨⟨v2, rfl, hO2⟩, hb2⟩; obtain ⟨a2, c2, rfl, hI2, _, _⟩ := isB_ownR hO2 HXI.out; have B2 := hid (B1.out.trans (hb2.mono B1.out.size)); have I1 := hid hI2; have HX2 := hid ((hb2.block _ (lt_blkR HX1.out)).trans HX1.out); have HY2 := hid ((hb2.block _ (lt_blkR HY1.out)).trans HY1.out); obtain ⟨z0, z1, z2, z3, z4, z5, z6, z7⟩ := op_all HY2.out; have t2 := hid True.intro; clear hb2 hO2 hI2))
      have FX : Hid (∀ W, Below w3.heap.size w3 W → (convert 28 9 (.slice a2 xs.length c2)).run Try.prog W = .ok (.string (Fr.tx xs)) W ∧ (convert 28 9 (.slice a3 ys.length c3)).run Try.prog W = .ok (.string (Fr.tx ys)) W ∧ W.heap[w.heap.size]? = some (.cells x.ops.toArray 27 (0, 0)) ∧ W.heap[w.heap.size + 1]? = some (.cells y.ops.toArray 27 (0, 0))) := hid (fun W hW => ⟨conv_R (I2.out.later hW), conv_R (I3.out.later hW), (hW.block _ (lt_blkR HX3.out)).trans HX3.out, (hW.block _ (lt_blkR HY3.out)).trans HY3.out⟩)
      refine wp_region_class (by kernel_rfl) (by kernel_rfl) ?_
      repeat (first
        | go_big_quiet_skip
        | (go_big_quiet_want
           apply quiet_by
           · intro w7 hw7
             obtain ⟨f1, f2, f3, f4⟩ := FX.out w7 hw7
             obtain ⟨z0, z1, z2, z3, z4, z5, z6, z7⟩ := op_all f3
             obtain ⟨y0, y1, y2, y3, y4, y5, y6, y7⟩ := op_all f4
             go_simp
             first
               | rfl
               | (go_at_call 5; exact class_of hw7 (LC.out _))
           · go_simp; rfl
           go_big_quiet_on))
      refine wpQuiet_nil ?_
      intro w8 hw8
      go_wp2
      go_ret
      exact ⟨by rw [HE.out]; simp, B3.out.trans (hw8.mono B3.out.size)⟩
/-! ### The row of RecordUnlike -/
theorem recordUnlike_own : ownKnob Try.prog.godebug = none := by kernel_rfl
theorem recordUnlike_laidOut : laidOutB Try.prog = true := by kernel_rfl
set_option maxRecDepth 100000 in
theorem recordUnlike_lifted (os : Os) (started : os.Started) (H : Type) (enc : TypeId × Value → H) :
    ReturnsInHanded {} Try.checked os 3 .any (Rows.recordUnlikeSpec.pre6 enc Try.prog Try.f3 Rows.recordUnlikeRow.domain false) (Rows.recordUnlikeSpec.post enc Try.prog Try.f3 false true false false) := by
  refine returnsInHanded_of_change (C := Try.checked) recordUnlike_own started (by kernel_rfl) Try.func3
    (ChangeSpec.witness6 (enc := enc) (C := Try.checked) false ⟨#[], #[.agg #[.int .u8 0, .int .u32 0, .int .u32 0, .string ByteArray.empty, .int .u32 0, .string ByteArray.empty, .int .u16 0, .string ByteArray.empty], .agg #[.int .u8 0, .int .u32 0, .int .u32 0, .string ByteArray.empty, .int .u32 0, .string ByteArray.empty, .int .u16 0, .string ByteArray.empty]], []⟩ 8 (by kernel_rfl) (by kernel_rfl) (by kernel_rfl) (by kernel_rfl)) ?_
  intro W base args ds gs before hval0 hW hcnd _
  have hval : ∀ (j : Nat) t v, Try.f3.params[j]? = some t → args[j]? = some v → Value.okWide Try.prog W .any base t v := hval0
  have hW' := hW
  obtain ⟨p, q, hA0, hV, rfl, hfz, hnd⟩ := hW
  have hA : DataW.TrodAll enc Try.prog W 0 (fun _ => true) true Try.f3.params.toList args.toList ds p := hA0
  rw [Try.params3] at hA hval
  obtain ⟨v0, vs0, d0, ds0, p0, q0, hargs, rfl, rfl, h0, r0⟩ := trodAll_cons hA
  obtain ⟨v1, vs1, d1, ds1, p1, q1, rfl, rfl, rfl, h1, r1⟩ := trodAll_cons r0
  obtain ⟨rfl, rfl, rfl⟩ := trodAll_nil r1
  obtain rfl : args = #[v0, v1] := by cases args; simp_all
  obtain ⟨rfl, rfl⟩ := trodVars_none hV
  have k0 := h0
  have lt0 : ∀ x ∈ p0, x.block < W.heap.size := by obtain ⟨m, hm⟩ := k0; exact DataW.trod_lt m _ _ _ hm
  obtain ⟨q0, rfl, wq0⟩ := open_op (hval 0 27 v0 rfl rfl) h0
  have k1 := h1
  have lt1 : ∀ x ∈ p1, x.block < W.heap.size := by obtain ⟨m, hm⟩ := k1; exact DataW.trod_lt m _ _ _ hm
  obtain ⟨q1, rfl, wq1⟩ := open_op (hval 1 27 v1 rfl rfl) h1
  clear hA0 hval0
  refine (recordUnlike_walk q0 q1 W wq0 wq1).mono fun e W' ⟨he, bel⟩ => ?_
  subst he
  exact ⟨_, rfl, _, _, _, [], _, [], hW', trodAll_mk1 (shut_bool Try.underlying4 _), (trodAll_cons_mk (Below.trod recordUnlike_laidOut (by kernel_rfl) (of_decide_eq_true (by kernel_rfl)) k0 bel lt0) (trodAll_cons_mk (Below.trod recordUnlike_laidOut (by kernel_rfl) (of_decide_eq_true (by kernel_rfl)) k1 bel lt1) trodAll_mk0)), rfl, bel.frame _, fun h => by cases h⟩
theorem recordUnlike_over : Rows.recordUnlikeRow.holds Try.pinned (OpenSpec.ofChange Rows.recordUnlikeSpec) :=
  OpenClaim.holds_of_wide 3 Try.f3 rfl rfl rfl rfl rfl rfl rfl ⟨rfl, rfl, rfl, rfl, rfl⟩ rfl rfl rfl rfl rfl (by kernel_rfl) Try.func3 (by kernel_rfl)
    (of_decide_eq_true (by kernel_rfl)) (by unfold Func.isWrapper; first | (rw [if_pos (by decide +kernel)]; kernel_rfl) | (rw [if_neg (by decide +kernel)]; exact ⟨rfl, rfl⟩))
    (fun os started H enc _ => recordUnlike_lifted os started H enc)
/-- The statement. -/
theorem recordUnlike_holds : Rows.RecordUnlikeSaid := recordUnlike_over
#print axioms recordUnlike_holds

end Go.Proofs.Ytpfknjhheclmlab
