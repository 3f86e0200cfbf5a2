/-
  For every operation, records and node: the bytes, or the errors, are the document's.
-/
import Derived.Test.YtfbcdikoafdnbaaRAn
import Derived.Test.YtfbcdikoafdnbaaRBk
namespace Go.Proofs.Ytfbcdikoafdnbaa
open Go.RowKit Go.ChangeShapes Go.WideShapes Go.ChangeAt Go.Maps Go.Shelf
open Go.ChangeMaps (open_string shut_string)
set_option linter.unusedVariables false
set_option linter.unusedSimpArgs false
set_option maxRecDepth 100000
set_option maxHeartbeats 8000000 in
theorem recordWrites_walk (x : Rec) (a : Option Addr) (len cap : Nat) (l : List Rec) (hl : l.length = len) (hc : len ≤ cap) (q : Nd) (w : World) (hx : x.Wf) (hL : IsL w a l) (hq : q.Ok w) :
    Calls Try.prog 3 #[x.opV, .slice a len cap, q.val] w fun e w' => e = .returned (.bool true) ∧ Below w.heap.size w w' := by
  subst hl
  have hX0 := heap_alloc_new w (.cells x.ops.toArray 27)
  have b0 := below_1 w (.cells x.ops.toArray 27)
  have b1 := below_1 (w.alloc (.cells x.ops.toArray 27)) (.cells q.cells.toArray 33)
  have hQ := heap_alloc_new (w.alloc (.cells x.ops.toArray 27)) (.cells q.cells.toArray 33)
  rw [show (w.alloc (.cells x.ops.toArray 27)).heap.size = w.heap.size + 1 by simp] at hQ
  have hX := (b1.block _ (lt_blkR hX0)).trans hX0
  have bV := b0.trans (b1.mono b0.size)
  have BV := hid bV
  have hzV : ((w.alloc (.cells x.ops.toArray 27)).alloc (.cells q.cells.toArray 33)).heap.size = w.heap.size + 2 := by simp
  have HX := hid hX
  have HQ := hid hQ
  obtain ⟨l2, hl2⟩ : ∃ l2, l2 = if 40 < l.length then l.take 40 else l := ⟨_, rfl⟩
  have hL2 : IsL w a l2 := by
    rw [hl2]; split
    · exact hL.front 40
    · exact hL
  have hm2 : l2.length ≤ 40 := by
    rw [hl2]; split
    · rw [List.length_take]; omega
    · omega
  have E1 : Hid (40 < l.length → l2.length = 40) := hid (fun h => by rw [hl2, if_pos h, List.length_take]; omega)
  have E2 : Hid (¬ 40 < l.length → l2.length = l.length) := hid (fun h => by rw [hl2, if_neg h])
  have LB : Hid (∀ W, Below (w.heap.size + 2) ((w.alloc (.cells x.ops.toArray 27)).alloc (.cells q.cells.toArray 33)) W → Below w.heap.size w W) := hid (fun W hb => bV.trans (hb.mono (by omega)))
  have A1 := hid (fun W => op_a x W hx)
  have A2 := hid (fun W => rop_a x W hx)
  have A3 := hid (fun W (hb : Below w.heap.size w W) => recs_a a cap l2 W (hL2.later hb) (by omega))
  have A4 := hid (fun W (hb : Below w.heap.size w W) => rrecs_a a cap l2 W (hL2.later hb) (by omega))
  have A5 := hid (fun W (hb : Below w.heap.size w W) => node_a q W (hq.later hb))
  have A6 := hid (fun W (hb : Below w.heap.size w W) => rnode_a q W (hq.later hb))
  have LC := hid rlive_c
  obtain ⟨y0, y1, y2, y3, y4, y5, y6, y7⟩ := op_all hX
  obtain ⟨u0, u1, u2, u3, u4, u5⟩ := nd_cells hQ
  unfold Rec.opV at A1 A2 ⊢
  unfold Nd.val at A5 A6 ⊢
  generalize erF (rightF x) = r1 at *
  generalize stF (rightF x) (opB x) = t1 at *
  generalize erF (recsOk l2) = r2 at *
  generalize stF (recsOk l2) (recsA l2) = t2 at *
  generalize erF (nodeOk q) = r3 at *
  generalize stF (nodeOk q) (nodeB q) = t3 at *
  clear hX0 b0 b1 hX hQ bV hl2 hL2 hL hq hx
  go_enter Try.func3, Try.ntmps3
  go_upto_region 1 with fail
  change Code.wp _ _ _ _ ((w.alloc (.cells x.ops.toArray 27)).alloc (.cells q.cells.toArray 33))
  generalize ((w.alloc (.cells x.ops.toArray 27)).alloc (.cells q.cells.toArray 33)) = V at *
  have ZV := hid (Nat.le_of_eq hzV.symm)
  have B0 := hid (Below.refl (w.heap.size + 2) V)
  clear hzV
  by_cases h40 : 40 < l.length
  · have hI : (40 : Int) < l.length := by omega
    have hcI : (40 : Int) ≤ cap := by omega
    have ee := E1.out h40
    rw [ee] at A3 A4
    clear ee E1 E2
    go_wp2_with (first
      | (go_at_call 11; refine (LC.out _).mono ?_; rintro _ w7 ⟨rfl, hb7⟩; have BF := hid ((LB.out _ B6.out).trans (hb7.mono (LB.out _ B6.out).size)); have f6 := CV6.out w7 hb7; have g5 := C6.out.trans (hb7.mono C6.out.size); have f5 := CV5.out w7 g5; have g4 := C5.out.trans (g5.mono C5.out.size); have f4 := CV4.out w7 g4; have g3 := C4.out.trans (g4.mono C4.out.size); have f3 := CV3.out w7 g3; have g2 := C3.out.trans (g3.mono C3.out.size); have f2 := CV2.out w7 g2; have g1 := C2.out.trans (g2.mono C2.out.size); have f1 := CV1.out w7 g1; clear g1 g2 g3 g4 g5 hb7)
      | (go_at_call 10; refine (A6.out _ (LB.out _ B5.out)).mono ?_; rintro _ w6 ⟨a6, n6, c6, rfl, cv6, hb6⟩; have B6 := hid (B5.out.trans (hb6.mono (Nat.le_trans ZV.out B5.out.size))); have CV6 := hid cv6; have C6 := hid hb6; clear hb6 cv6)
      | (go_at_call 9; refine (A5.out _ (LB.out _ B4.out)).mono ?_; rintro _ w5 ⟨a5, n5, c5, rfl, cv5, hb5⟩; have B5 := hid (B4.out.trans (hb5.mono (Nat.le_trans ZV.out B4.out.size))); have CV5 := hid cv5; have C5 := hid hb5; obtain ⟨o0, o1, o2, o3, o4, o5⟩ := nd_cells ((B5.out.block (w.heap.size + 1) (by omega)).trans HQ.out); clear hb5 cv5)
      | (go_at_call 8; refine (A4.out _ (LB.out _ B3.out)).mono ?_; rintro _ w4 ⟨a4, n4, c4, rfl, cv4, hb4⟩; have B4 := hid (B3.out.trans (hb4.mono (Nat.le_trans ZV.out B3.out.size))); have CV4 := hid cv4; have C4 := hid hb4; obtain ⟨j0, j1, j2, j3, j4, j5⟩ := nd_cells ((B4.out.block (w.heap.size + 1) (by omega)).trans HQ.out); clear hb4 cv4)
      | (go_at_call 7; refine (A3.out _ (LB.out _ B2.out)).mono ?_; rintro _ w3 ⟨a3, n3, c3, rfl, cv3, hb3⟩; have B3 := hid (B2.out.trans (hb3.mono (Nat.le_trans ZV.out B2.out.size))); have CV3 := hid cv3; have C3 := hid hb3; clear hb3 cv3)
      | (go_at_call 6; refine (A2.out _).mono ?_; rintro _ w2 ⟨a2, n2, c2, rfl, cv2, hb2⟩; have B2 := hid (B1.out.trans (hb2.mono (Nat.le_trans ZV.out B1.out.size))); have CV2 := hid cv2; have C2 := hid hb2; clear hb2 cv2)
      | (go_at_call 5; refine (A1.out _).mono ?_; rintro _ w1 ⟨a1, n1, c1, rfl, cv1, hb1⟩; have B1 := hid (B0.out.trans (hb1.mono (Nat.le_trans ZV.out B0.out.size))); have CV1 := hid cv1; obtain ⟨p0, p1, p2, p3, p4, p5, p6, p7⟩ := op_all ((B1.out.block w.heap.size (by omega)).trans HX.out); clear hb1 cv1))
    go_ret
    exact ⟨by first | rfl | simp, BF.out⟩
  · have hI : ¬ (40 : Int) < l.length := by omega
    have ee := E2.out h40
    rw [ee] at A3 A4
    clear ee E1 E2
    go_wp2_with (first
      | (go_at_call 11; refine (LC.out _).mono ?_; rintro _ w7 ⟨rfl, hb7⟩; have BF := hid ((LB.out _ B6.out).trans (hb7.mono (LB.out _ B6.out).size)); have f6 := CV6.out w7 hb7; have g5 := C6.out.trans (hb7.mono C6.out.size); have f5 := CV5.out w7 g5; have g4 := C5.out.trans (g5.mono C5.out.size); have f4 := CV4.out w7 g4; have g3 := C4.out.trans (g4.mono C4.out.size); have f3 := CV3.out w7 g3; have g2 := C3.out.trans (g3.mono C3.out.size); have f2 := CV2.out w7 g2; have g1 := C2.out.trans (g2.mono C2.out.size); have f1 := CV1.out w7 g1; clear g1 g2 g3 g4 g5 hb7)
      | (go_at_call 10; refine (A6.out _ (LB.out _ B5.out)).mono ?_; rintro _ w6 ⟨a6, n6, c6, rfl, cv6, hb6⟩; have B6 := hid (B5.out.trans (hb6.mono (Nat.le_trans ZV.out B5.out.size))); have CV6 := hid cv6; have C6 := hid hb6; clear hb6 cv6)
      | (go_at_call 9; refine (A5.out _ (LB.out _ B4.out)).mono ?_; rintro _ w5 ⟨a5, n5, c5, rfl, cv5, hb5⟩; have B5 := hid (B4.out.trans (hb5.mono (Nat.le_trans ZV.out B4.out.size))); have CV5 := hid cv5; have C5 := hid hb5; obtain ⟨o0, o1, o2, o3, o4, o5⟩ := nd_cells ((B5.out.block (w.heap.size + 1) (by omega)).trans HQ.out); clear hb5 cv5)
      | (go_at_call 8; refine (A4.out _ (LB.out _ B3.out)).mono ?_; rintro _ w4 ⟨a4, n4, c4, rfl, cv4, hb4⟩; have B4 := hid (B3.out.trans (hb4.mono (Nat.le_trans ZV.out B3.out.size))); have CV4 := hid cv4; have C4 := hid hb4; obtain ⟨j0, j1, j2, j3, j4, j5⟩ := nd_cells ((B4.out.block (w.heap.size + 1) (by omega)).trans HQ.out); clear hb4 cv4)
      | (go_at_call 7; refine (A3.out _ (LB.out _ B2.out)).mono ?_; rintro _ w3 ⟨a3, n3, c3, rfl, cv3, hb3⟩; have B3 := hid (B2.out.trans (hb3.mono (Nat.le_trans ZV.out B2.out.size))); have CV3 := hid cv3; have C3 := hid hb3; clear hb3 cv3)
      | (go_at_call 6; refine (A2.out _).mono ?_; rintro _ w2 ⟨a2, n2, c2, rfl, cv2, hb2⟩; have B2 := hid (B1.out.trans (hb2.mono (Nat.le_trans ZV.out B1.out.size))); have CV2 := hid cv2; have C2 := hid hb2; clear hb2 cv2)
      | (go_at_call 5; refine (A1.out _).mono ?_; rintro _ w1 ⟨a1, n1, c1, rfl, cv1, hb1⟩; have B1 := hid (B0.out.trans (hb1.mono (Nat.le_trans ZV.out B0.out.size))); have CV1 := hid cv1; obtain ⟨p0, p1, p2, p3, p4, p5, p6, p7⟩ := op_all ((B1.out.block w.heap.size (by omega)).trans HX.out); clear hb1 cv1))
    go_ret
    exact ⟨by first | rfl | simp, BF.out⟩
/-! ### The row of RecordWrites -/
theorem recordWrites_own : ownKnob Try.prog.godebug = none := by kernel_rfl
theorem recordWrites_laidOut : laidOutB Try.prog = true := by kernel_rfl
set_option maxRecDepth 100000 in
theorem recordWrites_lifted (os : Os) (started : os.Started) (H : Type) (enc : TypeId × Value → H) :
    ReturnsInHanded {} Try.checked os 3 .any (Rows.recordWritesSpec.pre6 enc Try.prog Try.f3 Rows.recordWritesRow.domain false) (Rows.recordWritesSpec.post enc Try.prog Try.f3 false true false false) := by
  refine returnsInHanded_of_change (C := Try.checked) recordWrites_own started (by kernel_rfl) Try.func3
    (ChangeSpec.witness6 (enc := enc) (C := Try.checked) false ⟨#[], #[.agg #[.int .u8 0, .int .u32 0, .int .u32 0, .string ByteArray.empty, .int .u32 0, .string ByteArray.empty, .int .u16 0, .string ByteArray.empty], .slice none 0 0, .agg #[.int .u32 0, .int .u8 0, .int .u16 0, .int .u16 0, .slice none 0 0, .slice none 0 0]], []⟩ 8 (by kernel_rfl) (by kernel_rfl) (by kernel_rfl) (by kernel_rfl)) ?_
  intro W base args ds gs before hval0 hW hcnd _
  have hval : ∀ (j : Nat) t v, Try.f3.params[j]? = some t → args[j]? = some v → Value.okWide Try.prog W .any base t v := hval0
  have hW' := hW
  obtain ⟨p, q, hA0, hV, rfl, hfz, hnd⟩ := hW
  have hA : DataW.TrodAll enc Try.prog W 0 (fun _ => true) true Try.f3.params.toList args.toList ds p := hA0
  rw [Try.params3] at hA hval
  obtain ⟨v0, vs0, d0, ds0, p0, q0, hargs, rfl, rfl, h0, r0⟩ := trodAll_cons hA
  obtain ⟨v1, vs1, d1, ds1, p1, q1, rfl, rfl, rfl, h1, r1⟩ := trodAll_cons r0
  obtain ⟨v2, vs2, d2, ds2, p2, q2, rfl, rfl, rfl, h2, r2⟩ := trodAll_cons r1
  obtain ⟨rfl, rfl, rfl⟩ := trodAll_nil r2
  obtain rfl : args = #[v0, v1, v2] := by cases args; simp_all
  obtain ⟨rfl, rfl⟩ := trodVars_none hV
  have k0 := h0
  have lt0 : ∀ x ∈ p0, x.block < W.heap.size := by obtain ⟨m, hm⟩ := k0; exact DataW.trod_lt m _ _ _ hm
  obtain ⟨q0, rfl, wq0⟩ := open_op (hval 0 27 v0 rfl rfl) h0
  have k1 := h1
  have lt1 : ∀ x ∈ p1, x.block < W.heap.size := by obtain ⟨m, hm⟩ := k1; exact DataW.trod_lt m _ _ _ hm
  obtain ⟨a1, len1, cap1, rfl⟩ := okWide_slice Try.underlying28 (hval 1 28 v1 rfl rfl)
  obtain ⟨z1, lz1, w1, lc1⟩ := isL_of Try.underlying28 h1
  have k2 := h2
  have lt2 : ∀ x ∈ p2, x.block < W.heap.size := by obtain ⟨m, hm⟩ := k2; exact DataW.trod_lt m _ _ _ hm
  obtain ⟨q2, rfl, wq2⟩ := open_node (hval 2 33 v2 rfl rfl) h2
  clear hA0 hval0
  refine (recordWrites_walk q0 a1 len1 cap1 z1 lz1 lc1 q2 W wq0 w1 wq2).mono fun e W' ⟨he, bel⟩ => ?_
  subst he
  exact ⟨_, rfl, _, _, _, [], _, [], hW', trodAll_mk1 (shut_bool Try.underlying4 _), (trodAll_cons_mk (Below.trod recordWrites_laidOut (by kernel_rfl) (of_decide_eq_true (by kernel_rfl)) k0 bel lt0) (trodAll_cons_mk (Below.trod recordWrites_laidOut (by kernel_rfl) (of_decide_eq_true (by kernel_rfl)) k1 bel lt1) (trodAll_cons_mk (Below.trod recordWrites_laidOut (by kernel_rfl) (of_decide_eq_true (by kernel_rfl)) k2 bel lt2) trodAll_mk0))), rfl, bel.frame _, fun h => by cases h⟩
theorem recordWrites_over : Rows.recordWritesRow.holds Try.pinned (OpenSpec.ofChange Rows.recordWritesSpec) :=
  OpenClaim.holds_of_wide 3 Try.f3 rfl rfl rfl rfl rfl rfl rfl ⟨rfl, rfl, rfl, rfl, rfl⟩ rfl rfl rfl rfl rfl (by kernel_rfl) Try.func3 (by kernel_rfl)
    (of_decide_eq_true (by kernel_rfl)) (by unfold Func.isWrapper; first | (rw [if_pos (by decide +kernel)]; kernel_rfl) | (rw [if_neg (by decide +kernel)]; exact ⟨rfl, rfl⟩))
    (fun os started H enc _ => recordWrites_lifted os started H enc)
/-- The statement. -/
theorem recordWrites_holds : Rows.RecordWritesSaid := recordWrites_over
#print axioms recordWrites_holds

end Go.Proofs.Ytfbcdikoafdnbaa
