/-
  For every deed and every number: a nil cache answers ErrNil, or nothing; New answers nil just where the number is not from 1 to 40.
-/
import Derived.Test.YtciaenlampncmabCLv
namespace Go.Proofs.Ytciaenlampncmab
open Go.RowKit Go.ChangeShapes Go.WideShapes Go.ChangeAt
open Go.ChangeMaps (open_string shut_string)
set_option linter.unusedVariables false
set_option linter.unusedSimpArgs false
set_option maxRecDepth 100000
/-- A deed in its box. -/
def DcAt (w : World) (g : Nat) (x : Dc) : Prop := w.heap[g]? = some (.cells #[.int .i64 x.k, .int .u32 x.f, .bool x.dirty, .int .i64 x.dear] 34 (0, 0))
theorem DcAt.later {w w' : World} {g : Nat} {x : Dc} (h : DcAt w g x) (hb : Below w.heap.size w w') : DcAt w' g x := by unfold DcAt; rw [hb.block _ (lt_blkC h)]; exact h
theorem DcAt.cells {w : World} {g : Nat} {x : Dc} (h : DcAt w g x) : w.cell? ⟨g, 0, none⟩ = some (.int .i64 x.k) ∧ w.cell? ⟨g, 1, none⟩ = some (.int .u32 x.f) ∧ w.cell? ⟨g, 2, none⟩ = some (.bool x.dirty) ∧ w.cell? ⟨g, 3, none⟩ = some (.int .i64 x.dear) := by
  unfold DcAt at h
  refine ⟨?_, ?_, ?_, ?_⟩ <;> simp [World.cell?, h]
set_option maxHeartbeats 4000000 in
theorem none_lo (x : Dc) (n : Int) (w : World) (hn : n < 1) :
    Calls Try.prog 4 #[x.val, .int .i64 n] w fun e w' => e = .returned (.bool true) ∧ Below w.heap.size w w' := by
  unfold Dc.val
  have D0 : Hid (DcAt (w.alloc (.cells #[.int .i64 x.k, .int .u32 x.f, .bool x.dirty, .int .i64 x.dear] 34)) w.heap.size x) := heap_alloc_new w _
  have B0 := hid ((Below.refl w.heap.size w).alloc (Nat.le_refl _) (.cells #[.int .i64 x.k, .int .u32 x.f, .bool x.dirty, .int .i64 x.dear] 34))
  have NC : Hid (∀ W, Calls Try.prog 23 #[.int .i64 n] W fun e w' => e = .returned (.pointer none) ∧ Below W.heap.size W w') := hid (fun W => (new_no n (by omega) W).mono fun e w' ⟨h1, h2⟩ => ⟨h1, by rw [h2]; exact Below.refl _ _⟩)
  go_enter Try.func4, Try.ntmps4
  go_wp2_with fail
  generalize (w.alloc (.cells #[.int .i64 x.k, .int .u32 x.f, .bool x.dirty, .int .i64 x.dear] 34)) = W0 at *
  refine (put_nil _ _).mono ?_
  rintro _ w0 ⟨rfl, h0⟩
  rw [h0]
  clear h0
  go_wp2_with fail
  refine (next_nil _).mono ?_
  rintro _ w1 ⟨rfl, hb1⟩
  have D1 := hid (D0.out.later hb1)
  have B1 := hid (B0.out.trans (hb1.mono B0.out.size))
  clear hb1
  go_wp2_with fail
  refine (clive_c _).mono ?_
  rintro _ w2 ⟨rfl, hb2⟩
  have D2 := hid (D1.out.later hb2)
  have B2 := hid (B1.out.trans (hb2.mono B1.out.size))
  clear hb2
  obtain ⟨d0, d1, d2, d3⟩ := D2.out.cells
  go_wp2_with (first
    | (go_at_call 14; refine (touch_nil _ _).mono ?_; rintro _ v1 ⟨rfl, hv⟩; rw [hv])
    | (go_at_call 15; refine (drop_nil _ _).mono ?_; rintro _ v1 ⟨rfl, hv⟩; rw [hv])
    | (go_at_call 16; refine (mark_nil _ _ _).mono ?_; rintro _ v1 ⟨rfl, hv⟩; rw [hv])
    | (go_at_call 17; refine (hoard_nil _ _ _).mono ?_; rintro _ v1 ⟨rfl, hv⟩; rw [hv])
    | (go_at_call 18; refine (has_nil _ _).mono ?_; rintro _ v1 ⟨rfl, hv⟩; rw [hv])
    | (go_at_call 19; refine (dirty_nil _ _).mono ?_; rintro _ v1 ⟨rfl, hv⟩; rw [hv])
    | (go_at_call 20; refine (dear_nil _ _).mono ?_; rintro _ v1 ⟨rfl, hv⟩; rw [hv])
    | (go_at_call 21; refine (list_nil _).mono ?_; rintro _ v8 ⟨rfl, hb8⟩; (have B8 := hid (B2.out.trans (hb8.mono B2.out.size))); clear hb8)
    | (go_at_call 22; refine (walk_nil _).mono ?_; rintro _ v9 ⟨rfl, hb9⟩; (have B9 := hid (B8.out.trans (hb9.mono B8.out.size))); clear hb9)
    | (go_at_call 8; refine (fork_nil _).mono ?_; rintro _ v1 ⟨rfl, hv⟩; rw [hv])
    | (go_at_call 23; refine (NC.out _).mono ?_; rintro _ va ⟨rfl, hba⟩))
  go_ret
  exact ⟨by first | rfl | exact ret_bool (by simp; omega), B9.out.trans (hba.mono B9.out.size)⟩
set_option maxHeartbeats 4000000 in
theorem none_mid (x : Dc) (n : Int) (w : World) (h1 : ¬ n < 1) (h3 : ¬ 40 < n) :
    Calls Try.prog 4 #[x.val, .int .i64 n] w fun e w' => e = .returned (.bool true) ∧ Below w.heap.size w w' := by
  unfold Dc.val
  have h1d : decide (n < 1) = false := decide_eq_false h1
  have h3d : decide (40 < n) = false := decide_eq_false h3
  have D0 : Hid (DcAt (w.alloc (.cells #[.int .i64 x.k, .int .u32 x.f, .bool x.dirty, .int .i64 x.dear] 34)) w.heap.size x) := heap_alloc_new w _
  have B0 := hid ((Below.refl w.heap.size w).alloc (Nat.le_refl _) (.cells #[.int .i64 x.k, .int .u32 x.f, .bool x.dirty, .int .i64 x.dear] 34))
  have NC : Hid (∀ W, Calls Try.prog 23 #[.int .i64 n] W fun e w' => e = .returned (pA (W.heap.size + 2)) ∧ Below W.heap.size W w') := hid (fun W => (new_c n (by omega) (by omega) W).mono fun e w' ⟨h1, _, h2⟩ => ⟨h1, h2⟩)
  go_enter Try.func4, Try.ntmps4
  go_wp2_with fail
  generalize (w.alloc (.cells #[.int .i64 x.k, .int .u32 x.f, .bool x.dirty, .int .i64 x.dear] 34)) = W0 at *
  refine (put_nil _ _).mono ?_
  rintro _ w0 ⟨rfl, h0⟩
  rw [h0]
  clear h0
  go_wp2_with fail
  refine (next_nil _).mono ?_
  rintro _ w1 ⟨rfl, hb1⟩
  have D1 := hid (D0.out.later hb1)
  have B1 := hid (B0.out.trans (hb1.mono B0.out.size))
  clear hb1
  go_wp2_with fail
  refine (clive_c _).mono ?_
  rintro _ w2 ⟨rfl, hb2⟩
  have D2 := hid (D1.out.later hb2)
  have B2 := hid (B1.out.trans (hb2.mono B1.out.size))
  clear hb2
  obtain ⟨d0, d1, d2, d3⟩ := D2.out.cells
  go_wp2_with (first
    | (go_at_call 14; refine (touch_nil _ _).mono ?_; rintro _ v1 ⟨rfl, hv⟩; rw [hv])
    | (go_at_call 15; refine (drop_nil _ _).mono ?_; rintro _ v1 ⟨rfl, hv⟩; rw [hv])
    | (go_at_call 16; refine (mark_nil _ _ _).mono ?_; rintro _ v1 ⟨rfl, hv⟩; rw [hv])
    | (go_at_call 17; refine (hoard_nil _ _ _).mono ?_; rintro _ v1 ⟨rfl, hv⟩; rw [hv])
    | (go_at_call 18; refine (has_nil _ _).mono ?_; rintro _ v1 ⟨rfl, hv⟩; rw [hv])
    | (go_at_call 19; refine (dirty_nil _ _).mono ?_; rintro _ v1 ⟨rfl, hv⟩; rw [hv])
    | (go_at_call 20; refine (dear_nil _ _).mono ?_; rintro _ v1 ⟨rfl, hv⟩; rw [hv])
    | (go_at_call 21; refine (list_nil _).mono ?_; rintro _ v8 ⟨rfl, hb8⟩; (have B8 := hid (B2.out.trans (hb8.mono B2.out.size))); clear hb8)
    | (go_at_call 22; refine (walk_nil _).mono ?_; rintro _ v9 ⟨rfl, hb9⟩; (have B9 := hid (B8.out.trans (hb9.mono B8.out.size))); clear hb9)
    | (go_at_call 8; refine (fork_nil _).mono ?_; rintro _ v1 ⟨rfl, hv⟩; rw [hv])
    | (go_at_call 23; refine (NC.out _).mono ?_; rintro _ va ⟨rfl, hba⟩))
  go_ret
  exact ⟨by first | rfl | exact ret_bool (by simp; omega), B9.out.trans (hba.mono B9.out.size)⟩
set_option maxHeartbeats 4000000 in
theorem none_hi (x : Dc) (n : Int) (w : World) (h1 : ¬ n < 1) (h3 : 40 < n) :
    Calls Try.prog 4 #[x.val, .int .i64 n] w fun e w' => e = .returned (.bool true) ∧ Below w.heap.size w w' := by
  unfold Dc.val
  have h1d : decide (n < 1) = false := decide_eq_false h1
  have D0 : Hid (DcAt (w.alloc (.cells #[.int .i64 x.k, .int .u32 x.f, .bool x.dirty, .int .i64 x.dear] 34)) w.heap.size x) := heap_alloc_new w _
  have B0 := hid ((Below.refl w.heap.size w).alloc (Nat.le_refl _) (.cells #[.int .i64 x.k, .int .u32 x.f, .bool x.dirty, .int .i64 x.dear] 34))
  have NC : Hid (∀ W, Calls Try.prog 23 #[.int .i64 n] W fun e w' => e = .returned (.pointer none) ∧ Below W.heap.size W w') := hid (fun W => (new_no n (by omega) W).mono fun e w' ⟨h1, h2⟩ => ⟨h1, by rw [h2]; exact Below.refl _ _⟩)
  go_enter Try.func4, Try.ntmps4
  go_wp2_with fail
  generalize (w.alloc (.cells #[.int .i64 x.k, .int .u32 x.f, .bool x.dirty, .int .i64 x.dear] 34)) = W0 at *
  refine (put_nil _ _).mono ?_
  rintro _ w0 ⟨rfl, h0⟩
  rw [h0]
  clear h0
  go_wp2_with fail
  refine (next_nil _).mono ?_
  rintro _ w1 ⟨rfl, hb1⟩
  have D1 := hid (D0.out.later hb1)
  have B1 := hid (B0.out.trans (hb1.mono B0.out.size))
  clear hb1
  go_wp2_with fail
  refine (clive_c _).mono ?_
  rintro _ w2 ⟨rfl, hb2⟩
  have D2 := hid (D1.out.later hb2)
  have B2 := hid (B1.out.trans (hb2.mono B1.out.size))
  clear hb2
  obtain ⟨d0, d1, d2, d3⟩ := D2.out.cells
  go_wp2_with (first
    | (go_at_call 14; refine (touch_nil _ _).mono ?_; rintro _ v1 ⟨rfl, hv⟩; rw [hv])
    | (go_at_call 15; refine (drop_nil _ _).mono ?_; rintro _ v1 ⟨rfl, hv⟩; rw [hv])
    | (go_at_call 16; refine (mark_nil _ _ _).mono ?_; rintro _ v1 ⟨rfl, hv⟩; rw [hv])
    | (go_at_call 17; refine (hoard_nil _ _ _).mono ?_; rintro _ v1 ⟨rfl, hv⟩; rw [hv])
    | (go_at_call 18; refine (has_nil _ _).mono ?_; rintro _ v1 ⟨rfl, hv⟩; rw [hv])
    | (go_at_call 19; refine (dirty_nil _ _).mono ?_; rintro _ v1 ⟨rfl, hv⟩; rw [hv])
    | (go_at_call 20; refine (dear_nil _ _).mono ?_; rintro _ v1 ⟨rfl, hv⟩; rw [hv])
    | (go_at_call 21; refine (list_nil _).mono ?_; rintro _ v8 ⟨rfl, hb8⟩; (have B8 := hid (B2.out.trans (hb8.mono B2.out.size))); clear hb8)
    | (go_at_call 22; refine (walk_nil _).mono ?_; rintro _ v9 ⟨rfl, hb9⟩; (have B9 := hid (B8.out.trans (hb9.mono B8.out.size))); clear hb9)
    | (go_at_call 8; refine (fork_nil _).mono ?_; rintro _ v1 ⟨rfl, hv⟩; rw [hv])
    | (go_at_call 23; refine (NC.out _).mono ?_; rintro _ va ⟨rfl, hba⟩))
  go_ret
  exact ⟨by first | rfl | exact ret_bool (by simp; omega), B9.out.trans (hba.mono B9.out.size)⟩
theorem cacheNone_walk (x : Dc) (hx : x.Wf) (n : Int) (wn : (Lit.int .i64 n).wf = true) (w : World) :
    Calls Try.prog 4 #[x.val, .int .i64 n] w fun e w' => e = .returned (.bool true) ∧ Below w.heap.size w w' := by
  by_cases h1 : n < 1
  · exact none_lo x n w h1
  · by_cases h3 : 40 < n
    · exact none_hi x n w h1 h3
    · exact none_mid x n w h1 h3
/-! ### The row of CacheNone -/
theorem cacheNone_own : ownKnob Try.prog.godebug = none := by kernel_rfl
theorem cacheNone_laidOut : laidOutB Try.prog = true := by kernel_rfl
set_option maxRecDepth 100000 in
theorem cacheNone_lifted (os : Os) (started : os.Started) (H : Type) (enc : TypeId × Value → H) :
    ReturnsInHanded {} Try.checked os 4 .any (Rows.cacheNoneSpec.pre6 enc Try.prog Try.f4 Rows.cacheNoneRow.domain false) (Rows.cacheNoneSpec.post enc Try.prog Try.f4 false true false false) := by
  refine returnsInHanded_of_change (C := Try.checked) cacheNone_own started (by kernel_rfl) Try.func4
    (ChangeSpec.witness6 (enc := enc) (C := Try.checked) false ⟨#[], #[.agg #[.int .i64 0, .int .u32 0, .bool false, .int .i64 0], .int .i64 0], []⟩ 8 (by kernel_rfl) (by kernel_rfl) (by kernel_rfl) (by kernel_rfl)) ?_
  intro W base args ds gs before hval0 hW hcnd _
  have hval : ∀ (j : Nat) t v, Try.f4.params[j]? = some t → args[j]? = some v → Value.okWide Try.prog W .any base t v := hval0
  have hW' := hW
  obtain ⟨p, q, hA0, hV, rfl, hfz, hnd⟩ := hW
  have hA : DataW.TrodAll enc Try.prog W 0 (fun _ => true) true Try.f4.params.toList args.toList ds p := hA0
  rw [Try.params4] at hA hval
  obtain ⟨v0, vs0, d0, ds0, p0, q0, hargs, rfl, rfl, h0, r0⟩ := trodAll_cons hA
  obtain ⟨v1, vs1, d1, ds1, p1, q1, rfl, rfl, rfl, h1, r1⟩ := trodAll_cons r0
  obtain ⟨rfl, rfl, rfl⟩ := trodAll_nil r1
  obtain rfl : args = #[v0, v1] := by cases args; simp_all
  obtain ⟨rfl, rfl⟩ := trodVars_none hV
  have k0 := h0
  have lt0 : ∀ x ∈ p0, x.block < W.heap.size := by obtain ⟨m, hm⟩ := k0; exact DataW.trod_lt m _ _ _ hm
  obtain ⟨q0, rfl, wq0⟩ := open_dc (hval 0 34 v0 rfl rfl) h0
  obtain ⟨a1, rfl, rfl, rfl, w1⟩ := open_int Try.underlying3 (hval 1 3 v1 rfl rfl) h1
  clear hA0 hval0
  refine (cacheNone_walk q0 wq0 a1 w1 W).mono fun e W' ⟨he, bel⟩ => ?_
  subst he
  exact ⟨_, rfl, _, _, _, [], _, [], hW', trodAll_mk1 (shut_bool Try.underlying4 _), (trodAll_cons_mk (Below.trod cacheNone_laidOut (by kernel_rfl) (of_decide_eq_true (by kernel_rfl)) k0 bel lt0) (trodAll_cons_mk (shut_int Try.underlying3 w1) trodAll_mk0)), rfl, bel.frame _, fun h => by cases h⟩
theorem cacheNone_over : Rows.cacheNoneRow.holds Try.pinned (OpenSpec.ofChange Rows.cacheNoneSpec) :=
  OpenClaim.holds_of_wide 4 Try.f4 rfl rfl rfl rfl rfl rfl rfl ⟨rfl, rfl, rfl, rfl, rfl⟩ rfl rfl rfl rfl rfl (by kernel_rfl) Try.func4 (by kernel_rfl)
    (of_decide_eq_true (by kernel_rfl)) (by unfold Func.isWrapper; first | (rw [if_pos (by decide +kernel)]; kernel_rfl) | (rw [if_neg (by decide +kernel)]; exact ⟨rfl, rfl⟩))
    (fun os started H enc _ => cacheNone_lifted os started H enc)
/-- The statement. -/
theorem cacheNone_holds : Rows.CacheNoneSaid := cacheNone_over
#print axioms cacheNone_holds

end Go.Proofs.Ytciaenlampncmab
