/-
  For every deed and every number: a nil disk answers ErrNil, or nothing; New answers nil just where the number is not from 1 to 2048.
-/
import Derived.Test.YteimegacnmakaacDOpen
namespace Go.Proofs.Yteimegacnmakaac
open Go.ChangeShapes Go.WideShapes Go.ChangeAt Go.RowKit Go.Maps
open Go.ChangeMaps (open_string shut_string)
set_option linter.unusedVariables false
set_option linter.unusedSimpArgs false
theorem wpList_wanted {P : Program} {ops : Array Oper} {rest : List Oper} {o : Oper} {a : Act} {w : World} {Q : Exit → Act → World → Prop} (hw : Region.wanted o (yielded ops a.tmps) = true)
    (h : ∀ K : Act → World → Prop, (∀ a w, wpList P ops Q rest a w → K a w) → o.wp P a w K Q) : wpList P ops Q (o :: rest) a w :=
  wpList_step fun K hK => by rw [if_pos hw]; exact h K hK
/-- A sector out of a variable, behind a test. -/
theorem wpList_loadW (w : World) {ops : Array Oper} {rest : List Oper} {o : Oper} {a : Act} {Q : Exit → Act → World → Prop} (hw : Region.wanted o (yielded ops a.tmps) = true) (x : Operand) (T : TypeId) (hop : o.op = .load T x) (hT : (Try.prog.info? T).map (·.size) = some 32) {e : TypeId} (hu : Try.prog.underlying T = some (.array 32 e)) (g : Nat) (hx : a.eval x = .pointer (some ⟨g, 0, none⟩)) (s : Sec) (hs : s.length = 32)
    (t : TypeId) (fr : Nat × Nat) (hb : w.heap[g]? = some (.cells (s.map by8).toArray t fr)) (h : wpList Try.prog ops Q rest (a.put o.dst (secV s)) w) : wpList Try.prog ops Q (o :: rest) a w :=
  wpList_wanted hw fun _ hK => wp_load_row T x hop g hx t (s.map by8).toArray fr _ hb hu rfl (by rw [hT]; simp [hs]) (hK _ _ h)
/-- 's == u', behind a test. -/
theorem wpList_eqlW (w : World) {ops : Array Oper} {rest : List Oper} {o : Oper} {a : Act} {Q : Exit → Act → World → Prop} (hw : Region.wanted o (yielded ops a.tmps) = true) (x y : Operand) (t : TypeId) (hop : o.op = .binOp .eql 27 x y t)
    (s u : Sec) (hx : a.eval x = secV s) (hy : a.eval y = secV u) (hs : IsSec s) (hu : IsSec u) (h : wpList Try.prog ops Q rest (a.put o.dst (.bool (s == u))) w) : wpList Try.prog ops Q (o :: rest) a w := by
  refine wpList_wanted hw fun K' hK' => ?_
  have e1 := secEq (P := Try.prog) w 27 5 Try.underlying27 Try.underlying5 size8 hs hu
  have e2 : (eqGuard .eql 27 x y (secV s) (secV u)).run Try.prog w = .ok () w := run_eqGuard_agg w .eql 27 x y _ _ guardS
  unfold Oper.wp
  simp only [execOp, hop, hx, hy, Sem.run_bind, e1, e2, Result.andThen, Sem.run_pure]
  exact hK' _ _ h
set_option maxHeartbeats 400000 in
theorem fork_nil (w : World) : Calls Try.prog 13 #[.pointer none] w fun e w' => e = .returned (.pointer none) ∧ w' = w := by
  go_enter Try.func13, Try.ntmps13
  go_wp2
  go_ret
  exact ⟨rfl, rfl⟩
/-- What New answers: nil, or a new pointer. -/
def newP (n : Int) (w : World) : Value := if n < 1 ∨ 2048 < n then .pointer none else pD (w.heap.size + 2)
theorem new_any (n : Int) (w : World) : Calls Try.prog 14 #[.int .i64 n] w fun e w' => e = .returned (newP n w) ∧ Below w.heap.size w w' := by
  unfold newP
  by_cases h : n < 1 ∨ 2048 < n
  · rw [if_pos h]
    exact (new_none n w h).mono fun e w' ⟨h1, h2⟩ => ⟨h1, by rw [h2]; exact Below.refl _ _⟩
  · rw [if_neg h]
    have e : n = ((n.toNat : Nat) : Int) := by omega
    have := new_c n.toNat w (by omega) (by omega)
    rw [← e] at this
    exact this.mono fun e w' ⟨h1, _, h2, _⟩ => ⟨h1, h2⟩
set_option maxRecDepth 100000 in
set_option maxHeartbeats 2000000 in
theorem none_walk (k i c : Int) (a : Option Addr) (len cap : Nat) (n : Int) (w : World) :
    Calls Try.prog 3 #[.agg #[.int .i64 k, .int .i64 i, .int .u8 c, .slice a len cap], .int .i64 n] w fun e w' => e = .returned (.bool true) ∧ Below w.heap.size w w' := by
  have zz := zlit
  have hz32 := zsec_is.1
  have HB0 : Hid (Below w.heap.size w (w.alloc (.cells #[.int .i64 k, .int .i64 i, .int .u8 c, .slice a len cap] 24))) := (Below.refl _ _).alloc (Nat.le_refl _) _
  have hc1 : (w.alloc (.cells #[.int .i64 k, .int .i64 i, .int .u8 c, .slice a len cap] 24)).cell? ⟨w.heap.size, 1, none⟩ = some (.int .i64 i) := by rw [cell_of_row _ _ _ _ _ _ (heap_alloc_new w _)]; rfl
  have hc3 : (w.alloc (.cells #[.int .i64 k, .int .i64 i, .int .u8 c, .slice a len cap] 24)).cell? ⟨w.heap.size, 3, none⟩ = some (.slice a len cap) := by rw [cell_of_row _ _ _ _ _ _ (heap_alloc_new w _)]; rfl
  have hs0 : w.heap.size < (w.alloc (.cells #[.int .i64 k, .int .i64 i, .int .u8 c, .slice a len cap] 24)).heap.size := by simp
  have HC1 := hid hc1
  have HC3 := hid hc3
  have HS0 := hid hs0
  clear hc1 hc3 hs0
  go_enter Try.func3, Try.ntmps3
  go_wp2_with fail
  generalize (w.alloc (.cells #[.int .i64 k, .int .i64 i, .int .u8 c, .slice a len cap] 24)) = W0 at *
  refine (read_nil _ _).mono ?_
  rintro _ w1 ⟨rfl, hb1⟩
  go_wp2_with (refine wpList_storeS _ rfl _ _ _ rfl sizeS _ rfl (by simp) zsec rfl hz32 _ (by simp; decide) ?_)
  have hbW : Below W0.heap.size W0 (w1.alloc (.cells (zsec.map by8).toArray 27)) := hb1.alloc hb1.size _
  have HR : Hid (∀ w', Below (w1.alloc (.cells (zsec.map by8).toArray 27)).heap.size (w1.alloc (.cells (zsec.map by8).toArray 27)) w' → w'.heap[w1.heap.size]? = some (.cells (zsec.map by8).toArray 27)) := fun w' h => by
    rw [h.block _ (by simp)]; exact heap_alloc_new w1 _
  have HC : Hid (∀ w', Below W0.heap.size W0 w' → w'.cell? ⟨w.heap.size, 1, none⟩ = some (.int .i64 i) ∧ w'.cell? ⟨w.heap.size, 3, none⟩ = some (.slice a len cap)) := fun w' h => by
    rw [h.cell (p := ⟨w.heap.size, 1, none⟩) HS0.out, h.cell (p := ⟨w.heap.size, 3, none⟩) HS0.out]; exact ⟨HC1.out, HC3.out⟩
  clear hb1 HC1 HC3
  generalize (w1.alloc (.cells (zsec.map by8).toArray 27)) = W1 at *
  refine (dlive_c _).mono ?_
  rintro _ w2 ⟨rfl, hb2⟩
  obtain ⟨g1, g3⟩ := HC.out _ (hbW.trans (hb2.mono hbW.size))
  have hr2 := HR.out _ hb2
  have hq : (zsec == zsec) = true := by simp
  by_cases hn1 : n < 1
  · have NA : Hid (∀ W, Calls Try.prog 14 #[.int .i64 n] W fun e w' => e = .returned (.pointer none) ∧ Below W.heap.size W w') := fun W => by
      have := new_any n W
      rwa [show newP n W = .pointer none from by unfold newP; rw [if_pos (.inl hn1)]] at this
    go_wp2_with (first
      | (refine wpList_loadW _ (by rfl) _ _ rfl sizeS Try.underlying27 _ rfl zsec hz32 _ _ hr2 ?_)
      | (go_at_call 8; refine (write_nil _ _ _).mono ?_; rintro _ w3 ⟨rfl, hb3⟩; (have HB3 := hid (hb2.trans (hb3.mono hb2.size))); (obtain ⟨g5, g6⟩ := HC.out _ (hbW.trans (HB3.out.mono hbW.size))); (have hr3 := HR.out _ HB3.out))
      | (refine wpList_loadW _ (by rfl) _ _ rfl sizeS Try.underlying27 _ rfl zsec hz32 _ _ hr3 ?_)
      | (refine wpList_eqlW _ (by rfl) _ _ _ rfl zsec zsec rfl rfl zsec_is zsec_is ?_; rw [hq])
      | (go_at_call 9; refine (flush_nil _).mono ?_; rintro _ w4 ⟨rfl, hw4⟩; rw [hw4])
      | (go_at_call 10; refine (crash_nil _ _ _ _).mono ?_; rintro _ w5 ⟨rfl, hw5⟩; rw [hw5])
      | (go_at_call 11; refine (size_nil _).mono ?_; rintro _ w6 ⟨rfl, hw6⟩; rw [hw6])
      | (go_at_call 12; refine (loose_nil _).mono ?_; rintro _ w7 ⟨rfl, hw7⟩; rw [hw7])
      | (go_at_call 13; refine (fork_nil _).mono ?_; rintro _ w8 ⟨rfl, hw8⟩; rw [hw8])
      | (go_at_call 14; refine (NA.out _).mono ?_; rintro _ w9 ⟨rfl, hb9⟩))
    go_ret
    exact ⟨by first | rfl | exact ret_bool (by simp; omega), HB0.out.trans ((hbW.trans ((HB3.out.trans (hb9.mono HB3.out.size)).mono hbW.size)).mono HB0.out.size)⟩
  · by_cases hn2 : 2048 < n
    · have NA : Hid (∀ W, Calls Try.prog 14 #[.int .i64 n] W fun e w' => e = .returned (.pointer none) ∧ Below W.heap.size W w') := fun W => by
        have := new_any n W
        rwa [show newP n W = .pointer none from by unfold newP; rw [if_pos (.inr hn2)]] at this
      go_wp2_with (first
        | (refine wpList_loadW _ (by rfl) _ _ rfl sizeS Try.underlying27 _ rfl zsec hz32 _ _ hr2 ?_)
        | (go_at_call 8; refine (write_nil _ _ _).mono ?_; rintro _ w3 ⟨rfl, hb3⟩; (have HB3 := hid (hb2.trans (hb3.mono hb2.size))); (obtain ⟨g5, g6⟩ := HC.out _ (hbW.trans (HB3.out.mono hbW.size))); (have hr3 := HR.out _ HB3.out))
        | (refine wpList_loadW _ (by rfl) _ _ rfl sizeS Try.underlying27 _ rfl zsec hz32 _ _ hr3 ?_)
        | (refine wpList_eqlW _ (by rfl) _ _ _ rfl zsec zsec rfl rfl zsec_is zsec_is ?_; rw [hq])
        | (go_at_call 9; refine (flush_nil _).mono ?_; rintro _ w4 ⟨rfl, hw4⟩; rw [hw4])
        | (go_at_call 10; refine (crash_nil _ _ _ _).mono ?_; rintro _ w5 ⟨rfl, hw5⟩; rw [hw5])
        | (go_at_call 11; refine (size_nil _).mono ?_; rintro _ w6 ⟨rfl, hw6⟩; rw [hw6])
        | (go_at_call 12; refine (loose_nil _).mono ?_; rintro _ w7 ⟨rfl, hw7⟩; rw [hw7])
        | (go_at_call 13; refine (fork_nil _).mono ?_; rintro _ w8 ⟨rfl, hw8⟩; rw [hw8])
        | (go_at_call 14; refine (NA.out _).mono ?_; rintro _ w9 ⟨rfl, hb9⟩))
      go_ret
      exact ⟨by first | rfl | exact ret_bool (by simp; omega), HB0.out.trans ((hbW.trans ((HB3.out.trans (hb9.mono HB3.out.size)).mono hbW.size)).mono HB0.out.size)⟩
    · have NA : Hid (∀ W, Calls Try.prog 14 #[.int .i64 n] W fun e w' => e = .returned (pD (W.heap.size + 2)) ∧ Below W.heap.size W w') := fun W => by
        have := new_any n W
        rwa [show newP n W = pD (W.heap.size + 2) from by unfold newP; rw [if_neg (by omega)]] at this
      go_wp2_with (first
        | (refine wpList_loadW _ (by rfl) _ _ rfl sizeS Try.underlying27 _ rfl zsec hz32 _ _ hr2 ?_)
        | (go_at_call 8; refine (write_nil _ _ _).mono ?_; rintro _ w3 ⟨rfl, hb3⟩; (have HB3 := hid (hb2.trans (hb3.mono hb2.size))); (obtain ⟨g5, g6⟩ := HC.out _ (hbW.trans (HB3.out.mono hbW.size))); (have hr3 := HR.out _ HB3.out))
        | (refine wpList_loadW _ (by rfl) _ _ rfl sizeS Try.underlying27 _ rfl zsec hz32 _ _ hr3 ?_)
        | (refine wpList_eqlW _ (by rfl) _ _ _ rfl zsec zsec rfl rfl zsec_is zsec_is ?_; rw [hq])
        | (go_at_call 9; refine (flush_nil _).mono ?_; rintro _ w4 ⟨rfl, hw4⟩; rw [hw4])
        | (go_at_call 10; refine (crash_nil _ _ _ _).mono ?_; rintro _ w5 ⟨rfl, hw5⟩; rw [hw5])
        | (go_at_call 11; refine (size_nil _).mono ?_; rintro _ w6 ⟨rfl, hw6⟩; rw [hw6])
        | (go_at_call 12; refine (loose_nil _).mono ?_; rintro _ w7 ⟨rfl, hw7⟩; rw [hw7])
        | (go_at_call 13; refine (fork_nil _).mono ?_; rintro _ w8 ⟨rfl, hw8⟩; rw [hw8])
        | (go_at_call 14; refine (NA.out _).mono ?_; rintro _ w9 ⟨rfl, hb9⟩))
      go_ret
      exact ⟨by first | rfl | exact ret_bool (by simp; omega), HB0.out.trans ((hbW.trans ((HB3.out.trans (hb9.mono HB3.out.size)).mono hbW.size)).mono HB0.out.size)⟩
theorem diskNone_walk (x : Dd) (n : Int) (wn : (Lit.int .i64 n).wf = true) (w : World) (hx : x.Wf) (hz : IsZ w x.a x.len x.zs) : Calls Try.prog 3 #[x.val, .int .i64 n] w fun e w' => e = .returned (.bool true) ∧ Below w.heap.size w w' :=
  none_walk x.k x.i x.c x.a x.len x.cap n w
/-! ### The row of DiskNone -/
theorem diskNone_own : ownKnob Try.prog.godebug = none := by kernel_rfl
theorem diskNone_laidOut : laidOutB Try.prog = true := by kernel_rfl
set_option maxRecDepth 100000 in
theorem diskNone_lifted (os : Os) (started : os.Started) (H : Type) (enc : TypeId × Value → H) :
    ReturnsInHanded {} Try.checked os 3 .any (Rows.diskNoneSpec.pre6 enc Try.prog Try.f3 Rows.diskNoneRow.domain false) (Rows.diskNoneSpec.post enc Try.prog Try.f3 false true false false) := by
  refine returnsInHanded_of_change (C := Try.checked) diskNone_own started (by kernel_rfl) Try.func3
    (ChangeSpec.witness6 (enc := enc) (C := Try.checked) false ⟨#[], #[.agg #[.int .i64 0, .int .i64 0, .int .u8 0, .slice none 0 0], .int .i64 0], []⟩ 8 (by kernel_rfl) (by kernel_rfl) (by kernel_rfl) (by kernel_rfl)) ?_
  intro W base args ds gs before hval0 hW hcnd _
  have hval : ∀ (j : Nat) t v, Try.f3.params[j]? = some t → args[j]? = some v → Value.okWide Try.prog W .any base t v := hval0
  have hW' := hW
  obtain ⟨p, q, hA0, hV, rfl, hfz, hnd⟩ := hW
  have hA : DataW.TrodAll enc Try.prog W 0 (fun _ => true) true Try.f3.params.toList args.toList ds p := hA0
  rw [Try.params3] at hA hval
  obtain ⟨v0, vs0, d0, ds0, p0, q0, hargs, rfl, rfl, h0, r0⟩ := trodAll_cons hA
  obtain ⟨v1, vs1, d1, ds1, p1, q1, rfl, rfl, rfl, h1, r1⟩ := trodAll_cons r0
  obtain ⟨rfl, rfl, rfl⟩ := trodAll_nil r1
  obtain rfl : args = #[v0, v1] := by cases args; simp_all
  obtain ⟨rfl, rfl⟩ := trodVars_none hV
  have k0 := h0
  have lt0 : ∀ x ∈ p0, x.block < W.heap.size := by obtain ⟨m, hm⟩ := k0; exact DataW.trod_lt m _ _ _ hm
  obtain ⟨q0, rfl, wq0, zq0⟩ := open_deed (hval 0 24 v0 rfl rfl) h0
  obtain ⟨a1, rfl, rfl, rfl, w1⟩ := open_int Try.underlying3 (hval 1 3 v1 rfl rfl) h1
  clear hA0 hval0
  refine (diskNone_walk q0 a1 w1 W wq0 zq0).mono fun e W' ⟨he, bel⟩ => ?_
  subst he
  exact ⟨_, rfl, _, _, _, [], _, [], hW', trodAll_mk1 (shut_bool Try.underlying4 _), (trodAll_cons_mk (Below.trod diskNone_laidOut (by kernel_rfl) (of_decide_eq_true (by kernel_rfl)) k0 bel lt0) (trodAll_cons_mk (shut_int Try.underlying3 w1) trodAll_mk0)), rfl, bel.frame _, fun h => by cases h⟩
theorem diskNone_over : Rows.diskNoneRow.holds Try.pinned (OpenSpec.ofChange Rows.diskNoneSpec) :=
  OpenClaim.holds_of_wide 3 Try.f3 rfl rfl rfl rfl rfl rfl rfl ⟨rfl, rfl, rfl, rfl, rfl⟩ rfl rfl rfl rfl rfl (by kernel_rfl) Try.func3 (by kernel_rfl)
    (of_decide_eq_true (by kernel_rfl)) (by unfold Func.isWrapper; first | (rw [if_pos (by decide +kernel)]; kernel_rfl) | (rw [if_neg (by decide +kernel)]; exact ⟨rfl, rfl⟩))
    (fun os started H enc _ => diskNone_lifted os started H enc)
/-- The statement. -/
theorem diskNone_holds : Rows.DiskNoneSaid := diskNone_over
#print axioms diskNone_holds

end Go.Proofs.Yteimegacnmakaac
