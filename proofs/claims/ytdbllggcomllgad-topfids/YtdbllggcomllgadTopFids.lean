/-
  For every two clients and numbers, the fids that Make answers are not the root, those of unlike clients are unlike, and Make errs just where the number is out of range.
-/
import Derived.Test.YtdbllggcomllgadCalls
import Derived.ChangeOld
import Derived.Below
namespace Go.Proofs.Ytdbllggcomllgad
open Go.ChangeShapes Go.WideShapes Go.ChangeAt Go.RowKit
open Go.ChangeMaps (open_string shut_string)
set_option linter.unusedVariables false
set_option maxHeartbeats 1000000 in
theorem tf_bb_lo_lo (a b n m : Int) (ha : 0 ≤ a) (ha' : a < 256) (hb : 0 ≤ b) (hb' : b < 256) (hn : 0 ≤ n) (hm : 0 ≤ m) (hn1 : n < 1) (hm1 : m < 1) (w : World) :
    Calls Try.prog 4 #[.int .u8 a, .int .u8 b, .agg #[.int .u32 n, .int .u32 m]] w fun e w' => e = .returned (.bool true) ∧ Below w.heap.size w w' := by
  go_enter Try.func4, Try.ntmps4
  go_wp2_with fail
  refine (make_bad _ _ (by omega) (by omega) (by omega) _).mono ?_
  rintro e w1 ⟨rfl, rfl⟩
  go_wp2_with fail
  refine (make_bad _ _ (by omega) (by omega) (by omega) _).mono ?_
  rintro e w1 ⟨rfl, rfl⟩
  go_wp2
  go_ret
  exact ⟨ret_bool (by first | rfl | (simp; omega)), (Below.refl _ _).alloc (Nat.le_refl _) _⟩
set_option maxHeartbeats 1000000 in
theorem tf_bb_lo_hi (a b n m : Int) (ha : 0 ≤ a) (ha' : a < 256) (hb : 0 ≤ b) (hb' : b < 256) (hn : 0 ≤ n) (hm : 0 ≤ m) (hn1 : n < 1) (hm1 : 16777215 < m) (w : World) :
    Calls Try.prog 4 #[.int .u8 a, .int .u8 b, .agg #[.int .u32 n, .int .u32 m]] w fun e w' => e = .returned (.bool true) ∧ Below w.heap.size w w' := by
  go_enter Try.func4, Try.ntmps4
  go_wp2_with fail
  refine (make_bad _ _ (by omega) (by omega) (by omega) _).mono ?_
  rintro e w1 ⟨rfl, rfl⟩
  go_wp2_with fail
  refine (make_bad _ _ (by omega) (by omega) (by omega) _).mono ?_
  rintro e w1 ⟨rfl, rfl⟩
  go_wp2
  go_ret
  exact ⟨ret_bool (by first | rfl | (simp; omega)), (Below.refl _ _).alloc (Nat.le_refl _) _⟩
set_option maxHeartbeats 1000000 in
theorem tf_bb_hi_lo (a b n m : Int) (ha : 0 ≤ a) (ha' : a < 256) (hb : 0 ≤ b) (hb' : b < 256) (hn : 0 ≤ n) (hm : 0 ≤ m) (hn1 : 16777215 < n) (hm1 : m < 1) (w : World) :
    Calls Try.prog 4 #[.int .u8 a, .int .u8 b, .agg #[.int .u32 n, .int .u32 m]] w fun e w' => e = .returned (.bool true) ∧ Below w.heap.size w w' := by
  go_enter Try.func4, Try.ntmps4
  go_wp2_with fail
  refine (make_bad _ _ (by omega) (by omega) (by omega) _).mono ?_
  rintro e w1 ⟨rfl, rfl⟩
  go_wp2_with fail
  refine (make_bad _ _ (by omega) (by omega) (by omega) _).mono ?_
  rintro e w1 ⟨rfl, rfl⟩
  go_wp2
  go_ret
  exact ⟨ret_bool (by first | rfl | (simp; omega)), (Below.refl _ _).alloc (Nat.le_refl _) _⟩
set_option maxHeartbeats 1000000 in
theorem tf_bb_hi_hi (a b n m : Int) (ha : 0 ≤ a) (ha' : a < 256) (hb : 0 ≤ b) (hb' : b < 256) (hn : 0 ≤ n) (hm : 0 ≤ m) (hn1 : 16777215 < n) (hm1 : 16777215 < m) (w : World) :
    Calls Try.prog 4 #[.int .u8 a, .int .u8 b, .agg #[.int .u32 n, .int .u32 m]] w fun e w' => e = .returned (.bool true) ∧ Below w.heap.size w w' := by
  go_enter Try.func4, Try.ntmps4
  go_wp2_with fail
  refine (make_bad _ _ (by omega) (by omega) (by omega) _).mono ?_
  rintro e w1 ⟨rfl, rfl⟩
  go_wp2_with fail
  refine (make_bad _ _ (by omega) (by omega) (by omega) _).mono ?_
  rintro e w1 ⟨rfl, rfl⟩
  go_wp2
  go_ret
  exact ⟨ret_bool (by first | rfl | (simp; omega)), (Below.refl _ _).alloc (Nat.le_refl _) _⟩
set_option maxHeartbeats 1000000 in
theorem tf_bo_lo (a b n m : Int) (ha : 0 ≤ a) (ha' : a < 256) (hb : 0 ≤ b) (hb' : b < 256) (hn : 0 ≤ n) (hm : 0 ≤ m) (hn1 : n < 1) (hm1 : 1 ≤ m) (hm2 : m ≤ 16777215) (w : World) :
    Calls Try.prog 4 #[.int .u8 a, .int .u8 b, .agg #[.int .u32 n, .int .u32 m]] w fun e w' => e = .returned (.bool true) ∧ Below w.heap.size w w' := by
  go_enter Try.func4, Try.ntmps4
  go_wp2_with fail
  refine (make_bad _ _ (by omega) (by omega) (by omega) _).mono ?_
  rintro e w1 ⟨rfl, rfl⟩
  go_wp2_with fail
  refine (make_ok _ _ (by omega) (by omega) (by omega) (by omega) _).mono ?_
  rintro e w1 ⟨rfl, rfl⟩
  go_wp2
  go_ret
  exact ⟨ret_bool (by first | rfl | (simp; omega)), (Below.refl _ _).alloc (Nat.le_refl _) _⟩
set_option maxHeartbeats 1000000 in
theorem tf_bo_hi (a b n m : Int) (ha : 0 ≤ a) (ha' : a < 256) (hb : 0 ≤ b) (hb' : b < 256) (hn : 0 ≤ n) (hm : 0 ≤ m) (hn1 : 16777215 < n) (hm1 : 1 ≤ m) (hm2 : m ≤ 16777215) (w : World) :
    Calls Try.prog 4 #[.int .u8 a, .int .u8 b, .agg #[.int .u32 n, .int .u32 m]] w fun e w' => e = .returned (.bool true) ∧ Below w.heap.size w w' := by
  go_enter Try.func4, Try.ntmps4
  go_wp2_with fail
  refine (make_bad _ _ (by omega) (by omega) (by omega) _).mono ?_
  rintro e w1 ⟨rfl, rfl⟩
  go_wp2_with fail
  refine (make_ok _ _ (by omega) (by omega) (by omega) (by omega) _).mono ?_
  rintro e w1 ⟨rfl, rfl⟩
  go_wp2
  go_ret
  exact ⟨ret_bool (by first | rfl | (simp; omega)), (Below.refl _ _).alloc (Nat.le_refl _) _⟩
set_option maxHeartbeats 1000000 in
theorem tf_ob_lo (a b n m : Int) (ha : 0 ≤ a) (ha' : a < 256) (hb : 0 ≤ b) (hb' : b < 256) (hn : 0 ≤ n) (hm : 0 ≤ m) (hn1 : 1 ≤ n) (hn2 : n ≤ 16777215) (hm1 : m < 1) (w : World) :
    Calls Try.prog 4 #[.int .u8 a, .int .u8 b, .agg #[.int .u32 n, .int .u32 m]] w fun e w' => e = .returned (.bool true) ∧ Below w.heap.size w w' := by
  go_enter Try.func4, Try.ntmps4
  go_wp2_with fail
  refine (make_ok _ _ (by omega) (by omega) (by omega) (by omega) _).mono ?_
  rintro e w1 ⟨rfl, rfl⟩
  go_wp2_with fail
  refine (make_bad _ _ (by omega) (by omega) (by omega) _).mono ?_
  rintro e w1 ⟨rfl, rfl⟩
  go_wp2
  go_ret
  exact ⟨ret_bool (by first | rfl | (simp; omega)), (Below.refl _ _).alloc (Nat.le_refl _) _⟩
set_option maxHeartbeats 1000000 in
theorem tf_ob_hi (a b n m : Int) (ha : 0 ≤ a) (ha' : a < 256) (hb : 0 ≤ b) (hb' : b < 256) (hn : 0 ≤ n) (hm : 0 ≤ m) (hn1 : 1 ≤ n) (hn2 : n ≤ 16777215) (hm1 : 16777215 < m) (w : World) :
    Calls Try.prog 4 #[.int .u8 a, .int .u8 b, .agg #[.int .u32 n, .int .u32 m]] w fun e w' => e = .returned (.bool true) ∧ Below w.heap.size w w' := by
  go_enter Try.func4, Try.ntmps4
  go_wp2_with fail
  refine (make_ok _ _ (by omega) (by omega) (by omega) (by omega) _).mono ?_
  rintro e w1 ⟨rfl, rfl⟩
  go_wp2_with fail
  refine (make_bad _ _ (by omega) (by omega) (by omega) _).mono ?_
  rintro e w1 ⟨rfl, rfl⟩
  go_wp2
  go_ret
  exact ⟨ret_bool (by first | rfl | (simp; omega)), (Below.refl _ _).alloc (Nat.le_refl _) _⟩
set_option maxHeartbeats 1000000 in
theorem tf_oo_same (a b n m : Int) (ha : 0 ≤ a) (ha' : a < 256) (hb : 0 ≤ b) (hb' : b < 256) (hn : 0 ≤ n) (hm : 0 ≤ m) (hn1 : 1 ≤ n) (hn2 : n ≤ 16777215) (hm1 : 1 ≤ m) (hm2 : m ≤ 16777215) (e1 : (a % 3 == b % 3) = true) (w : World) :
    Calls Try.prog 4 #[.int .u8 a, .int .u8 b, .agg #[.int .u32 n, .int .u32 m]] w fun e w' => e = .returned (.bool true) ∧ Below w.heap.size w w' := by
  have f1 : (M.makeF (a % 3 + 1) n != 1) = true := by rw [bne_iff_ne]; unfold M.makeF; omega
  have f2 : (M.makeF (b % 3 + 1) m != 1) = true := by rw [bne_iff_ne]; unfold M.makeF; omega
  go_enter Try.func4, Try.ntmps4
  go_wp2_with fail
  refine (make_ok _ _ (by omega) (by omega) (by omega) (by omega) _).mono ?_
  rintro e w1 ⟨rfl, rfl⟩
  go_wp2_with fail
  refine (make_ok _ _ (by omega) (by omega) (by omega) (by omega) _).mono ?_
  rintro e w1 ⟨rfl, rfl⟩
  go_wp2
  go_ret
  exact ⟨ret_bool (by first | rfl | (simp; omega)), (Below.refl _ _).alloc (Nat.le_refl _) _⟩
set_option maxHeartbeats 1000000 in
theorem tf_oo_other (a b n m : Int) (ha : 0 ≤ a) (ha' : a < 256) (hb : 0 ≤ b) (hb' : b < 256) (hn : 0 ≤ n) (hm : 0 ≤ m) (hn1 : 1 ≤ n) (hn2 : n ≤ 16777215) (hm1 : 1 ≤ m) (hm2 : m ≤ 16777215) (e1 : (a % 3 == b % 3) = false) (w : World) :
    Calls Try.prog 4 #[.int .u8 a, .int .u8 b, .agg #[.int .u32 n, .int .u32 m]] w fun e w' => e = .returned (.bool true) ∧ Below w.heap.size w w' := by
  have f1 : (M.makeF (a % 3 + 1) n != 1) = true := by rw [bne_iff_ne]; unfold M.makeF; omega
  have f2 : (M.makeF (b % 3 + 1) m != 1) = true := by rw [bne_iff_ne]; unfold M.makeF; omega
  have f3 : (M.makeF (a % 3 + 1) n != M.makeF (b % 3 + 1) m) = true := by
    have := beq_eq_false_iff_ne.1 e1
    rw [bne_iff_ne]; unfold M.makeF; omega
  go_enter Try.func4, Try.ntmps4
  go_wp2_with fail
  refine (make_ok _ _ (by omega) (by omega) (by omega) (by omega) _).mono ?_
  rintro e w1 ⟨rfl, rfl⟩
  go_wp2_with fail
  refine (make_ok _ _ (by omega) (by omega) (by omega) (by omega) _).mono ?_
  rintro e w1 ⟨rfl, rfl⟩
  go_wp2
  go_ret
  exact ⟨ret_bool (by first | rfl | (simp; omega)), (Below.refl _ _).alloc (Nat.le_refl _) _⟩
theorem topFids_walk (a : Int) (ha : (Lit.int .u8 a).wf = true) (b : Int) (hb : (Lit.int .u8 b).wf = true) (n m : Int) (hn : (Lit.int .u32 n).wf = true) (hm : (Lit.int .u32 m).wf = true) (w : World) :
    Calls Try.prog 4 #[.int .u8 a, .int .u8 b, .agg #[.int .u32 n, .int .u32 m]] w fun e w' => e = .returned (.bool true) ∧ Below w.heap.size w w' := by
  obtain ⟨a0, a1⟩ := bd_u8 ha
  obtain ⟨b0, b1⟩ := bd_u8 hb
  obtain ⟨n0, n1⟩ := bd_u32 hn
  obtain ⟨m0, m1⟩ := bd_u32 hm
  by_cases h1 : n < 1
  · by_cases h2 : m < 1
    · exact tf_bb_lo_lo a b n m a0 a1 b0 b1 n0 m0 h1 h2 w
    · by_cases h3 : 16777215 < m
      · exact tf_bb_lo_hi a b n m a0 a1 b0 b1 n0 m0 h1 h3 w
      · exact tf_bo_lo a b n m a0 a1 b0 b1 n0 m0 h1 (by omega) (by omega) w
  · by_cases h4 : 16777215 < n
    · by_cases h2 : m < 1
      · exact tf_bb_hi_lo a b n m a0 a1 b0 b1 n0 m0 h4 h2 w
      · by_cases h3 : 16777215 < m
        · exact tf_bb_hi_hi a b n m a0 a1 b0 b1 n0 m0 h4 h3 w
        · exact tf_bo_hi a b n m a0 a1 b0 b1 n0 m0 h4 (by omega) (by omega) w
    · by_cases h2 : m < 1
      · exact tf_ob_lo a b n m a0 a1 b0 b1 n0 m0 (by omega) (by omega) h2 w
      · by_cases h3 : 16777215 < m
        · exact tf_ob_hi a b n m a0 a1 b0 b1 n0 m0 (by omega) (by omega) h3 w
        · by_cases e : a % 3 = b % 3
          · exact tf_oo_same a b n m a0 a1 b0 b1 n0 m0 (by omega) (by omega) (by omega) (by omega) (beq_iff_eq.2 e) w
          · exact tf_oo_other a b n m a0 a1 b0 b1 n0 m0 (by omega) (by omega) (by omega) (by omega) (beq_eq_false_iff_ne.2 e) w
/-! ### The row of TopFids -/
theorem topFids_own : ownKnob Try.prog.godebug = none := by kernel_rfl
theorem topFids_laidOut : laidOutB Try.prog = true := by kernel_rfl
set_option maxRecDepth 100000 in
theorem topFids_lifted (os : Os) (started : os.Started) (H : Type) (enc : TypeId × Value → H) :
    ReturnsInHanded {} Try.checked os 4 .any (Rows.topFidsSpec.pre6 enc Try.prog Try.f4 Rows.topFidsRow.domain false) (Rows.topFidsSpec.post enc Try.prog Try.f4 false true false false) := by
  refine returnsInHanded_of_change (C := Try.checked) topFids_own started (by kernel_rfl) Try.func4
    (ChangeSpec.witness6 (enc := enc) (C := Try.checked) false ⟨#[], #[.int .u8 0, .int .u8 0, .agg #[.int .u32 0, .int .u32 0]], []⟩ 8 (by kernel_rfl) (by kernel_rfl) (by kernel_rfl) (by kernel_rfl)) ?_
  intro W base args ds gs before hval0 hW hcnd _
  have hval : ∀ (j : Nat) t v, Try.f4.params[j]? = some t → args[j]? = some v → Value.okWide Try.prog W .any base t v := hval0
  have hW' := hW
  obtain ⟨p, q, hA0, hV, rfl, hfz, hnd⟩ := hW
  have hA : DataW.TrodAll enc Try.prog W 0 (fun _ => true) true Try.f4.params.toList args.toList ds p := hA0
  rw [Try.params4] at hA hval
  obtain ⟨v0, vs0, d0, ds0, p0, q0, hargs, rfl, rfl, h0, r0⟩ := trodAll_cons hA
  obtain ⟨v1, vs1, d1, ds1, p1, q1, rfl, rfl, rfl, h1, r1⟩ := trodAll_cons r0
  obtain ⟨v2, vs2, d2, ds2, p2, q2, rfl, rfl, rfl, h2, r2⟩ := trodAll_cons r1
  obtain ⟨rfl, rfl, rfl⟩ := trodAll_nil r2
  obtain rfl : args = #[v0, v1, v2] := by cases args; simp_all
  obtain ⟨rfl, rfl⟩ := trodVars_none hV
  obtain ⟨a0, rfl, rfl, rfl, w0⟩ := open_int Try.underlying5 (hval 0 5 v0 rfl rfl) h0
  obtain ⟨a1, rfl, rfl, rfl, w1⟩ := open_int Try.underlying5 (hval 1 5 v1 rfl rfl) h1
  have k2 := h2
  have lt2 : ∀ x ∈ p2, x.block < W.heap.size := by obtain ⟨m, hm⟩ := k2; exact DataW.trod_lt m _ _ _ hm
  obtain ⟨x2, y2, rfl, wx2, wy2⟩ := open_pair (k := .u32) Try.underlying32 Try.underlying31 (by kernel_rfl) (by kernel_rfl) (hval 2 32 v2 rfl rfl) h2
  clear hA0 hval0
  refine (topFids_walk a0 w0 a1 w1 x2 y2 wx2 wy2 W).mono fun e W' ⟨he, bel⟩ => ?_
  subst he
  exact ⟨_, rfl, _, _, _, [], _, [], hW', trodAll_mk1 (shut_bool Try.underlying4 _), (trodAll_cons_mk (shut_int Try.underlying5 w0) (trodAll_cons_mk (shut_int Try.underlying5 w1) (trodAll_cons_mk (Below.trod topFids_laidOut (by kernel_rfl) (of_decide_eq_true (by kernel_rfl)) k2 bel lt2) trodAll_mk0))), rfl, bel.frame _, fun h => by cases h⟩
theorem topFids_over : Rows.topFidsRow.holds Try.pinned (OpenSpec.ofChange Rows.topFidsSpec) :=
  OpenClaim.holds_of_wide 4 Try.f4 rfl rfl rfl rfl rfl rfl rfl ⟨rfl, rfl, rfl, rfl, rfl⟩ rfl rfl rfl rfl rfl (by kernel_rfl) Try.func4 (by kernel_rfl)
    (of_decide_eq_true (by kernel_rfl)) (by unfold Func.isWrapper; first | (rw [if_pos (by decide +kernel)]; kernel_rfl) | (rw [if_neg (by decide +kernel)]; exact ⟨rfl, rfl⟩))
    (fun os started H enc _ => topFids_lifted os started H enc)
/-- The statement. -/
theorem topFids_holds : Rows.TopFidsSaid := topFids_over
#print axioms topFids_holds
end Go.Proofs.Ytdbllggcomllgad
