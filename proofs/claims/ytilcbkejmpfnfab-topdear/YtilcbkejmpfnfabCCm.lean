/-
  The order in which Walk tells what is dear: its comparison.
-/
import Derived.Test.YtilcbkejmpfnfabCPu
namespace Go.Proofs.Ytilcbkejmpfnfab
open Go.RowKit Go.ChangeShapes Go.WideShapes Go.ChangeAt Go.Maps Go.Shelf
set_option linter.unusedVariables false
set_option linter.unusedSimpArgs false
set_option maxRecDepth 100000
/-- What Compare answers. -/
def cmpZ (a b : Int) : Int := if a < b then -1 else if b < a then 1 else 0
set_option maxHeartbeats 400000 in
theorem nanI_c (a : Int) (w : World) : Calls Try.prog 21 #[.int .i64 a] w fun e w' => e = .returned (.bool false) ∧ w' = w := by
  have hb : (a != a) = false := by simp
  go_enter Try.func21, Try.ntmps21
  go_wp2
  go_ret
  exact ⟨by first | rfl | exact ret_bool (by simp), rfl⟩
set_option maxHeartbeats 1000000 in
theorem cmpI_c (a b : Int) (w : World) : Calls Try.prog 14 #[.int .i64 a, .int .i64 b] w fun e w' => e = .returned (.int .i64 (cmpZ a b)) ∧ w' = w := by
  by_cases h1 : a < b
  · have E : Hid (cmpZ a b = -1) := hid (by unfold cmpZ; rw [if_pos h1])
    have d1 : decide (a < b) = true := decide_eq_true h1
    go_enter Try.func14, Try.ntmps14
    go_wp2_with (go_at_call 21; refine (nanI_c _ _).mono ?_; rintro _ w1 ⟨rfl, e1⟩; rw [e1]; clear e1)
    go_ret
    exact ⟨ret_int E.out.symm, rfl⟩
  · have d1 : decide (a < b) = false := decide_eq_false h1
    by_cases h2 : b < a
    · have E : Hid (cmpZ a b = 1) := hid (by unfold cmpZ; rw [if_neg h1, if_pos h2])
      have d2 : decide (b < a) = true := decide_eq_true h2
      go_enter Try.func14, Try.ntmps14
      go_wp2_with (go_at_call 21; refine (nanI_c _ _).mono ?_; rintro _ w1 ⟨rfl, e1⟩; rw [e1]; clear e1)
      go_ret
      exact ⟨ret_int E.out.symm, rfl⟩
    · have E : Hid (cmpZ a b = 0) := hid (by unfold cmpZ; rw [if_neg h1, if_neg h2])
      have d2 : decide (b < a) = false := decide_eq_false h2
      go_enter Try.func14, Try.ntmps14
      go_wp2_with (go_at_call 21; refine (nanI_c _ _).mono ?_; rintro _ w1 ⟨rfl, e1⟩; rw [e1]; clear e1)
      go_ret
      exact ⟨ret_int E.out.symm, rfl⟩
set_option maxHeartbeats 1000000 in
theorem cmpF_c (a b : Int) (w : World) : Calls Try.prog 15 #[.int .u32 a, .int .u32 b] w fun e w' => e = .returned (.int .i64 (cmpZ a b)) ∧ w' = w := by
  by_cases h1 : a < b
  · have E : Hid (cmpZ a b = -1) := hid (by unfold cmpZ; rw [if_pos h1])
    have d1 : decide (a < b) = true := decide_eq_true h1
    go_enter Try.func15, Try.ntmps15
    go_wp2_with (go_at_call 22; refine (nanF_c _ _).mono ?_; rintro _ w1 ⟨rfl, e1⟩; rw [e1]; clear e1)
    go_ret
    exact ⟨ret_int E.out.symm, rfl⟩
  · have d1 : decide (a < b) = false := decide_eq_false h1
    by_cases h2 : b < a
    · have E : Hid (cmpZ a b = 1) := hid (by unfold cmpZ; rw [if_neg h1, if_pos h2])
      have d2 : decide (b < a) = true := decide_eq_true h2
      go_enter Try.func15, Try.ntmps15
      go_wp2_with (go_at_call 22; refine (nanF_c _ _).mono ?_; rintro _ w1 ⟨rfl, e1⟩; rw [e1]; clear e1)
      go_ret
      exact ⟨ret_int E.out.symm, rfl⟩
    · have E : Hid (cmpZ a b = 0) := hid (by unfold cmpZ; rw [if_neg h1, if_neg h2])
      have d2 : decide (b < a) = false := decide_eq_false h2
      go_enter Try.func15, Try.ntmps15
      go_wp2_with (go_at_call 22; refine (nanF_c _ _).mono ?_; rintro _ w1 ⟨rfl, e1⟩; rw [e1]; clear e1)
      go_ret
      exact ⟨ret_int E.out.symm, rfl⟩
/-- What Or answers of two. -/
def orZ (x y : Int) : Int := if x = 0 then y else x
set_option maxHeartbeats 1000000 in
theorem or_c (g : Nat) (x y : Int) (w : World) (h0 : w.cell? ⟨g, 0, none⟩ = some (.int .i64 x)) (h1 : w.cell? ⟨g, 1, none⟩ = some (.int .i64 y)) :
    Calls Try.prog 13 #[.slice (some ⟨g, 0, none⟩) 2 2] w fun e w' => e = .returned (.int .i64 (orZ x y)) ∧ w' = w := by
  by_cases hx : x = 0
  · have bx : (x != 0) = false := by simp [hx]
    by_cases hy : y = 0
    · have by' : (y != 0) = false := by simp [hy]
      have E : Hid (orZ x y = 0) := hid (by unfold orZ; rw [if_pos hx, hy])
      clear hx hy
      go_enter Try.func13, Try.ntmps13
      go_wp2
      refine wp_loop_rounds 3 ?_
      rw [rounds_succ]
      go_wp2
      rw [rounds_succ]
      go_wp2
      rw [rounds_succ]
      go_wp2
      go_ret
      exact ⟨ret_int E.out.symm, rfl⟩
    · have by' : (y != 0) = true := by simp [hy]
      have E : Hid (orZ x y = y) := hid (by unfold orZ; rw [if_pos hx])
      clear hx hy
      go_enter Try.func13, Try.ntmps13
      go_wp2
      refine wp_loop_rounds 3 ?_
      rw [rounds_succ]
      go_wp2
      rw [rounds_succ]
      go_wp2
      go_ret
      exact ⟨ret_int E.out.symm, rfl⟩
  · have bx : (x != 0) = true := by simp [hx]
    have E : Hid (orZ x y = x) := hid (by unfold orZ; rw [if_neg hx])
    clear hx
    go_enter Try.func13, Try.ntmps13
    go_wp2
    refine wp_loop_rounds 3 ?_
    rw [rounds_succ]
    go_wp2
    go_ret
    exact ⟨ret_int E.out.symm, rfl⟩
end Go.Proofs.Ytilcbkejmpfnfab
