/-
  The document's bytes of a callee: Put.
-/
import Derived.Test.YtjgpolaogneoaaaRB2
import Derived.Test.YtjgpolaogneoaaaRRk
namespace Go.Proofs.Ytjgpolaogneoaaa
open Go.RowKit Go.ChangeShapes Go.WideShapes Go.ChangeAt
set_option linter.unusedVariables false
set_option linter.unusedSimpArgs false
set_option maxRecDepth 100000
set_option maxHeartbeats 2000000 in
theorem rput4_c (n : Int) (w : World) (h0 : 0 ≤ n) (h1 : n < 4294967296) :
    Calls Try.prog 45 #[.int .u64 n, .int .i64 4] w fun e w' => ∃ v', e = .returned v' ∧ Row8 w' w.heap.size v' 4 (be4 n) ∧ Below w.heap.size w w' := by
  obtain ⟨i0, hi, hz0, hz1, hz2⟩ := info_parts8
  have R0 := hid (Row8.nil w w.heap.size (Nat.le_refl _))
  have hb0 : w.heap.size ≤ w.heap.size := Nat.le_refl _
  go_enter Try.func45, Try.ntmps45
  go_wp2
  refine wp_loop_rounds 5 ?_
  rw [rounds_succ]
  go_wp2_with (at_builtin; refine wpList_append_own _ rfl _ _ 28 rfl w.heap.size 5 i0 (.int .u8 0) 1 1 Try.underlying28 hi hz0 hz1 hz2 rfl (by decide) _ _ _ rfl (R0.out.1.alloc _) ⟨w.heap.size, 0, none⟩ 1 1 [.int .u8 _] rfl rfl (cell_one_new _ _ _) (fun y hy => by simp at hy; subst hy; rfl) (by unfold maxLen; omega) (by omega) (by first | (simp; done) | (simp; omega)) ?_; intro v1 w1 hown hgrow hnil; (have B1 := hid (row8_below R0.out hgrow)); (have hb1 : w.heap.size ≤ w1.heap.size := by (have := B1.out.size; omega)); (have R1 := hid (Row8.snoc R0.out.2.2 hown hb1)); (obtain ⟨a1, c1, rfl⟩ := R1.out.slice); clear hown hgrow hnil)
  rw [rounds_succ]
  go_wp2_with (at_builtin; refine wpList_append_own _ rfl _ _ 28 rfl w.heap.size 5 i0 (.int .u8 0) 1 1 Try.underlying28 hi hz0 hz1 hz2 rfl (by decide) _ _ _ rfl (R1.out.1.alloc _) ⟨w1.heap.size, 0, none⟩ 1 1 [.int .u8 _] rfl rfl (cell_one_new _ _ _) (fun y hy => by simp at hy; subst hy; rfl) (by unfold maxLen; omega) (by omega) (by first | (simp; done) | (simp; omega)) ?_; intro v2 w2 hown hgrow hnil; (have B2 := hid (row8_below R1.out hgrow)); (have hb2 : w.heap.size ≤ w2.heap.size := by (have := B2.out.size; omega)); (have R2 := hid (Row8.snoc R1.out.2.2 hown hb2)); (obtain ⟨a2, c2, rfl⟩ := R2.out.slice); clear hown hgrow hnil)
  rw [rounds_succ]
  go_wp2_with (at_builtin; refine wpList_append_own _ rfl _ _ 28 rfl w.heap.size 5 i0 (.int .u8 0) 1 1 Try.underlying28 hi hz0 hz1 hz2 rfl (by decide) _ _ _ rfl (R2.out.1.alloc _) ⟨w2.heap.size, 0, none⟩ 1 1 [.int .u8 _] rfl rfl (cell_one_new _ _ _) (fun y hy => by simp at hy; subst hy; rfl) (by unfold maxLen; omega) (by omega) (by first | (simp; done) | (simp; omega)) ?_; intro v3 w3 hown hgrow hnil; (have B3 := hid (row8_below R2.out hgrow)); (have hb3 : w.heap.size ≤ w3.heap.size := by (have := B3.out.size; omega)); (have R3 := hid (Row8.snoc R2.out.2.2 hown hb3)); (obtain ⟨a3, c3, rfl⟩ := R3.out.slice); clear hown hgrow hnil)
  rw [rounds_succ]
  go_wp2_with (at_builtin; refine wpList_append_own _ rfl _ _ 28 rfl w.heap.size 5 i0 (.int .u8 0) 1 1 Try.underlying28 hi hz0 hz1 hz2 rfl (by decide) _ _ _ rfl (R3.out.1.alloc _) ⟨w3.heap.size, 0, none⟩ 1 1 [.int .u8 _] rfl rfl (cell_one_new _ _ _) (fun y hy => by simp at hy; subst hy; rfl) (by unfold maxLen; omega) (by omega) (by first | (simp; done) | (simp; omega)) ?_; intro v4 w4 hown hgrow hnil; (have B4 := hid (row8_below R3.out hgrow)); (have hb4 : w.heap.size ≤ w4.heap.size := by (have := B4.out.size; omega)); (have R4 := hid (Row8.snoc R3.out.2.2 hown hb4)); (obtain ⟨a4, c4, rfl⟩ := R4.out.slice); clear hown hgrow hnil)
  rw [rounds_succ]
  go_wp2
  go_ret
  have e1 : n / 16777216 % 256 = n / 16777216 := by omega
  have q := R4.out
  have e2 : [] ++ [n / 16777216] ++ [n / 65536 % 256] ++ [n / 256 % 256] ++ [n % 256] = be4 n := by simp [be4, e1]
  rw [e2] at q
  exact ⟨_, rfl, q, (((B1.out).trans B2.out).trans B3.out).trans B4.out⟩
set_option maxHeartbeats 2000000 in
theorem rput2_c (n : Int) (w : World) (h0 : 0 ≤ n) (h1 : n < 65536) :
    Calls Try.prog 45 #[.int .u64 n, .int .i64 2] w fun e w' => ∃ v', e = .returned v' ∧ Row8 w' w.heap.size v' 2 (be2 n) ∧ Below w.heap.size w w' := by
  obtain ⟨i0, hi, hz0, hz1, hz2⟩ := info_parts8
  have R0 := hid (Row8.nil w w.heap.size (Nat.le_refl _))
  have hb0 : w.heap.size ≤ w.heap.size := Nat.le_refl _
  go_enter Try.func45, Try.ntmps45
  go_wp2
  refine wp_loop_rounds 3 ?_
  rw [rounds_succ]
  go_wp2_with (at_builtin; refine wpList_append_own _ rfl _ _ 28 rfl w.heap.size 5 i0 (.int .u8 0) 1 1 Try.underlying28 hi hz0 hz1 hz2 rfl (by decide) _ _ _ rfl (R0.out.1.alloc _) ⟨w.heap.size, 0, none⟩ 1 1 [.int .u8 _] rfl rfl (cell_one_new _ _ _) (fun y hy => by simp at hy; subst hy; rfl) (by unfold maxLen; omega) (by omega) (by first | (simp; done) | (simp; omega)) ?_; intro v1 w1 hown hgrow hnil; (have B1 := hid (row8_below R0.out hgrow)); (have hb1 : w.heap.size ≤ w1.heap.size := by (have := B1.out.size; omega)); (have R1 := hid (Row8.snoc R0.out.2.2 hown hb1)); (obtain ⟨a1, c1, rfl⟩ := R1.out.slice); clear hown hgrow hnil)
  rw [rounds_succ]
  go_wp2_with (at_builtin; refine wpList_append_own _ rfl _ _ 28 rfl w.heap.size 5 i0 (.int .u8 0) 1 1 Try.underlying28 hi hz0 hz1 hz2 rfl (by decide) _ _ _ rfl (R1.out.1.alloc _) ⟨w1.heap.size, 0, none⟩ 1 1 [.int .u8 _] rfl rfl (cell_one_new _ _ _) (fun y hy => by simp at hy; subst hy; rfl) (by unfold maxLen; omega) (by omega) (by first | (simp; done) | (simp; omega)) ?_; intro v2 w2 hown hgrow hnil; (have B2 := hid (row8_below R1.out hgrow)); (have hb2 : w.heap.size ≤ w2.heap.size := by (have := B2.out.size; omega)); (have R2 := hid (Row8.snoc R1.out.2.2 hown hb2)); (obtain ⟨a2, c2, rfl⟩ := R2.out.slice); clear hown hgrow hnil)
  rw [rounds_succ]
  go_wp2
  go_ret
  have e1 : n / 256 % 256 = n / 256 := by omega
  have q := R2.out
  have e2 : [] ++ [n / 256] ++ [n % 256] = be2 n := by simp [be2, e1]
  rw [e2] at q
  exact ⟨_, rfl, q, (B1.out).trans B2.out⟩
end Go.Proofs.Ytjgpolaogneoaaa
