/-
  The order in which Walk tells what is dear.
-/
import Derived.Test.YtilcbkejmpfnfabCCm
import Derived.Test.YtilcbkejmpfnfabRgH
namespace Go.Proofs.Ytilcbkejmpfnfab
open Go.RowKit Go.ChangeShapes Go.WideShapes Go.ChangeAt Go.Maps Go.Shelf
set_option linter.unusedVariables false
set_option linter.unusedSimpArgs false
set_option maxRecDepth 100000
/-- What Walk's comparison answers. -/
def Ca.walkZ (c : Ca) (i j : Int) : Int := orZ (cmpZ (c.dearN j) (c.dearN i)) (cmpZ i j)
theorem new_two (w : World) (x y : Int) : (w.alloc (.cells #[.int .i64 x, .int .i64 y] 3)).cell? ⟨w.heap.size, 0, none⟩ = some (.int .i64 x) ∧ (w.alloc (.cells #[.int .i64 x, .int .i64 y] 3)).cell? ⟨w.heap.size, 1, none⟩ = some (.int .i64 y) := by
  have := heap_alloc_new w (.cells #[.int .i64 x, .int .i64 y] 3)
  constructor <;> (unfold World.cell?; rw [this]; rfl)
theorem drewF (w : World) : Below w.heap.size w w.drew := Below.drew (Below.refl _ _)
set_option maxHeartbeats 4000000 in
theorem walk1_c {w : World} {Bc g b1 b2 : Nat} {c : Ca} (hB : w.cell? ⟨Bc, 0, none⟩ = some (pA g)) (h : IsCa w g b1 b2 c) {i j : Int} (h0 : 0 ≤ i) (h1 : i < 4294967296) (j0 : 0 ≤ j) (j1 : j < 4294967296) :
    Calls Try.prog 12 #[.int .u32 i, .int .u32 j, .pointer (some ⟨Bc, 0, none⟩)] w fun e w' => e = .returned (.int .i64 (c.walkZ i j)) ∧ Below w.heap.size w w' := by
  have B0 := hid (drewF w)
  have L0 : ∀ w', Below w.drew.heap.size w.drew w' → w'.cell? ⟨Bc, 0, none⟩ = some (pA g) := fun w' hb => cell_later (B0.out.trans hb) hB
  have L3 : ∀ w', Below w.drew.heap.size w.drew w' → w'.cell? ⟨g, 3, none⟩ = some (.map (some b2)) := fun w' hb => (h.later (B0.out.trans hb)).cells.2.2.2.1
  have A1 : ∀ w', Below w.drew.heap.size w.drew w' → (Instr.lookup 36 (.map (some b2)) (.int .u32 i) false).run Try.prog w' = .ok (.int .i64 (c.dearN i)) w' := fun w' hb => (h.later (B0.out.trans hb)).2.2.1.look ht2 zeroNu h0 h1
  have A2 : ∀ w', Below w.drew.heap.size w.drew w' → (Instr.lookup 36 (.map (some b2)) (.int .u32 j) false).run Try.prog w' = .ok (.int .i64 (c.dearN j)) w' := fun w' hb => (h.later (B0.out.trans hb)).2.2.1.look ht2 zeroNu j0 j1
  have RV : Hid (c.walkZ i j = orZ (cmpZ (c.dearN j) (c.dearN i)) (cmpZ i j)) := hid rfl
  generalize c.walkZ i j = rv at *
  generalize c.dearN i = di at *
  generalize c.dearN j = dj at *
  clear h hB
  go_enter Try.func12, Try.ntmps12
  go_wp2_with fail
  refine wp_region_held_drew (S := fun w' => Below w.drew.heap.size w.drew w') (by kernel_rfl) (Below.refl _ _) (fun hHeld => ?_)
  refine take_l 0 (v := ?_) rfl (by kernel_rfl) (by kernel_rfl) (by kernel_rfl) (fun _ _ _ h => h) (Or.inl ⟨by rfl, ?_⟩) (by assumption) ?_
  rotate_left
  · (intro w' hSw; (have kq := L0 _ hSw); clear hSw; go_simp; first | done | with_reducible rfl)
  try simp only [Act.put, List.setIfInBounds_toArray, List.set_cons_zero, List.set_cons_succ]
  refine take_l 1 (v := ?_) rfl (by kernel_rfl) (by kernel_rfl) (by kernel_rfl) (fun _ _ _ h => h) (Or.inl ⟨by rfl, ?_⟩) (by assumption) ?_
  rotate_left
  · (intro w' hSw; clear hSw; go_simp; first | done | with_reducible rfl)
  try simp only [Act.put, List.setIfInBounds_toArray, List.set_cons_zero, List.set_cons_succ]
  refine take_l 2 (v := ?_) rfl (by kernel_rfl) (by kernel_rfl) (by kernel_rfl) (fun _ _ _ h => h) (Or.inl ⟨by rfl, ?_⟩) (by assumption) ?_
  rotate_left
  · (intro w' hSw; clear hSw; go_simp; first | done | with_reducible rfl)
  try simp only [Act.put, List.setIfInBounds_toArray, List.set_cons_zero, List.set_cons_succ]
  refine take_l 3 (v := ?_) rfl (by kernel_rfl) (by kernel_rfl) (by kernel_rfl) (fun _ _ _ h => h) (Or.inl ⟨by rfl, ?_⟩) (by assumption) ?_
  rotate_left
  · (intro w' hSw; (have kq := L3 _ hSw); clear hSw; go_simp; first | done | with_reducible rfl)
  try simp only [Act.put, List.setIfInBounds_toArray, List.set_cons_zero, List.set_cons_succ]
  refine take_l 4 (v := ?_) rfl (by kernel_rfl) (by kernel_rfl) (by kernel_rfl) (fun _ _ _ h => h) (Or.inl ⟨by rfl, ?_⟩) (by assumption) ?_
  rotate_left
  · (intro w' hSw; clear hSw; go_simp; first | done | with_reducible rfl)
  try simp only [Act.put, List.setIfInBounds_toArray, List.set_cons_zero, List.set_cons_succ]
  refine take_l 5 (v := ?_) rfl (by kernel_rfl) (by kernel_rfl) (by kernel_rfl) (fun _ _ _ h => h) (Or.inl ⟨by rfl, ?_⟩) (by assumption) ?_
  rotate_left
  · (intro w' hSw; (have kq := A2 _ hSw); clear hSw; go_simp; first | done | with_reducible rfl)
  try simp only [Act.put, List.setIfInBounds_toArray, List.set_cons_zero, List.set_cons_succ]
  refine take_l 6 (v := ?_) rfl (by kernel_rfl) (by kernel_rfl) (by kernel_rfl) (fun _ _ _ h => h) (Or.inl ⟨by rfl, ?_⟩) (by assumption) ?_
  rotate_left
  · (intro w' hSw; (have kq := L0 _ hSw); clear hSw; go_simp; first | done | with_reducible rfl)
  try simp only [Act.put, List.setIfInBounds_toArray, List.set_cons_zero, List.set_cons_succ]
  refine take_l 7 (v := ?_) rfl (by kernel_rfl) (by kernel_rfl) (by kernel_rfl) (fun _ _ _ h => h) (Or.inl ⟨by rfl, ?_⟩) (by assumption) ?_
  rotate_left
  · (intro w' hSw; clear hSw; go_simp; first | done | with_reducible rfl)
  try simp only [Act.put, List.setIfInBounds_toArray, List.set_cons_zero, List.set_cons_succ]
  refine take_l 8 (v := ?_) rfl (by kernel_rfl) (by kernel_rfl) (by kernel_rfl) (fun _ _ _ h => h) (Or.inl ⟨by rfl, ?_⟩) (by assumption) ?_
  rotate_left
  · (intro w' hSw; clear hSw; go_simp; first | done | with_reducible rfl)
  try simp only [Act.put, List.setIfInBounds_toArray, List.set_cons_zero, List.set_cons_succ]
  refine take_l 9 (v := ?_) rfl (by kernel_rfl) (by kernel_rfl) (by kernel_rfl) (fun _ _ _ h => h) (Or.inl ⟨by rfl, ?_⟩) (by assumption) ?_
  rotate_left
  · (intro w' hSw; (have kq := L3 _ hSw); clear hSw; go_simp; first | done | with_reducible rfl)
  try simp only [Act.put, List.setIfInBounds_toArray, List.set_cons_zero, List.set_cons_succ]
  refine take_l 10 (v := ?_) rfl (by kernel_rfl) (by kernel_rfl) (by kernel_rfl) (fun _ _ _ h => h) (Or.inl ⟨by rfl, ?_⟩) (by assumption) ?_
  rotate_left
  · (intro w' hSw; clear hSw; go_simp; first | done | with_reducible rfl)
  try simp only [Act.put, List.setIfInBounds_toArray, List.set_cons_zero, List.set_cons_succ]
  refine take_l 11 (v := ?_) rfl (by kernel_rfl) (by kernel_rfl) (by kernel_rfl) (fun _ _ _ h => h) (Or.inl ⟨by rfl, ?_⟩) (by assumption) ?_
  rotate_left
  · (intro w' hSw; (have kq := A1 _ hSw); clear hSw; go_simp; first | done | with_reducible rfl)
  try simp only [Act.put, List.setIfInBounds_toArray, List.set_cons_zero, List.set_cons_succ]
  refine take_l 13 (v := ?_) rfl (by kernel_rfl) (by kernel_rfl) (by kernel_rfl) (fun _ _ _ h => h) (Or.inl ⟨by rfl, ?_⟩) (by assumption) ?_
  rotate_left
  · (intro w' hSw; clear hSw; go_simp; first | done | with_reducible rfl)
  try simp only [Act.put, List.setIfInBounds_toArray, List.set_cons_zero, List.set_cons_succ]
  refine take_l 14 (v := ?_) rfl (by kernel_rfl) (by kernel_rfl) (by kernel_rfl) (fun _ _ _ h => h) (Or.inl ⟨by rfl, ?_⟩) (by assumption) ?_
  rotate_left
  · (intro w' hSw; clear hSw; go_simp; first | done | with_reducible rfl)
  try simp only [Act.put, List.setIfInBounds_toArray, List.set_cons_zero, List.set_cons_succ]
  refine cons_l 12 rfl (by kernel_rfl) (fun K hK => ?_)
  go_simp
  refine (cmpI_c _ _ _).mono ?_; rintro _ w2 ⟨rfl, e2⟩; rw [e2]; clear e2
  go_simp
  refine hK.out _ _ (Below.refl _ _) (fun hHeld => ?_)
  clear hK K
  try simp only [Act.put, List.setIfInBounds_toArray, List.set_cons_zero, List.set_cons_succ]
  refine cons_l 15 rfl (by kernel_rfl) (fun K hK => ?_)
  go_simp
  refine (cmpF_c _ _ _).mono ?_; rintro _ w2 ⟨rfl, e2⟩; rw [e2]; clear e2
  go_simp
  refine hK.out _ _ (Below.refl _ _) (fun hHeld => ?_)
  clear hK K
  try simp only [Act.put, List.setIfInBounds_toArray, List.set_cons_zero, List.set_cons_succ]
  refine cons_l 16 rfl (by kernel_rfl) (fun K hK => ?_)
  go_simp
  have hBA : Below w.drew.heap.size w.drew (w.drew.alloc (.cells #[.int .i64 (cmpZ dj di), .int .i64 (cmpZ i j)] 3)) := (Below.refl _ _).alloc (Nat.le_refl _) _
  have OC := hid (or_c w.drew.heap.size (cmpZ dj di) (cmpZ i j) _ (new_two w.drew _ _).1 (new_two w.drew _ _).2)
  have BA := hid hBA
  refine hK.out _ _ hBA (fun hHeld => ?_)
  clear hK K hBA
  try simp only [Act.put, List.setIfInBounds_toArray, List.set_cons_zero, List.set_cons_succ]
  refine cons_l 17 rfl (by kernel_rfl) (fun K hK => ?_)
  go_simp
  refine OC.out.mono ?_; rintro _ w3 ⟨rfl, e3⟩; rw [e3]; clear e3
  go_simp
  refine hK.out _ _ BA.out (fun hHeld => ?_)
  clear hK K
  try simp only [Act.put, List.setIfInBounds_toArray, List.set_cons_zero, List.set_cons_succ]
  refine take_l 18 (v := ?_) rfl (by kernel_rfl) (by kernel_rfl) (by kernel_rfl) (fun _ _ _ h => h) (Or.inl ⟨by rfl, ?_⟩) (by assumption) ?_
  rotate_left
  · (intro w' hSw; clear hSw; go_simp; first | done | with_reducible rfl)
  try simp only [Act.put, List.setIfInBounds_toArray, List.set_cons_zero, List.set_cons_succ]
  refine wpAnyH_done (by kernel_rfl) ?_ _
  go_wp2
  go_ret
  exact ⟨ret_int RV.out.symm, B0.out.trans BA.out⟩
end Go.Proofs.Ytilcbkejmpfnfab
