/-
  The order in which Walk tells what is dear: its comparison.
  The order in which Walk tells what is dear.
  What is at hand, as a row.
  Fids, sorted by what Walk asks: the dearest first.
  slices.SortFunc as Walk calls it.
  Rows of fids that the call made, wherever they begin.
-/
import Derived.Test.YtfmghbennahlfaaGreatUnBg
import Derived.Test.YtfmghbennahlfaaGreatUnAt
import Derived.Test.YtfmghbennahlfaaGreatUnBn
import Derived.ArgAppend
namespace Go.Proofs.YtfmghbennahlfaaGreat
open Go.RowKit Go.ChangeShapes Go.WideShapes Go.ChangeAt Go.Maps Go.Shelf
set_option linter.unusedVariables false
set_option linter.unusedSimpArgs false
set_option maxRecDepth 100000
def cmpZ (a b : Int) : Int := if a < b then -1 else if b < a then 1 else 0
set_option maxHeartbeats 400000 in
theorem nanI_c (a : Int) (w : World) : Calls Tryz.prog 212 #[.int .i64 a] w fun e w' => e = .returned (.bool false) ∧ w' = w := by
 have hb : (a != a) = false := by simp
 go_enter Tryz.func212, Tryz.ntmps212
 go_wp2
 go_ret
 exact ⟨by first | rfl | exact ret_bool (by simp), rfl⟩
set_option maxHeartbeats 1000000 in
theorem cmpI_c (a b : Int) (w : World) : Calls Tryz.prog 155 #[.int .i64 a, .int .i64 b] w fun e w' => e = .returned (.int .i64 (cmpZ a b)) ∧ w' = w := by
 by_cases h1 : a < b
 · have E : Hid (cmpZ a b = -1) := hid (by unfold cmpZ; rw [if_pos h1])
   have d1 : decide (a < b) = true := decide_eq_true h1
   go_enter Tryz.func155, Tryz.ntmps155
   go_wp2_with (go_at_call 212; refine (nanI_c _ _).mono ?_; rintro _ w1 ⟨rfl, e1⟩; rw [e1]; clear e1)
   go_ret
   exact ⟨ret_int E.out.symm, rfl⟩
 · have d1 : decide (a < b) = false := decide_eq_false h1
   by_cases h2 : b < a
   · have E : Hid (cmpZ a b = 1) := hid (by unfold cmpZ; rw [if_neg h1, if_pos h2])
     have d2 : decide (b < a) = true := decide_eq_true h2
     go_enter Tryz.func155, Tryz.ntmps155
     go_wp2_with (go_at_call 212; refine (nanI_c _ _).mono ?_; rintro _ w1 ⟨rfl, e1⟩; rw [e1]; clear e1)
     go_ret
     exact ⟨ret_int E.out.symm, rfl⟩
   · have E : Hid (cmpZ a b = 0) := hid (by unfold cmpZ; rw [if_neg h1, if_neg h2])
     have d2 : decide (b < a) = false := decide_eq_false h2
     go_enter Tryz.func155, Tryz.ntmps155
     go_wp2_with (go_at_call 212; refine (nanI_c _ _).mono ?_; rintro _ w1 ⟨rfl, e1⟩; rw [e1]; clear e1)
     go_ret
     exact ⟨ret_int E.out.symm, rfl⟩
set_option maxHeartbeats 1000000 in
theorem cmpF_c (a b : Int) (w : World) : Calls Tryz.prog 156 #[.int .u32 a, .int .u32 b] w fun e w' => e = .returned (.int .i64 (cmpZ a b)) ∧ w' = w := by
 by_cases h1 : a < b
 · have E : Hid (cmpZ a b = -1) := hid (by unfold cmpZ; rw [if_pos h1])
   have d1 : decide (a < b) = true := decide_eq_true h1
   go_enter Tryz.func156, Tryz.ntmps156
   go_wp2_with (go_at_call 213; refine (nanF_c _ _).mono ?_; rintro _ w1 ⟨rfl, e1⟩; rw [e1]; clear e1)
   go_ret
   exact ⟨ret_int E.out.symm, rfl⟩
 · have d1 : decide (a < b) = false := decide_eq_false h1
   by_cases h2 : b < a
   · have E : Hid (cmpZ a b = 1) := hid (by unfold cmpZ; rw [if_neg h1, if_pos h2])
     have d2 : decide (b < a) = true := decide_eq_true h2
     go_enter Tryz.func156, Tryz.ntmps156
     go_wp2_with (go_at_call 213; refine (nanF_c _ _).mono ?_; rintro _ w1 ⟨rfl, e1⟩; rw [e1]; clear e1)
     go_ret
     exact ⟨ret_int E.out.symm, rfl⟩
   · have E : Hid (cmpZ a b = 0) := hid (by unfold cmpZ; rw [if_neg h1, if_neg h2])
     have d2 : decide (b < a) = false := decide_eq_false h2
     go_enter Tryz.func156, Tryz.ntmps156
     go_wp2_with (go_at_call 213; refine (nanF_c _ _).mono ?_; rintro _ w1 ⟨rfl, e1⟩; rw [e1]; clear e1)
     go_ret
     exact ⟨ret_int E.out.symm, rfl⟩
def orZ (x y : Int) : Int := if x = 0 then y else x
set_option maxHeartbeats 1000000 in
theorem or_c (g : Nat) (x y : Int) (w : World) (h0 : w.cell? ⟨g, 0, none⟩ = some (.int .i64 x)) (h1 : w.cell? ⟨g, 1, none⟩ = some (.int .i64 y)) :
   Calls Tryz.prog 154 #[.slice (some ⟨g, 0, none⟩) 2 2] w fun e w' => e = .returned (.int .i64 (orZ x y)) ∧ w' = w := by
 by_cases hx : x = 0
 · have bx : (x != 0) = false := by simp [hx]
   by_cases hy : y = 0
   · have by' : (y != 0) = false := by simp [hy]
     have E : Hid (orZ x y = 0) := hid (by unfold orZ; rw [if_pos hx, hy])
     clear hx hy
     go_enter Tryz.func154, Tryz.ntmps154
     go_wp2
     refine wp_loop_rounds 3 ?_
     rw [rounds_succ]
     go_wp2
     rw [rounds_succ]
     go_wp2
     rw [rounds_succ]
     go_wp2
     go_ret
     exact ⟨ret_int E.out.symm, rfl⟩
   · have by' : (y != 0) = true := by simp [hy]
     have E : Hid (orZ x y = y) := hid (by unfold orZ; rw [if_pos hx])
     clear hx hy
     go_enter Tryz.func154, Tryz.ntmps154
     go_wp2
     refine wp_loop_rounds 3 ?_
     rw [rounds_succ]
     go_wp2
     rw [rounds_succ]
     go_wp2
     go_ret
     exact ⟨ret_int E.out.symm, rfl⟩
 · have bx : (x != 0) = true := by simp [hx]
   have E : Hid (orZ x y = x) := hid (by unfold orZ; rw [if_neg hx])
   clear hx
   go_enter Tryz.func154, Tryz.ntmps154
   go_wp2
   refine wp_loop_rounds 3 ?_
   rw [rounds_succ]
   go_wp2
   go_ret
   exact ⟨ret_int E.out.symm, rfl⟩
def Ca.walkZ (c : Ca) (i j : Int) : Int := orZ (cmpZ (c.dearN j) (c.dearN i)) (cmpZ i j)
theorem new_two (w : World) (x y : Int) : (w.alloc (.cells #[.int .i64 x, .int .i64 y] 3)).cell? ⟨w.heap.size, 0, none⟩ = some (.int .i64 x) ∧ (w.alloc (.cells #[.int .i64 x, .int .i64 y] 3)).cell? ⟨w.heap.size, 1, none⟩ = some (.int .i64 y) := by
 have := heap_alloc_new w (.cells #[.int .i64 x, .int .i64 y] 3)
 constructor <;> (unfold World.cell?; rw [this]; rfl)
theorem drewF (w : World) : Below w.heap.size w w.drew := Below.drew (Below.refl _ _)
set_option maxHeartbeats 4000000 in
theorem walk1_c {w : World} {Bc g b1 b2 : Nat} {c : Ca} (hB : w.cell? ⟨Bc, 0, none⟩ = some (pA g)) (h : IsCa w g b1 b2 c) {i j : Int} (h0 : 0 ≤ i) (h1 : i < 4294967296) (j0 : 0 ≤ j) (j1 : j < 4294967296) :
   Calls Tryz.prog 153 #[.int .u32 i, .int .u32 j, .pointer (some ⟨Bc, 0, none⟩)] w fun e w' => e = .returned (.int .i64 (c.walkZ i j)) ∧ Below w.heap.size w w' := by
 have B0 := hid (drewF w)
 have L0 : ∀ w', Below w.drew.heap.size w.drew w' → w'.cell? ⟨Bc, 0, none⟩ = some (pA g) := fun w' hb => cell_later (B0.out.trans hb) hB
 have L3 : ∀ w', Below w.drew.heap.size w.drew w' → w'.cell? ⟨g, 3, none⟩ = some (.map (some b2)) := fun w' hb => (h.later (B0.out.trans hb)).cells.2.2.2.1
 have A1 : ∀ w', Below w.drew.heap.size w.drew w' → (Instr.lookup 156 (.map (some b2)) (.int .u32 i) false).run Tryz.prog w' = .ok (.int .i64 (c.dearN i)) w' := fun w' hb => (h.later (B0.out.trans hb)).2.2.1.look ht2 zeroNu h0 h1
 have A2 : ∀ w', Below w.drew.heap.size w.drew w' → (Instr.lookup 156 (.map (some b2)) (.int .u32 j) false).run Tryz.prog w' = .ok (.int .i64 (c.dearN j)) w' := fun w' hb => (h.later (B0.out.trans hb)).2.2.1.look ht2 zeroNu j0 j1
 have RV : Hid (c.walkZ i j = orZ (cmpZ (c.dearN j) (c.dearN i)) (cmpZ i j)) := hid rfl
 generalize c.walkZ i j = rv at *
 generalize c.dearN i = di at *
 generalize c.dearN j = dj at *
 clear h hB
 go_enter Tryz.func153, Tryz.ntmps153
 go_wp2_with fail
 refine wp_region_held_drew (S := fun w' => Below w.drew.heap.size w.drew w') (by kernel_rfl) (Below.refl _ _) (fun hHeld => ?_)
 refine take_l 0 (v := ?_) rfl (by kernel_rfl) (by kernel_rfl) (by kernel_rfl) (fun _ _ _ h => h) (Or.inl ⟨by rfl, ?_⟩) (by assumption) ?_
 rotate_left
 · (intro w' hSw; (have kq := L0 _ hSw); clear hSw; go_simp; first | done | with_reducible rfl)
 try simp only [Act.put, List.setIfInBounds_toArray, List.set_cons_zero, List.set_cons_succ]
 refine take_l 1 (v := ?_) rfl (by kernel_rfl) (by kernel_rfl) (by kernel_rfl) (fun _ _ _ h => h) (Or.inl ⟨by rfl, ?_⟩) (by assumption) ?_
 rotate_left
 · (intro w' hSw; clear hSw; go_simp; first | done | with_reducible rfl)
 try simp only [Act.put, List.setIfInBounds_toArray, List.set_cons_zero, List.set_cons_succ]
 refine take_l 2 (v := ?_) rfl (by kernel_rfl) (by kernel_rfl) (by kernel_rfl) (fun _ _ _ h => h) (Or.inl ⟨by rfl, ?_⟩) (by assumption) ?_
 rotate_left
 · (intro w' hSw; clear hSw; go_simp; first | done | with_reducible rfl)
 try simp only [Act.put, List.setIfInBounds_toArray, List.set_cons_zero, List.set_cons_succ]
 refine take_l 3 (v := ?_) rfl (by kernel_rfl) (by kernel_rfl) (by kernel_rfl) (fun _ _ _ h => h) (Or.inl ⟨by rfl, ?_⟩) (by assumption) ?_
 rotate_left
 · (intro w' hSw; (have kq := L3 _ hSw); clear hSw; go_simp; first | done | with_reducible rfl)
 try simp only [Act.put, List.setIfInBounds_toArray, List.set_cons_zero, List.set_cons_succ]
 refine take_l 4 (v := ?_) rfl (by kernel_rfl) (by kernel_rfl) (by kernel_rfl) (fun _ _ _ h => h) (Or.inl ⟨by rfl, ?_⟩) (by assumption) ?_
 rotate_left
 · (intro w' hSw; clear hSw; go_simp; first | done | with_reducible rfl)
 try simp only [Act.put, List.setIfInBounds_toArray, List.set_cons_zero, List.set_cons_succ]
 refine take_l 5 (v := ?_) rfl (by kernel_rfl) (by kernel_rfl) (by kernel_rfl) (fun _ _ _ h => h) (Or.inl ⟨by rfl, ?_⟩) (by assumption) ?_
 rotate_left
 · (intro w' hSw; (have kq := A2 _ hSw); clear hSw; go_simp; first | done | with_reducible rfl)
 try simp only [Act.put, List.setIfInBounds_toArray, List.set_cons_zero, List.set_cons_succ]
 refine take_l 6 (v := ?_) rfl (by kernel_rfl) (by kernel_rfl) (by kernel_rfl) (fun _ _ _ h => h) (Or.inl ⟨by rfl, ?_⟩) (by assumption) ?_
 rotate_left
 · (intro w' hSw; (have kq := L0 _ hSw); clear hSw; go_simp; first | done | with_reducible rfl)
 try simp only [Act.put, List.setIfInBounds_toArray, List.set_cons_zero, List.set_cons_succ]
 refine take_l 7 (v := ?_) rfl (by kernel_rfl) (by kernel_rfl) (by kernel_rfl) (fun _ _ _ h => h) (Or.inl ⟨by rfl, ?_⟩) (by assumption) ?_
 rotate_left
 · (intro w' hSw; clear hSw; go_simp; first | done | with_reducible rfl)
 try simp only [Act.put, List.setIfInBounds_toArray, List.set_cons_zero, List.set_cons_succ]
 refine take_l 8 (v := ?_) rfl (by kernel_rfl) (by kernel_rfl) (by kernel_rfl) (fun _ _ _ h => h) (Or.inl ⟨by rfl, ?_⟩) (by assumption) ?_
 rotate_left
 · (intro w' hSw; clear hSw; go_simp; first | done | with_reducible rfl)
 try simp only [Act.put, List.setIfInBounds_toArray, List.set_cons_zero, List.set_cons_succ]
 refine take_l 9 (v := ?_) rfl (by kernel_rfl) (by kernel_rfl) (by kernel_rfl) (fun _ _ _ h => h) (Or.inl ⟨by rfl, ?_⟩) (by assumption) ?_
 rotate_left
 · (intro w' hSw; (have kq := L3 _ hSw); clear hSw; go_simp; first | done | with_reducible rfl)
 try simp only [Act.put, List.setIfInBounds_toArray, List.set_cons_zero, List.set_cons_succ]
 refine take_l 10 (v := ?_) rfl (by kernel_rfl) (by kernel_rfl) (by kernel_rfl) (fun _ _ _ h => h) (Or.inl ⟨by rfl, ?_⟩) (by assumption) ?_
 rotate_left
 · (intro w' hSw; clear hSw; go_simp; first | done | with_reducible rfl)
 try simp only [Act.put, List.setIfInBounds_toArray, List.set_cons_zero, List.set_cons_succ]
 refine take_l 11 (v := ?_) rfl (by kernel_rfl) (by kernel_rfl) (by kernel_rfl) (fun _ _ _ h => h) (Or.inl ⟨by rfl, ?_⟩) (by assumption) ?_
 rotate_left
 · (intro w' hSw; (have kq := A1 _ hSw); clear hSw; go_simp; first | done | with_reducible rfl)
 try simp only [Act.put, List.setIfInBounds_toArray, List.set_cons_zero, List.set_cons_succ]
 refine take_l 13 (v := ?_) rfl (by kernel_rfl) (by kernel_rfl) (by kernel_rfl) (fun _ _ _ h => h) (Or.inl ⟨by rfl, ?_⟩) (by assumption) ?_
 rotate_left
 · (intro w' hSw; clear hSw; go_simp; first | done | with_reducible rfl)
 try simp only [Act.put, List.setIfInBounds_toArray, List.set_cons_zero, List.set_cons_succ]
 refine take_l 14 (v := ?_) rfl (by kernel_rfl) (by kernel_rfl) (by kernel_rfl) (fun _ _ _ h => h) (Or.inl ⟨by rfl, ?_⟩) (by assumption) ?_
 rotate_left
 · (intro w' hSw; clear hSw; go_simp; first | done | with_reducible rfl)
 try simp only [Act.put, List.setIfInBounds_toArray, List.set_cons_zero, List.set_cons_succ]
 refine cons_l 12 rfl (by kernel_rfl) (fun K hK => ?_)
 go_simp
 refine (cmpI_c _ _ _).mono ?_; rintro _ w2 ⟨rfl, e2⟩; rw [e2]; clear e2
 go_simp
 refine hK.out _ _ (Below.refl _ _) (fun hHeld => ?_)
 clear hK K
 try simp only [Act.put, List.setIfInBounds_toArray, List.set_cons_zero, List.set_cons_succ]
 refine cons_l 15 rfl (by kernel_rfl) (fun K hK => ?_)
 go_simp
 refine (cmpF_c _ _ _).mono ?_; rintro _ w2 ⟨rfl, e2⟩; rw [e2]; clear e2
 go_simp
 refine hK.out _ _ (Below.refl _ _) (fun hHeld => ?_)
 clear hK K
 try simp only [Act.put, List.setIfInBounds_toArray, List.set_cons_zero, List.set_cons_succ]
 refine cons_l 16 rfl (by kernel_rfl) (fun K hK => ?_)
 go_simp
 have hBA : Below w.drew.heap.size w.drew (w.drew.alloc (.cells #[.int .i64 (cmpZ dj di), .int .i64 (cmpZ i j)] 3)) := (Below.refl _ _).alloc (Nat.le_refl _) _
 have OC := hid (or_c w.drew.heap.size (cmpZ dj di) (cmpZ i j) _ (new_two w.drew _ _).1 (new_two w.drew _ _).2)
 have BA := hid hBA
 refine hK.out _ _ hBA (fun hHeld => ?_)
 clear hK K hBA
 try simp only [Act.put, List.setIfInBounds_toArray, List.set_cons_zero, List.set_cons_succ]
 refine cons_l 17 rfl (by kernel_rfl) (fun K hK => ?_)
 go_simp
 refine OC.out.mono ?_; rintro _ w3 ⟨rfl, e3⟩; rw [e3]; clear e3
 go_simp
 refine hK.out _ _ BA.out (fun hHeld => ?_)
 clear hK K
 try simp only [Act.put, List.setIfInBounds_toArray, List.set_cons_zero, List.set_cons_succ]
 refine take_l 18 (v := ?_) rfl (by kernel_rfl) (by kernel_rfl) (by kernel_rfl) (fun _ _ _ h => h) (Or.inl ⟨by rfl, ?_⟩) (by assumption) ?_
 rotate_left
 · (intro w' hSw; clear hSw; go_simp; first | done | with_reducible rfl)
 try simp only [Act.put, List.setIfInBounds_toArray, List.set_cons_zero, List.set_cons_succ]
 refine wpAnyH_done (by kernel_rfl) ?_ _
 go_wp2
 go_ret
 exact ⟨ret_int RV.out.symm, B0.out.trans BA.out⟩
end Go.Proofs.YtfmghbennahlfaaGreat
namespace Go.Proofs.YtfmghbennahlfaaGreat
open Go.RowKit Go.ChangeShapes Go.WideShapes Go.ChangeAt Go.Maps Go.Shelf
attribute [local go_sem] Oper.semAt_some
set_option linter.unusedVariables false
set_option linter.unusedSimpArgs false
set_option maxRecDepth 100000
theorem Ou.grew {S : Nat → Prop} {w w' : World} {r : Option Nat} (h : w.grownBy w' r) (hS : ∀ k, r = some k → S k) : Ou S w w' := ⟨h.os, h.tape, h.output, h.size, fun k hk hn => h.block k hk (fun e => hn (hS k e.symm))⟩
end Go.Proofs.YtfmghbennahlfaaGreat
namespace Go.Proofs.YtfmghbennahlfaaGreat
open Go.RowKit Go.ChangeShapes Go.WideShapes Go.ChangeAt Go.Maps Go.Shelf
set_option linter.unusedVariables false
set_option linter.unusedSimpArgs false
set_option maxRecDepth 100000
def Ca.rank (c : Ca) (x : Int) : Int := x - c.dearN x * 4294967296
theorem walkZ_lt {c : Ca} {i j : Int} (h0 : 0 ≤ i) (h1 : i < 4294967296) (j0 : 0 ≤ j) (j1 : j < 4294967296) : c.walkZ i j < 0 ↔ c.rank i < c.rank j := by
 unfold Ca.walkZ Ca.rank orZ cmpZ
 rcases Int.lt_trichotomy (c.dearN j) (c.dearN i) with q | q | q
 · rw [if_pos q, if_neg (by decide)]
   constructor
   · intro; omega
   · intro; omega
 · have e1 : ¬ c.dearN j < c.dearN i := by omega
   have e2 : ¬ c.dearN i < c.dearN j := by omega
   rw [if_neg e1, if_neg e2, if_pos rfl]
   rcases Int.lt_trichotomy i j with p | p | p
   · rw [if_pos p]; constructor <;> intro <;> omega
   · rw [if_neg (by omega), if_neg (by omega)]; constructor <;> intro <;> omega
   · rw [if_neg (by omega), if_pos p]; constructor <;> intro <;> omega
 · have e1 : ¬ c.dearN j < c.dearN i := by omega
   rw [if_neg e1, if_pos q, if_neg (by decide)]
   constructor
   · intro h; omega
   · intro h; omega
theorem sw_rank (c : Ca) (f : Nat → Int) (j : Nat) : (fun k => c.rank (swF f j k)) = swF (fun k => c.rank (f k)) j := by
 funext k
 unfold swF
 (repeat' split) <;> rfl
theorem wrap_small {x : Int} (h0 : 0 ≤ x) (h1 : x < 1000000) : IntKind.i64.wrap x = x := by rw [IntKind.wrap_i64]; omega
def Rg32 (n : Nat) (f : Nat → Int) : Prop := ∀ k, k < n → 0 ≤ f k ∧ f k < 4294967296
theorem sw_rg {n : Nat} {f : Nat → Int} (h : Rg32 n f) {j : Nat} (h0 : 0 < j) (hj : j < n) : Rg32 n (swF f j) := fun k hk => by
 unfold swF
 split
 · exact h _ (by omega)
 split
 · exact h _ hj
 · exact h k hk
theorem FidsAt.cells2 {w w' : World} {g n : Nat} {f : Nat → Int} (h : FidsAt w g n f) (hb : Below w.heap.size w w') {j : Nat} (hj : j < n) : w'.cell? ⟨g, j, none⟩ = some (.int .u32 (f j)) := ((h.later hb).cell hj).1
set_option maxHeartbeats 8000000 in
theorem insertW_c (R n cap X g b1 b2 : Nat) (c : Ca) (f0 : Nat → Int) (w : World) (h : FidsAt w R n f0) (hinj : ∀ a b, a < n → b < n → f0 a = f0 b → a = b) (hrg : Rg32 n f0) (hn : n ≤ 12) (hcap : n ≤ cap)
   (hX : w.cell? ⟨X, 0, none⟩ = some (pA g)) (hXl : X < w.heap.size) (hc : IsCa w g b1 b2 c) (hne : R ≠ X ∧ R ≠ g ∧ R ≠ b1 ∧ R ≠ b2) :
   Calls Tryz.prog 264 #[.slice (some ⟨R, 0, none⟩) n cap, .int .i64 0, .int .i64 n, .func (.func 153) #[] #[.pointer (some ⟨X, 0, none⟩)]] w fun e w' => e = .returned (.tuple #[]) ∧ ∃ f, FidsAt w' R n f ∧ SameF n f0 f ∧ Rg32 n f ∧ UpF n (fun k => c.rank (f k)) ∧ Ou (fun k => k = R) w w' := by
 have H0 := hid h
 have S0 : Hid (SameF n f0 f0) := hid ⟨fun x => Iff.rfl, hinj⟩
 have G0 := hid hrg
 have WK : Hid (∀ W, Ou (fun k => k = R) w W → ∀ i j, 0 ≤ i → i < 4294967296 → 0 ≤ j → j < 4294967296 → Calls Tryz.prog 153 #[.int .u32 i, .int .u32 j, .pointer (some ⟨X, 0, none⟩)] W fun e w' => e = .returned (.int .i64 (c.walkZ i j)) ∧ Below W.heap.size W w') := hid (fun W ho i j h0 h1 j0 j1 => walk1_c (by
   have e := ho.block X hXl (fun e => hne.1 e.symm)
   rw [← hX]; exact World.cell?_of_block e) (hc.out ho (fun e => hne.2.1 e.symm) (fun e => hne.2.2.1 e.symm) (fun e => hne.2.2.2 e.symm)) h0 h1 j0 j1)
 clear h hinj hrg hX hc hne
 go_enter Tryz.func264, Tryz.ntmps264
 go_wp2
 go_loopw [8] (fun v6 wr => ∃ (i : Nat) (f : Nat → Int), 1 ≤ i ∧ (i ≤ n ∨ i = 1) ∧ v6 = .int .i64 i ∧ Hid (FidsAt wr R n f) ∧ Hid (SameF n f0 f) ∧ Hid (Rg32 n f) ∧ Hid (UpF i (fun k => c.rank (f k))) ∧ Hid (Ou (fun k => k = R) w wr)) (fun i _ => (13 - intOf i).toNat)
 case atStart => exact ⟨1, f0, by omega, by omega, rfl, H0, S0, G0, hid (fun a b h1 h2 => by omega), hid (Ou.refl _ _)⟩
 case round =>
   obtain ⟨i, f, hi1, hin, rfl, FX, SX, GX, UX, OX⟩ := hrel
   obtain ⟨wo, hwo⟩ : ∃ wo, wo = wr := ⟨_, rfl⟩
   subst hwo
   by_cases hlt : i < n
   · have hltI : (i : Int) < (n : Int) := by omega
     have NS := hid (near_start UX.out)
     go_wp2
     go_loopw [9] (fun v7 wx => ∃ (j : Nat) (f' : Nat → Int), j ≤ i ∧ v7 = .int .i64 j ∧ Hid (FidsAt wx R n f') ∧ Hid (SameF n f0 f') ∧ Hid (Rg32 n f') ∧ Hid (NearF i j (fun k => c.rank (f' k))) ∧ Hid (Ou (fun k => k = R) w wx)) (fun j _ => (intOf j).toNat)
     case atStart => exact ⟨i, f, by omega, rfl, FX, SX, GX, NS, OX⟩
     case round =>
       obtain ⟨j, f', hj, rfl, FY, SY, GY, NY, OY⟩ := hrel
       by_cases h0 : 0 < j
       · have h0I : (0 : Int) < (j : Int) := by omega
         have h0D : decide ((0 : Int) < (j : Int)) = true := decide_eq_true h0I
         have hjn : (j : Int) < (n : Int) := by omega
         have hj1 : (j : Int) - 1 = ((j - 1 : Nat) : Int) := by omega
         have hj1n : ((j - 1 : Nat) : Int) < (n : Int) := by omega
         have hwr : IntKind.i64.wrap ((j - 1 : Nat) : Int) = ((j - 1 : Nat) : Int) := wrap_small (by omega) (by omega)
         have A1 : ∀ W, Below wr.heap.size wr W → W.cell? ⟨R, j, none⟩ = some (.int .u32 (f' j)) := fun W hb => FY.out.cells2 hb (by omega)
         have A2 : ∀ W, Below wr.heap.size wr W → W.cell? ⟨R, j - 1, none⟩ = some (.int .u32 (f' (j - 1))) := fun W hb => FY.out.cells2 hb (by omega)
         obtain ⟨r1, r2⟩ := GY.out j (by omega)
         obtain ⟨r3, r4⟩ := GY.out (j - 1) (by omega)
         have WC : Hid (∀ W, Below wr.heap.size wr W → Calls Tryz.prog 153 #[.int .u32 (f' j), .int .u32 (f' (j - 1)), .pointer (some ⟨X, 0, none⟩)] W fun e w' => e = .returned (.int .i64 (c.walkZ (f' j) (f' (j - 1)))) ∧ Below W.heap.size W w') := hid (fun W hb => WK.out W (OY.out.trans (Ou.of hb)) _ _ r1 r2 r3 r4)
         by_cases hls : c.walkZ (f' j) (f' (j - 1)) < 0
         · have hld : decide (c.walkZ (f' j) (f' (j - 1)) < 0) = true := decide_eq_true hls
           have HLS := hid ((walkZ_lt r1 r2 r3 r4).1 hls)
           generalize c.walkZ (f' j) (f' (j - 1)) = wz at *
           go_wp2_with fail
           refine wp_region_class (by kernel_rfl) (by kernel_rfl) ?_
           repeat (first
             | go_big_quiet_skip
             | (go_big_quiet_want
                apply quiet_by
                · intro w1 hw1
                  go_simp
                  first
                    | rfl
                    | (go_at_call 153; exact class_of hw1 (WC.out _ hw1))
                · go_simp; rfl
                go_big_quiet_on))
           refine wpQuiet_nil ?_
           intro w2 hw2
           have FW := hid (FY.out.later hw2)
           have OW := hid (OY.out.trans (Ou.of hw2))
           go_wp2_with fail
           obtain ⟨c1', z1'⟩ := FW.out.cell (j := j) (by omega)
           obtain ⟨c2', z2'⟩ := FW.out.cell (j := j - 1) (by omega)
           have hjne : ¬ j = j - 1 := by omega
           have hjne' : ¬ j - 1 = j := by omega
           clear A1 A2 WC
           go_region
           have F9 : Hid (FidsAt ((w2.setCell ⟨R, j, none⟩ (.int .u32 (f' (j - 1)))).setCell ⟨R, j - 1, none⟩ (.int .u32 (f' j))).drew R n (swF f' j)) := hid (((FW.out.set (j := j) (by omega) (f' (j - 1))).set (j := j - 1) (by omega) (f' j)).drew.ext (fun k hk => by
             unfold swF
             by_cases q1 : k = j
             · rw [if_pos q1, if_neg (by omega), if_pos q1]
             · rw [if_neg q1]
               by_cases q2 : k = j - 1
               · rw [if_pos q2, if_pos q2]
               · rw [if_neg q2, if_neg q2, if_neg q1]))
           have O9 : Hid (Ou (fun k => k = R) w ((w2.setCell ⟨R, j, none⟩ (.int .u32 (f' (j - 1)))).setCell ⟨R, j - 1, none⟩ (.int .u32 (f' j))).drew) := hid ((OW.out.set rfl).set rfl).drew
           have S9 := hid (swF_same SY.out (j := j) h0 (by omega))
           have G9 := hid (sw_rg GY.out (j := j) h0 (by omega))
           have N9 : Hid (NearF i (j - 1) (fun k => c.rank (swF f' j k))) := hid (by rw [sw_rank]; exact near_step NY.out h0 hj HLS.out)
           clear c1' c2' z1' z2'
           go_wp2
           go_roundw
           case rel => exact ⟨j - 1, swF f' j, by omega, by first | rfl | go_num, F9, S9, G9, N9, O9⟩
           case measure => simp [intOf]; omega
         · have hld : decide (c.walkZ (f' j) (f' (j - 1)) < 0) = false := decide_eq_false hls
           have UE := hid (near_end NY.out hj (.inr (by
             have : ¬ c.rank (f' j) < c.rank (f' (j - 1)) := fun q => hls ((walkZ_lt r1 r2 r3 r4).2 q)
             show c.rank (f' (j - 1)) ≤ c.rank (f' j)
             omega)))
           generalize c.walkZ (f' j) (f' (j - 1)) = wz at *
           go_wp2_with fail
           refine wp_region_class (by kernel_rfl) (by kernel_rfl) ?_
           repeat (first
             | go_big_quiet_skip
             | (go_big_quiet_want
                apply quiet_by
                · intro w1 hw1
                  go_simp
                  first
                    | rfl
                    | (go_at_call 153; exact class_of hw1 (WC.out _ hw1))
                · go_simp; rfl
                go_big_quiet_on))
           refine wpQuiet_nil ?_
           intro w2 hw2
           go_wp2
           go_roundw
           case rel => exact ⟨i + 1, f', by omega, by omega, by go_num, hid (FY.out.later hw2), SY, GY, UE, hid (OY.out.trans (Ou.of hw2))⟩
           case measure => simp [intOf]; omega
       · obtain rfl : j = 0 := by omega
         have UE := hid (near_end NY.out hj (.inl rfl))
         have hd0 : decide ((0 : Int) < ((0 : Nat) : Int)) = false := rfl
         go_wp2_with fail
         refine wp_region_class (by kernel_rfl) (by kernel_rfl) ?_
         repeat (first
           | go_big_quiet_skip
           | (go_big_quiet_want
              apply quiet_by
              · intro w1 hw1
                go_simp
                rfl
              · go_simp; rfl
              go_big_quiet_on))
         refine wpQuiet_nil ?_
         intro w2 hw2
         go_wp2
         go_roundw
         case rel => exact ⟨i + 1, f', by omega, by omega, by go_num, hid (FY.out.later hw2), SY, GY, UE, hid (OY.out.trans (Ou.of hw2))⟩
         case measure => simp [intOf]; omega
   · have hltI : ¬ (i : Int) < (n : Int) := by omega
     have hltd : decide ((i : Int) < (n : Int)) = false := decide_eq_false hltI
     have UE : Hid (UpF n (fun k => c.rank (f k))) := hid (fun a b h1 h2 => UX.out a b h1 (by omega))
     go_wp2
     exact body_endF (by kernel_rfl) rfl ⟨rfl, f, FX.out, SX.out, GX.out, UE.out, OX.out⟩
abbrev wfn (X : Nat) : Value := .func (.func 153) #[] #[.pointer (some ⟨X, 0, none⟩)]
def SortedW (w : World) (R n : Nat) (c : Ca) (f0 : Nat → Int) (e : Ending) (w' : World) : Prop := e = .returned (.tuple #[]) ∧ ∃ f, FidsAt w' R n f ∧ SameF n f0 f ∧ Rg32 n f ∧ UpF n (fun k => c.rank (f k)) ∧ Ou (fun k => k = R) w w'
set_option maxHeartbeats 2000000 in
theorem pdqW_c (R n cap X g b1 b2 : Nat) (c : Ca) (f0 : Nat → Int) (lim : Int) (w : World) (h : FidsAt w R n f0) (hinj : ∀ a b, a < n → b < n → f0 a = f0 b → a = b) (hrg : Rg32 n f0) (hn : n ≤ 12) (hcap : n ≤ cap)
   (hX : w.cell? ⟨X, 0, none⟩ = some (pA g)) (hXl : X < w.heap.size) (hc : IsCa w g b1 b2 c) (hne : R ≠ X ∧ R ≠ g ∧ R ≠ b1 ∧ R ≠ b2) :
   Calls Tryz.prog 210 #[.slice (some ⟨R, 0, none⟩) n cap, .int .i64 0, .int .i64 n, .int .i64 lim, wfn X] w (SortedW w R n c f0) := by
 have IC := hid (insertW_c R n cap X g b1 b2 c f0 w h hinj hrg hn hcap hX hXl hc hne)
 have hnI : (n : Int) ≤ 12 := by omega
 clear h hinj hrg hX hXl hc hne
 go_enter Tryz.func210, Tryz.ntmps210
 go_wp2
 refine wp_loop_rounds 1 ?_
 rw [rounds_succ]
 go_wp2_with (go_at_call 264; refine IC.out.mono ?_; rintro _ w1 ⟨rfl, hr⟩)
 exact bodyPost_ret (v := .tuple #[]) (by simp [results, Tryz.results210, go_sem]) rfl ⟨rfl, by first | exact hr | rfl⟩
set_option maxHeartbeats 2000000 in
theorem sortW_c (R n cap X g b1 b2 : Nat) (c : Ca) (f0 : Nat → Int) (w : World) (h : FidsAt w R n f0) (hinj : ∀ a b, a < n → b < n → f0 a = f0 b → a = b) (hrg : Rg32 n f0) (hn : n ≤ 12) (hcap : n ≤ cap)
   (hX : w.cell? ⟨X, 0, none⟩ = some (pA g)) (hXl : X < w.heap.size) (hc : IsCa w g b1 b2 c) (hne : R ≠ X ∧ R ≠ g ∧ R ≠ b1 ∧ R ≠ b2) :
   Calls Tryz.prog 152 #[.slice (some ⟨R, 0, none⟩) n cap, wfn X] w (SortedW w R n c f0) := by
 have PC : Hid (∀ v, Calls Tryz.prog 210 #[.slice (some ⟨R, 0, none⟩) n cap, .int .i64 0, .int .i64 n, .int .i64 v, wfn X] w (SortedW w R n c f0)) := hid (fun v => pdqW_c R n cap X g b1 b2 c f0 v w h hinj hrg hn hcap hX hXl hc hne)
 clear h hinj hrg hX hXl hc hne
 go_enter Tryz.func152, Tryz.ntmps152
 go_wp2_with (first
   | (go_at_call 211; refine (len_c n hn _).mono ?_; rintro _ w1 ⟨⟨v, rfl⟩, h1⟩; rw [h1])
   | (go_at_call 210; refine (PC.out _).mono ?_; rintro _ w2 ⟨rfl, hr⟩))
 exact body_endF (by kernel_rfl) rfl ⟨rfl, by first | exact hr | rfl⟩
set_option maxHeartbeats 1000000 in
theorem insertW_nil (a : Option Addr) (cap : Nat) (fv : Value) (w : World) : Calls Tryz.prog 264 #[.slice a 0 cap, .int .i64 0, .int .i64 0, fv] w fun e w' => e = .returned (.tuple #[]) ∧ w' = w := by
 go_enter Tryz.func264, Tryz.ntmps264
 go_wp2
 refine wp_loop_rounds 1 ?_
 rw [rounds_succ]
 go_wp2
 exact body_endF (by kernel_rfl) rfl ⟨rfl, rfl⟩
set_option maxHeartbeats 1000000 in
theorem pdqW_nil (a : Option Addr) (cap : Nat) (v : Int) (fv : Value) (w : World) : Calls Tryz.prog 210 #[.slice a 0 cap, .int .i64 0, .int .i64 0, .int .i64 v, fv] w fun e w' => e = .returned (.tuple #[]) ∧ w' = w := by
 go_enter Tryz.func210, Tryz.ntmps210
 go_wp2
 refine wp_loop_rounds 1 ?_
 rw [rounds_succ]
 go_wp2_with (go_at_call 264; refine (insertW_nil _ _ _ _).mono ?_; rintro _ w1 ⟨rfl, h1⟩; rw [h1])
 exact bodyPost_ret (v := .tuple #[]) (by simp [results, Tryz.results210, go_sem]) rfl ⟨rfl, rfl⟩
set_option maxHeartbeats 1000000 in
theorem sortW_nil (a : Option Addr) (cap : Nat) (fv : Value) (w : World) : Calls Tryz.prog 152 #[.slice a 0 cap, fv] w fun e w' => e = .returned (.tuple #[]) ∧ w' = w := by
 go_enter Tryz.func152, Tryz.ntmps152
 go_wp2_with (first
   | (go_at_call 211; refine (len_c 0 (by omega) _).mono ?_; rintro _ w1 ⟨⟨v, rfl⟩, h1⟩; rw [h1])
   | (go_at_call 210; refine (pdqW_nil _ _ _ _ _).mono ?_; rintro _ w2 ⟨rfl, h2⟩; rw [h2]))
 exact body_endF (by kernel_rfl) rfl ⟨rfl, rfl⟩
end Go.Proofs.YtfmghbennahlfaaGreat
