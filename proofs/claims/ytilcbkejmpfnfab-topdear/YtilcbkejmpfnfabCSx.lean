/-
  slices.SortFunc as Walk calls it.
-/
import Derived.Test.YtilcbkejmpfnfabCSw
namespace Go.Proofs.Ytilcbkejmpfnfab
open Go.RowKit Go.ChangeShapes Go.WideShapes Go.ChangeAt Go.Maps Go.Shelf
set_option linter.unusedVariables false
set_option linter.unusedSimpArgs false
set_option maxRecDepth 100000
abbrev wfn (X : Nat) : Value := .func (.func 12) #[] #[.pointer (some ⟨X, 0, none⟩)]
def SortedW (w : World) (R n : Nat) (c : Ca) (f0 : Nat → Int) (e : Ending) (w' : World) : Prop := e = .returned (.tuple #[]) ∧ ∃ f, FidsAt w' R n f ∧ SameF n f0 f ∧ Rg32 n f ∧ UpF n (fun k => c.rank (f k)) ∧ Ou (fun k => k = R) w w'
set_option maxHeartbeats 2000000 in
theorem pdqW_c (R n cap X g b1 b2 : Nat) (c : Ca) (f0 : Nat → Int) (lim : Int) (w : World) (h : FidsAt w R n f0) (hinj : ∀ a b, a < n → b < n → f0 a = f0 b → a = b) (hrg : Rg32 n f0) (hn : n ≤ 12) (hcap : n ≤ cap)
    (hX : w.cell? ⟨X, 0, none⟩ = some (pA g)) (hXl : X < w.heap.size) (hc : IsCa w g b1 b2 c) (hne : R ≠ X ∧ R ≠ g ∧ R ≠ b1 ∧ R ≠ b2) :
    Calls Try.prog 19 #[.slice (some ⟨R, 0, none⟩) n cap, .int .i64 0, .int .i64 n, .int .i64 lim, wfn X] w (SortedW w R n c f0) := by
  have IC := hid (insertW_c R n cap X g b1 b2 c f0 w h hinj hrg hn hcap hX hXl hc hne)
  have hnI : (n : Int) ≤ 12 := by omega
  clear h hinj hrg hX hXl hc hne
  go_enter Try.func19, Try.ntmps19
  go_wp2
  refine wp_loop_rounds 1 ?_
  rw [rounds_succ]
  go_wp2_with (go_at_call 27; refine IC.out.mono ?_; rintro _ w1 ⟨rfl, hr⟩)
  exact bodyPost_ret (v := .tuple #[]) (by simp [results, Try.results19, go_sem]) rfl ⟨rfl, by first | exact hr | rfl⟩
set_option maxHeartbeats 2000000 in
theorem sortW_c (R n cap X g b1 b2 : Nat) (c : Ca) (f0 : Nat → Int) (w : World) (h : FidsAt w R n f0) (hinj : ∀ a b, a < n → b < n → f0 a = f0 b → a = b) (hrg : Rg32 n f0) (hn : n ≤ 12) (hcap : n ≤ cap)
    (hX : w.cell? ⟨X, 0, none⟩ = some (pA g)) (hXl : X < w.heap.size) (hc : IsCa w g b1 b2 c) (hne : R ≠ X ∧ R ≠ g ∧ R ≠ b1 ∧ R ≠ b2) :
    Calls Try.prog 11 #[.slice (some ⟨R, 0, none⟩) n cap, wfn X] w (SortedW w R n c f0) := by
  have PC : Hid (∀ v, Calls Try.prog 19 #[.slice (some ⟨R, 0, none⟩) n cap, .int .i64 0, .int .i64 n, .int .i64 v, wfn X] w (SortedW w R n c f0)) := hid (fun v => pdqW_c R n cap X g b1 b2 c f0 v w h hinj hrg hn hcap hX hXl hc hne)
  clear h hinj hrg hX hXl hc hne
  go_enter Try.func11, Try.ntmps11
  go_wp2_with (first
    | (go_at_call 20; refine (len_c n hn _).mono ?_; rintro _ w1 ⟨⟨v, rfl⟩, h1⟩; rw [h1])
    | (go_at_call 19; refine (PC.out _).mono ?_; rintro _ w2 ⟨rfl, hr⟩))
  exact body_endF (by kernel_rfl) rfl ⟨rfl, by first | exact hr | rfl⟩
set_option maxHeartbeats 1000000 in
theorem insertW_nil (a : Option Addr) (cap : Nat) (fv : Value) (w : World) : Calls Try.prog 27 #[.slice a 0 cap, .int .i64 0, .int .i64 0, fv] w fun e w' => e = .returned (.tuple #[]) ∧ w' = w := by
  go_enter Try.func27, Try.ntmps27
  go_wp2
  refine wp_loop_rounds 1 ?_
  rw [rounds_succ]
  go_wp2
  exact body_endF (by kernel_rfl) rfl ⟨rfl, rfl⟩
set_option maxHeartbeats 1000000 in
theorem pdqW_nil (a : Option Addr) (cap : Nat) (v : Int) (fv : Value) (w : World) : Calls Try.prog 19 #[.slice a 0 cap, .int .i64 0, .int .i64 0, .int .i64 v, fv] w fun e w' => e = .returned (.tuple #[]) ∧ w' = w := by
  go_enter Try.func19, Try.ntmps19
  go_wp2
  refine wp_loop_rounds 1 ?_
  rw [rounds_succ]
  go_wp2_with (go_at_call 27; refine (insertW_nil _ _ _ _).mono ?_; rintro _ w1 ⟨rfl, h1⟩; rw [h1])
  exact bodyPost_ret (v := .tuple #[]) (by simp [results, Try.results19, go_sem]) rfl ⟨rfl, rfl⟩
set_option maxHeartbeats 1000000 in
theorem sortW_nil (a : Option Addr) (cap : Nat) (fv : Value) (w : World) : Calls Try.prog 11 #[.slice a 0 cap, fv] w fun e w' => e = .returned (.tuple #[]) ∧ w' = w := by
  go_enter Try.func11, Try.ntmps11
  go_wp2_with (first
    | (go_at_call 20; refine (len_c 0 (by omega) _).mono ?_; rintro _ w1 ⟨⟨v, rfl⟩, h1⟩; rw [h1])
    | (go_at_call 19; refine (pdqW_nil _ _ _ _ _).mono ?_; rintro _ w2 ⟨rfl, h2⟩; rw [h2]))
  exact body_endF (by kernel_rfl) rfl ⟨rfl, rfl⟩
end Go.Proofs.Ytilcbkejmpfnfab
