/-
  Rows of fids; they are sorted (at most twelve).
-/
import Derived.Test.YtihgiemgcmpmmaaCalls
import Derived.ChangeArms
import Derived.ChangeOld
import Derived.Below
import Derived.Deep.RegionHeld3
import Derived.Deep.LoopGhost
import Derived.Deep.RegionWith
import Derived.BigQuiet
import Derived.Deep.QuietTactic
namespace Go.Proofs.Ytihgiemgcmpmmaa
open Go.RowKit Go.ChangeShapes Go.WideShapes Go.ChangeAt
set_option linter.unusedVariables false
set_option linter.unusedSimpArgs false
set_option maxRecDepth 100000
/-- All blocks that were there, but for those of S, are as they were. -/
structure Ou (S : Nat → Prop) (w w' : World) : Prop where
  os : w'.os = w.os
  tape : w'.tape = w.tape
  output : w'.output = w.output
  size : w.heap.size ≤ w'.heap.size
  block : ∀ k, k < w.heap.size → ¬ S k → w'.heap[k]? = w.heap[k]?
theorem Ou.refl (S : Nat → Prop) (w : World) : Ou S w w := ⟨rfl, rfl, rfl, Nat.le_refl _, fun _ _ _ => rfl⟩
theorem Ou.trans {S : Nat → Prop} {a b c : World} (h : Ou S a b) (k : Ou S b c) : Ou S a c :=
  ⟨k.os.trans h.os, k.tape.trans h.tape, k.output.trans h.output, Nat.le_trans h.size k.size, fun i hi hS => (k.block i (Nat.lt_of_lt_of_le hi h.size) hS).trans (h.block i hi hS)⟩
theorem Ou.mono {S T : Nat → Prop} {a b : World} (h : Ou S a b) (k : ∀ i, S i → T i) : Ou T a b := ⟨h.os, h.tape, h.output, h.size, fun i hi hS => h.block i hi fun e => hS (k i e)⟩
theorem Ou.of {S : Nat → Prop} {w w' : World} (h : Below w.heap.size w w') : Ou S w w' := ⟨h.os, h.tape, h.output, h.size, fun i hi _ => h.block i hi⟩
theorem Ou.below {S : Nat → Prop} {w w' : World} {B : Nat} (h : Ou S w w') (hB : B ≤ w.heap.size) (hS : ∀ k, S k → B ≤ k) : Below B w w' :=
  ⟨h.os, h.tape, h.output, h.size, fun i hi => h.block i (by omega) (fun e => by have := hS i e; omega)⟩
theorem Ou.alloc {S : Nat → Prop} {a w : World} (h : Ou S a w) (o : Obj) : Ou S a (w.alloc o) :=
  h.trans (Ou.of ((Below.refl _ _).alloc (Nat.le_refl _) o))
theorem Ou.drew {S : Nat → Prop} {a w : World} (h : Ou S a w) : Ou S a w.drew := ⟨h.os, h.tape, h.output, h.size, h.block⟩
theorem Ou.set {S : Nat → Prop} {a w : World} (h : Ou S a w) {g o : Nat} {v : Value} (hS : S g) : Ou S a (w.setCell ⟨g, o, none⟩ v) :=
  h.trans ⟨rfl, rfl, rfl, by simp [World.setCell], fun k hk hn => heap_setCell_other _ _ _ _ (fun e => hn (e ▸ hS))⟩
theorem lt_blkC {w : World} {g : Nat} {o : Obj} (h : w.heap[g]? = some o) : g < w.heap.size := by
  have := (Array.getElem?_eq_some_iff.1 h).1; exact this
theorem body_endF {P : Program} {fn : Func} {R : Ending → World → Prop} {a : Act} {w : World} (hr : fn.results = #[]) (hd : a.defers = []) (hR : R (.returned (.tuple #[])) w) : bodyPost P fn R .normal a w :=
  bodyPost_end (v := .tuple #[]) (by simp [results, hr, go_sem]) hd hR
/-- A row of fids in block g: the first n of them are those of f. -/
def FidsAt (w : World) (g n : Nat) (f : Nat → Int) : Prop := ∃ cs : Array Value, w.heap[g]? = some (.cells cs 43 (0, 0)) ∧ n ≤ cs.size ∧ ∀ j, j < n → cs[j]? = some (.int .u32 (f j))
theorem FidsAt.out {S : Nat → Prop} {w w' : World} {g n : Nat} {f : Nat → Int} (h : FidsAt w g n f) (ho : Ou S w w') (hg : ¬ S g) : FidsAt w' g n f := by
  obtain ⟨cs, h1, h2, h3⟩ := h
  exact ⟨cs, by rw [ho.block g (lt_blkC h1) hg]; exact h1, h2, h3⟩
theorem FidsAt.lt {w : World} {g n : Nat} {f : Nat → Int} (h : FidsAt w g n f) : g < w.heap.size := by obtain ⟨cs, h1, _⟩ := h; exact lt_blkC h1
theorem FidsAt.cell {w : World} {g n : Nat} {f : Nat → Int} (h : FidsAt w g n f) {j : Nat} (hj : j < n) : w.cell? ⟨g, j, none⟩ = some (.int .u32 (f j)) ∧ w.frozen? ⟨g, j, none⟩ = false := by
  obtain ⟨cs, h1, h2, h3⟩ := h
  constructor
  · have := h3 j hj
    simp [World.cell?, h1, this]
  · simp [World.frozen?, h1]
theorem FidsAt.set {w : World} {g n : Nat} {f : Nat → Int} (h : FidsAt w g n f) {j : Nat} (hj : j < n) (x : Int) : FidsAt (w.setCell ⟨g, j, none⟩ (.int .u32 x)) g n (fun k => if k = j then x else f k) := by
  obtain ⟨cs, h1, h2, h3⟩ := h
  refine ⟨cs.setIfInBounds j (.int .u32 x), ?_, by simp [h2], fun k hk => ?_⟩
  · simp only [World.setCell]
    rw [Array.getElem?_modify, if_pos rfl, h1]
    rfl
  · by_cases e : k = j
    · subst e; simp [Nat.lt_of_lt_of_le hk h2]
    · rw [Array.getElem?_setIfInBounds_ne (by omega), h3 k hk]; simp [e]
theorem FidsAt.drew {w : World} {g n : Nat} {f : Nat → Int} (h : FidsAt w g n f) : FidsAt w.drew g n f := h
theorem heap_drewN (w : World) (k : Nat) : (w.drewN k).heap = w.heap := rfl
theorem FidsAt.drewN {w : World} {g n : Nat} {f : Nat → Int} (h : FidsAt w g n f) (k : Nat) : FidsAt (w.drewN k) g n f := by
  unfold FidsAt at *; rw [heap_drewN]; exact h
theorem Ou.drewN {S : Nat → Prop} {a w : World} (h : Ou S a w) (k : Nat) : Ou S a (w.drewN k) := ⟨h.os, h.tape, h.output, h.size, h.block⟩
theorem FidsAt.ext {w : World} {g n : Nat} {f f' : Nat → Int} (h : FidsAt w g n f) (e : ∀ j, j < n → f' j = f j) : FidsAt w g n f' := by
  obtain ⟨cs, h1, h2, h3⟩ := h
  exact ⟨cs, h1, h2, fun j hj => by rw [h3 j hj, e j hj]⟩
/-- Two that stand side by side change places. -/
def swF (f : Nat → Int) (j : Nat) : Nat → Int := fun k => if k = j then f (j - 1) else if k = j - 1 then f j else f k
/-- The same fids, each once. -/
def SameF (n : Nat) (f g : Nat → Int) : Prop := (∀ x, (∃ k, k < n ∧ f k = x) ↔ ∃ k, k < n ∧ g k = x) ∧ ∀ a b, a < n → b < n → g a = g b → a = b
theorem swF_same {n : Nat} {f0 f : Nat → Int} (h : SameF n f0 f) {j : Nat} (h0 : 0 < j) (hj : j < n) : SameF n f0 (swF f j) := by
  obtain ⟨h1, h2⟩ := h
  have e1 : swF f j j = f (j - 1) := by unfold swF; rw [if_pos rfl]
  have e2 : swF f j (j - 1) = f j := by unfold swF; rw [if_neg (by omega), if_pos rfl]
  have e3 : ∀ k, k ≠ j → k ≠ j - 1 → swF f j k = f k := fun k q1 q2 => by unfold swF; rw [if_neg q1, if_neg q2]
  refine ⟨fun x => ?_, fun a b ha hb hab => ?_⟩
  · rw [h1 x]
    constructor
    · rintro ⟨k, hk, rfl⟩
      by_cases q1 : k = j
      · exact ⟨j - 1, by omega, by rw [e2, q1]⟩
      · by_cases q2 : k = j - 1
        · exact ⟨j, hj, by rw [e1, q2]⟩
        · exact ⟨k, hk, e3 k q1 q2⟩
    · rintro ⟨k, hk, rfl⟩
      by_cases q1 : k = j
      · exact ⟨j - 1, by omega, by rw [q1, e1]⟩
      · by_cases q2 : k = j - 1
        · exact ⟨j, hj, by rw [q2, e2]⟩
        · exact ⟨k, hk, (e3 k q1 q2).symm⟩
  · by_cases p1 : a = j
    · by_cases q1 : b = j
      · omega
      · by_cases q2 : b = j - 1
        · rw [p1, q2, e1, e2] at hab; have := h2 _ _ (by omega) hj hab; omega
        · rw [p1, e1, e3 b q1 q2] at hab; have := h2 _ _ (by omega) hb hab; omega
    · by_cases p2 : a = j - 1
      · by_cases q1 : b = j
        · rw [p2, q1, e1, e2] at hab; have := h2 _ _ hj (by omega) hab; omega
        · by_cases q2 : b = j - 1
          · omega
          · rw [p2, e2, e3 b q1 q2] at hab; have := h2 _ _ hj hb hab; omega
      · by_cases q1 : b = j
        · rw [q1, e1, e3 a p1 p2] at hab; have := h2 _ _ ha (by omega) hab; omega
        · by_cases q2 : b = j - 1
          · rw [q2, e2, e3 a p1 p2] at hab; have := h2 _ _ ha hj hab; omega
          · rw [e3 a p1 p2, e3 b q1 q2] at hab; exact h2 _ _ ha hb hab
/-- The first ones rise. -/
def UpF (n : Nat) (f : Nat → Int) : Prop := ∀ a b, a < b → b < n → f a ≤ f b
/-- The first ones rise, but for the j-th, which is no greater than what stands behind it. -/
def NearF (i j : Nat) (f : Nat → Int) : Prop := (∀ a b, a < b → b ≤ i → a ≠ j → b ≠ j → f a ≤ f b) ∧ ∀ b, j < b → b ≤ i → f j ≤ f b
theorem near_start {i : Nat} {f : Nat → Int} (h : UpF i f) : NearF i i f := ⟨fun a b h1 h2 h3 h4 => h a b h1 (by omega), fun b h1 h2 => by omega⟩
theorem near_end {i j : Nat} {f : Nat → Int} (h : NearF i j f) (hj : j ≤ i) (he : j = 0 ∨ f (j - 1) ≤ f j) : UpF (i + 1) f := by
  intro a b h1 h2
  by_cases p : a = j
  · rw [p]; exact h.2 b (by omega) (by omega)
  · by_cases q : b = j
    · rw [q]
      rcases he with he | he
      · omega
      · by_cases r : a = j - 1
        · rw [r]; exact he
        · have := h.1 a (j - 1) (by omega) (by omega) p (by omega)
          omega
    · exact h.1 a b h1 (by omega) p q
theorem near_step {i j : Nat} {f : Nat → Int} (h : NearF i j f) (h0 : 0 < j) (hj : j ≤ i) (hlt : f j < f (j - 1)) : NearF i (j - 1) (swF f j) := by
  have e1 : swF f j j = f (j - 1) := by unfold swF; rw [if_pos rfl]
  have e2 : swF f j (j - 1) = f j := by unfold swF; rw [if_neg (by omega), if_pos rfl]
  have e3 : ∀ k, k ≠ j → k ≠ j - 1 → swF f j k = f k := fun k q1 q2 => by unfold swF; rw [if_neg q1, if_neg q2]
  refine ⟨fun a b h1 h2 h3 h4 => ?_, fun b h1 h2 => ?_⟩
  · by_cases p : a = j
    · rw [p, e1, e3 b (by omega) h4]; exact h.1 (j - 1) b (by omega) h2 (by omega) (by omega)
    · by_cases q : b = j
      · rw [q, e1, e3 a p h3]; exact h.1 a (j - 1) (by omega) (by omega) p (by omega)
      · rw [e3 a p h3, e3 b q h4]; exact h.1 a b h1 h2 p q
  · rw [e2]
    by_cases q : b = j
    · rw [q, e1]; omega
    · rw [e3 b q (by omega)]; exact h.2 b (by omega) h2
def SortedTo (w : World) (g n : Nat) (f0 : Nat → Int) (e : Ending) (w' : World) : Prop := e = .returned (.tuple #[]) ∧ ∃ f, FidsAt w' g n f ∧ SameF n f0 f ∧ UpF n f ∧ Ou (fun k => k = g) w w'
end Go.Proofs.Ytihgiemgcmpmmaa
