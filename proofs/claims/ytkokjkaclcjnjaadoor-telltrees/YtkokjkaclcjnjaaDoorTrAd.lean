/-
  Rows of fids; they are sorted (at most twelve).
-/
import Derived.Test.YtkokjkaclcjnjaaDoorTrAa
import Derived.ChangeArms
import Derived.ChangeOld
import Derived.Below
import Derived.Deep.RegionHeld3
import Derived.Deep.LoopGhost
import Derived.Deep.RegionWith
import Derived.BigQuiet
import Derived.Deep.QuietTactic
namespace Go.Proofs.YtkokjkaclcjnjaaDoor
open Go.RowKit Go.ChangeShapes Go.WideShapes Go.ChangeAt
set_option linter.unusedVariables false
set_option linter.unusedSimpArgs false
set_option maxRecDepth 100000
structure Ou (S : Nat → Prop) (w w' : World) : Prop where
 os : w'.os = w.os
 tape : w'.tape = w.tape
 output : w'.output = w.output
 size : w.heap.size ≤ w'.heap.size
 block : ∀ k, k < w.heap.size → ¬ S k → w'.heap[k]? = w.heap[k]?
theorem Ou.refl (S : Nat → Prop) (w : World) : Ou S w w := ⟨rfl, rfl, rfl, Nat.le_refl _, fun _ _ _ => rfl⟩
theorem Ou.trans {S : Nat → Prop} {a b c : World} (h : Ou S a b) (k : Ou S b c) : Ou S a c :=
 ⟨k.os.trans h.os, k.tape.trans h.tape, k.output.trans h.output, Nat.le_trans h.size k.size, fun i hi hS => (k.block i (Nat.lt_of_lt_of_le hi h.size) hS).trans (h.block i hi hS)⟩
theorem Ou.mono {S T : Nat → Prop} {a b : World} (h : Ou S a b) (k : ∀ i, S i → T i) : Ou T a b := ⟨h.os, h.tape, h.output, h.size, fun i hi hS => h.block i hi fun e => hS (k i e)⟩
theorem Ou.of {S : Nat → Prop} {w w' : World} (h : Below w.heap.size w w') : Ou S w w' := ⟨h.os, h.tape, h.output, h.size, fun i hi _ => h.block i hi⟩
theorem Ou.below {S : Nat → Prop} {w w' : World} {B : Nat} (h : Ou S w w') (hB : B ≤ w.heap.size) (hS : ∀ k, S k → B ≤ k) : Below B w w' :=
 ⟨h.os, h.tape, h.output, h.size, fun i hi => h.block i (by omega) (fun e => by have := hS i e; omega)⟩
theorem Ou.alloc {S : Nat → Prop} {a w : World} (h : Ou S a w) (o : Obj) : Ou S a (w.alloc o) :=
 h.trans (Ou.of ((Below.refl _ _).alloc (Nat.le_refl _) o))
theorem Ou.drew {S : Nat → Prop} {a w : World} (h : Ou S a w) : Ou S a w.drew := ⟨h.os, h.tape, h.output, h.size, h.block⟩
theorem Ou.set {S : Nat → Prop} {a w : World} (h : Ou S a w) {g o : Nat} {v : Value} (hS : S g) : Ou S a (w.setCell ⟨g, o, none⟩ v) :=
 h.trans ⟨rfl, rfl, rfl, by simp [World.setCell], fun k hk hn => heap_setCell_other _ _ _ _ (fun e => hn (e ▸ hS))⟩
theorem Ou.drewN {S : Nat → Prop} {a w : World} (h : Ou S a w) (k : Nat) : Ou S a (w.drewN k) := ⟨h.os, h.tape, h.output, h.size, h.block⟩
end Go.Proofs.YtkokjkaclcjnjaaDoor
