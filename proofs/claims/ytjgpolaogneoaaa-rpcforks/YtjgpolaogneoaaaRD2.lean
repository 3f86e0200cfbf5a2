/-
  What do of the statements on calls does, the other deeds; then any deed.
-/
import Derived.Test.YtjgpolaogneoaaaRDo
namespace Go.Proofs.Ytjgpolaogneoaaa
open Go.RowKit Go.ChangeShapes Go.WideShapes Go.ChangeAt
set_option linter.unusedVariables false
set_option linter.unusedSimpArgs false
set_option maxRecDepth 100000
theorem pk_drew {w : World} {B : Nat} {p : Fr.Pk} (h : PkAt w B p) : PkAt w.drew B p := h
theorem ou_fresh {S : Nat → Prop} {W w' : World} (h : Ou (fun k => S k ∨ k = W.heap.size) W w') : Ou S W w' :=
  ⟨h.os, h.tape, h.output, h.size, fun k hk hS => h.block k hk (fun e => e.elim hS (by omega))⟩
theorem Bo.keep {S : Nat → Prop} {w w' : World} {B c r s t : Nat} {l : Fr.Pk} {C R : Cl} {F : Nat → Tk} {n : Nat} (h : Bo w B c r s t l C R F n) (ho : Ou S w w') (hS : ∀ k, Five B c r s t k → ¬ S k) : Bo w' B c r s t l C R F n :=
  ⟨h.at'.out ho (hS _ (.inl rfl)), h.hc.out ho (hS _ (.inr (.inl rfl))), h.hr.out ho (hS _ (.inr (.inr (.inl rfl)))), h.hs.out ho (hS _ (.inr (.inr (.inr (.inl rfl))))), h.ht.out ho (hS _ (.inr (.inr (.inr (.inr rfl))))), h.rel, h.wc, h.wr, h.wf, h.wl⟩
end Go.Proofs.Ytjgpolaogneoaaa
