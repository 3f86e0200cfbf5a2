/-
  A loop over a function that yields, whose body always goes on; one round of it; steps inside a round.
-/
import Derived.Test.YtkokjkaclcjnjaaDoorTrAa
import Derived.RangeFuncNested
import Derived.RangeFuncBound
import Derived.RangeFuncCalls
import Derived.RangeFuncLeaves
import Derived.Shelf.Abstract
import Derived.Shelf.RegionOpen
import Derived.OwnWalkIn
import Derived.TacticsInMore
import Derived.LoopNIn
import Derived.LoopIn
import Derived.RangeFuncBox
import Derived.Maps.AppendAt
import Derived.Maps.OwnIn
namespace Go.Proofs.YtkokjkaclcjnjaaDoor.Rg
open Go.RowKit Go.ChangeShapes Go.WideShapes Go.ChangeAt Go.Shelf
attribute [local go_sem] Oper.semAt_some
set_option linter.unusedVariables false
set_option linter.unusedSimpArgs false
theorem lt_blk {w : World} {g : Nat} {o : Obj} (h : w.heap[g]? = some o) : g < w.heap.size := by
 have := (Array.getElem?_eq_some_iff.1 h).1; exact this
def recOf (fn : FuncId) (a : Act) (ps : Array Tmp) (assign body : Code) (D : Nat) (st : LoopState) : Loop := { state := st, pending := none, fn := fn, tmps := a.tmps, params := ps, assign := assign, body := body, defers := D }
theorem range_go {P : Program} {g : Operand} {ps : Array Tmp} {assign body : Code} {Q : Exit → Act → World → Prop} {a : Act} {w : World} {gf : Nat} {lb : Array Value} (hg : a.eval g = .func (.func gf) #[] lb)
   (eg : ∀ args w, (callFunc gf args).run P w = .ok (.enter gf args) w) (post : World → Prop)
   (hit : ∀ fn, CallsIn Fence.wide 2 P gf (#[.func (.yield (w.heap.size + 1)) #[] #[]] ++ lb) ((w.alloc (.deferred (some []))).alloc (.loop (recOf fn a ps assign body w.heap.size .ready))) fun e W' =>
     (∃ v, e = .returned v) ∧ W'.heap[w.heap.size + 1]? = some (.loop (recOf fn a ps assign body w.heap.size .ready)) ∧ W'.heap[w.heap.size]? = some (.deferred (some [])) ∧ post W')
   (hdone : ∀ W' o, post W' → W'.heap[w.heap.size]? = some (.deferred (some [])) → w.heap.size + 1 < W'.heap.size → Q .normal { a with defers := { target := .collected w.heap.size, args := #[] } :: a.defers } (W'.putObj (w.heap.size + 1) o)) :
   (Code.rangeFunc g ps assign body).wpIn Fence.wide 3 P Q a w := by
 refine wpIn_rangeFunc fun fn hfn => ?_
 refine ⟨w.heap.size + 1, [{ target := .collected w.heap.size, args := #[] }], (w.alloc (.deferred (some []))).alloc (.loop (recOf fn a ps assign body w.heap.size .ready)), { target := .fn (.func gf) lb, args := #[.func (.yield (w.heap.size + 1)) #[] #[]] }, (w.alloc (.deferred (some []))).alloc (.loop (recOf fn a ps assign body w.heap.size .ready)), gf, #[.func (.yield (w.heap.size + 1)) #[] #[]] ++ lb, (w.alloc (.deferred (some []))).alloc (.loop (recOf fn a ps assign body w.heap.size .ready)), ?_, ?_, fun _ _ => trivial, ?_, fun _ => by decide, ?_⟩
 · exact run_enterLoop_outer _ _ _ _ _
 · simp only [resolve, hg]
   simp [go_sem]
 · simp [invoke, go_sem, eg]
 · refine (hit fn).mono ?_
   rintro _ W' ⟨⟨v, rfl⟩, hl, hD, hp⟩
   exact ⟨none, _, run_endLoop hl (by simp [recOf]), hdone _ _ hp hD (lt_blk hl)⟩
theorem round_go {P : Program} {ps : Array Tmp} {assign body : Code} {a : Act} {fn : FuncId} {l D : Nat} {args : Array Value} {W : World} {R : World → Prop} (hl : W.heap[l]? = some (.loop (recOf fn a ps assign body D .ready))) (hs : args.size = ps.size)
   (h : assign.wpIn (Fence.wide.inRound l) 1 P (Exit.then (fun a₁ w₁ => w₁.heap[l]? = some (.loop (recOf fn a ps assign body D .ready)) ∧ body.wpIn (Fence.wide.inRound l) 1 P (fun e _ W3 => e = .normal ∧ W3.heap[l]? = some (.loop (recOf fn a ps assign body D .busy)) ∧ R (W3.putObj l (.loop (recOf fn a ps assign body D .ready)))) a₁ (w₁.putObj l (.loop (recOf fn a ps assign body D .busy)))) (fun _ _ _ => False))
     { tmps := (ps.zip args).foldl (fun t (p, v) => t.setIfInBounds p v) a.tmps, defers := [] } W) :
   YieldAt Fence.wide 1 P l args W fun e W' => e = .returned (.bool true) ∧ R W' := by
 refine ⟨fn, _, assign, body, run_yield (P := P) (args := args) hl hs, roundIn_of_wpIn trivial (wpIn_mono h ?_)⟩
 rintro e a1 w1 he
 cases e with
 | normal =>
   obtain ⟨hl1, hb⟩ := he
   refine ⟨_, run_beginRound hl1 rfl, wpIn_mono hb ?_⟩
   rintro e a3 W3 ⟨rfl, hl3, hR⟩
   exact ⟨_, _, run_endRound (P := P) none hl3, rfl, hR⟩
 | ret => exact he
 | exit id => exact he
 | goto t => exact he
 | panic ch => exact he
 | outgrown => exact he
end Go.Proofs.YtkokjkaclcjnjaaDoor.Rg
