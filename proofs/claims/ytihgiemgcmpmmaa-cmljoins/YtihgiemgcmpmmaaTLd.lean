/-
  Does a directory lead up to another one? upward, leadUpTo of the package tree.
-/
import Derived.Test.YtihgiemgcmpmmaaTPr
import Derived.Test.YtihgiemgcmpmmaaRg
namespace Go.Proofs.Ytihgiemgcmpmmaa
open Go.RowKit Go.ChangeShapes Go.WideShapes Go.ChangeAt Go.Shelf Go.Maps
attribute [local go_sem] Oper.semAt_some
set_option linter.unusedVariables false
set_option linter.unusedSimpArgs false
set_option maxRecDepth 100000
/-- Is one met on the way up, above the first one? -/
def upB (G : Int → Option Int) (top : Int) : Nat → Int → Bool
  | 0, _ => false
  | k + 1, f => match G f with
    | none => false
    | some p => p == top || upB G top k p
def leadB (G : Int → Option Int) (n : Nat) (top f : Int) : Bool := f == top || upB G top n f
/-- The record of a loop that was left by a return. -/
def recD (fn : FuncId) (a : Act) (ps : Array Tmp) (assign body : Code) (D : Nat) : Loop := { state := .done, pending := some .ret, fn := fn, tmps := a.tmps, params := ps, assign := assign, body := body, defers := D }
/-- A loop over a function that yields, whose body may return. -/
theorem range_ret {P : Program} {g : Operand} {ps : Array Tmp} {assign body : Code} {Q : Exit → Act → World → Prop} {a : Act} {w : World} {gf : Nat} {lb : Array Value} (hg : a.eval g = .func (.func gf) #[] lb)
    (eg : ∀ args w, (callFunc gf args).run P w = .ok (.enter gf args) w) (post postR : World → Prop)
    (hit : ∀ fn, CallsIn Fence.wide 2 P gf (#[.func (.yield (w.heap.size + 1)) #[] #[]] ++ lb) ((w.alloc (.deferred (some []))).alloc (.loop (Rg.recOf fn a ps assign body w.heap.size .ready))) fun e W' =>
      (∃ v, e = .returned v) ∧ W'.heap[w.heap.size]? = some (.deferred (some [])) ∧ ((W'.heap[w.heap.size + 1]? = some (.loop (Rg.recOf fn a ps assign body w.heap.size .ready)) ∧ post W') ∨ (W'.heap[w.heap.size + 1]? = some (.loop (recD fn a ps assign body w.heap.size)) ∧ postR W')))
    (hdone : ∀ W' o, post W' → W'.heap[w.heap.size]? = some (.deferred (some [])) → w.heap.size + 1 < W'.heap.size → Q .normal { a with defers := { target := .collected w.heap.size, args := #[] } :: a.defers } (W'.putObj (w.heap.size + 1) o))
    (hret : ∀ W' o, postR W' → W'.heap[w.heap.size]? = some (.deferred (some [])) → w.heap.size + 1 < W'.heap.size → Q .ret { a with defers := { target := .collected w.heap.size, args := #[] } :: a.defers } (W'.putObj (w.heap.size + 1) o)) :
    (Code.rangeFunc g ps assign body).wpIn Fence.wide 3 P Q a w := by
  refine wpIn_rangeFunc fun fn hfn => ?_
  refine ⟨w.heap.size + 1, [{ target := .collected w.heap.size, args := #[] }], (w.alloc (.deferred (some []))).alloc (.loop (Rg.recOf fn a ps assign body w.heap.size .ready)), { target := .fn (.func gf) lb, args := #[.func (.yield (w.heap.size + 1)) #[] #[]] }, (w.alloc (.deferred (some []))).alloc (.loop (Rg.recOf fn a ps assign body w.heap.size .ready)), gf, #[.func (.yield (w.heap.size + 1)) #[] #[]] ++ lb, (w.alloc (.deferred (some []))).alloc (.loop (Rg.recOf fn a ps assign body w.heap.size .ready)), ?_, ?_, fun _ _ => trivial, ?_, fun _ => by decide, ?_⟩
  · exact run_enterLoop_outer _ _ _ _ _
  · simp only [resolve, hg]
    simp [go_sem]
  · simp [invoke, go_sem, eg]
  · refine (hit fn).mono ?_
    rintro _ W' ⟨⟨v, rfl⟩, hD, ⟨hl, hp⟩ | ⟨hl, hp⟩⟩
    · exact ⟨none, _, run_endLoop hl (by simp [Rg.recOf]), hdone _ _ hp hD (Rg.lt_blk hl)⟩
    · exact ⟨some .ret, _, run_endLoop hl (by simp [recD]), wpIn_ret (hret _ _ hp hD (Rg.lt_blk hl))⟩
/-- One round of such a loop. -/
theorem round_ret {P : Program} {ps : Array Tmp} {assign body : Code} {a : Act} {fn : FuncId} {l D : Nat} {args : Array Value} {W : World} {R : Bool → World → Prop} (hl : W.heap[l]? = some (.loop (Rg.recOf fn a ps assign body D .ready))) (hs : args.size = ps.size)
    (h : assign.wpIn (Fence.wide.inRound l) 1 P (Exit.then (fun a₁ w₁ => w₁.heap[l]? = some (.loop (Rg.recOf fn a ps assign body D .ready)) ∧ body.wpIn (Fence.wide.inRound l) 1 P (fun e _ W3 => W3.heap[l]? = some (.loop (Rg.recOf fn a ps assign body D .busy)) ∧ ((e = .normal ∧ R true (W3.putObj l (.loop (Rg.recOf fn a ps assign body D .ready)))) ∨ (e = .ret ∧ R false (W3.putObj l (.loop (recD fn a ps assign body D)))))) a₁ (w₁.putObj l (.loop (Rg.recOf fn a ps assign body D .busy)))) (fun _ _ _ => False))
      { tmps := (ps.zip args).foldl (fun t (p, v) => t.setIfInBounds p v) a.tmps, defers := [] } W) :
    YieldAt Fence.wide 1 P l args W fun e W' => ∃ b, e = .returned (.bool b) ∧ R b W' := by
  refine ⟨fn, _, assign, body, run_yield (P := P) (args := args) hl hs, roundIn_of_wpIn trivial (wpIn_mono h ?_)⟩
  rintro e a1 w1 he
  cases e with
  | normal =>
    obtain ⟨hl1, hb⟩ := he
    refine ⟨_, run_beginRound hl1 rfl, wpIn_mono hb ?_⟩
    rintro e a3 W3 ⟨hl3, ⟨rfl, hR⟩ | ⟨rfl, hR⟩⟩
    · exact ⟨_, _, run_endRound (P := P) none hl3, true, rfl, hR⟩
    · exact ⟨_, _, run_endRound (P := P) (some .ret) hl3, false, rfl, hR⟩
  | ret => exact he
  | exit id => exact he
  | goto t => exact he
  | panic ch => exact he
  | outgrown => exact he
theorem zeroFd (w : World) : (zeroValue 43).run Try.prog w = .ok (fdE.enc 0) w := by
  have h : (Try.prog.info? 43).map (fun i => i.zero) = some (some (.int .u32 0)) := by kernel_rfl
  cases hi : Try.prog.info? 43 with
  | none => rw [hi] at h; cases h
  | some i => rw [hi] at h; simp at h; simp [zeroValue, typeInfo, hi, h]; rfl
end Go.Proofs.Ytihgiemgcmpmmaa
