/-
  A loop over a function that yields, whose body always goes on; one round of it; steps inside a round.
  Does a directory lead up to another one? upward, leadUpTo of the package tree.
-/
import Derived.Test.YtpolbbdaippclaaGreatNnAa
import Derived.RangeFuncNested
import Derived.RangeFuncBound
import Derived.RangeFuncCalls
import Derived.RangeFuncLeaves
import Derived.Shelf.Abstract
import Derived.Shelf.RegionOpen
import Derived.OwnWalkIn
import Derived.TacticsInMore
import Derived.LoopNIn
import Derived.LoopIn
import Derived.RangeFuncBox
import Derived.Maps.AppendAt
import Derived.Maps.OwnIn
import Derived.Test.YtpolbbdaippclaaGreatNnAg
namespace Go.Proofs.YtpolbbdaippclaaGreat.Rg
open Go.RowKit Go.ChangeShapes Go.WideShapes Go.ChangeAt Go.Shelf
attribute [local go_sem] Oper.semAt_some
set_option linter.unusedVariables false
set_option linter.unusedSimpArgs false
theorem lt_blk {w : World} {g : Nat} {o : Obj} (h : w.heap[g]? = some o) : g < w.heap.size := by
 have := (Array.getElem?_eq_some_iff.1 h).1; exact this
def recOf (fn : FuncId) (a : Act) (ps : Array Tmp) (assign body : Code) (D : Nat) (st : LoopState) : Loop := { state := st, pending := none, fn := fn, tmps := a.tmps, params := ps, assign := assign, body := body, defers := D }
theorem range_go {P : Program} {g : Operand} {ps : Array Tmp} {assign body : Code} {Q : Exit → Act → World → Prop} {a : Act} {w : World} {gf : Nat} {lb : Array Value} (hg : a.eval g = .func (.func gf) #[] lb)
   (eg : ∀ args w, (callFunc gf args).run P w = .ok (.enter gf args) w) (post : World → Prop)
   (hit : ∀ fn, CallsIn Fence.wide 2 P gf (#[.func (.yield (w.heap.size + 1)) #[] #[]] ++ lb) ((w.alloc (.deferred (some []))).alloc (.loop (recOf fn a ps assign body w.heap.size .ready))) fun e W' =>
     (∃ v, e = .returned v) ∧ W'.heap[w.heap.size + 1]? = some (.loop (recOf fn a ps assign body w.heap.size .ready)) ∧ W'.heap[w.heap.size]? = some (.deferred (some [])) ∧ post W')
   (hdone : ∀ W' o, post W' → W'.heap[w.heap.size]? = some (.deferred (some [])) → w.heap.size + 1 < W'.heap.size → Q .normal { a with defers := { target := .collected w.heap.size, args := #[] } :: a.defers } (W'.putObj (w.heap.size + 1) o)) :
   (Code.rangeFunc g ps assign body).wpIn Fence.wide 3 P Q a w := by
 refine wpIn_rangeFunc fun fn hfn => ?_
 refine ⟨w.heap.size + 1, [{ target := .collected w.heap.size, args := #[] }], (w.alloc (.deferred (some []))).alloc (.loop (recOf fn a ps assign body w.heap.size .ready)), { target := .fn (.func gf) lb, args := #[.func (.yield (w.heap.size + 1)) #[] #[]] }, (w.alloc (.deferred (some []))).alloc (.loop (recOf fn a ps assign body w.heap.size .ready)), gf, #[.func (.yield (w.heap.size + 1)) #[] #[]] ++ lb, (w.alloc (.deferred (some []))).alloc (.loop (recOf fn a ps assign body w.heap.size .ready)), ?_, ?_, fun _ _ => trivial, ?_, fun _ => by decide, ?_⟩
 · exact run_enterLoop_outer _ _ _ _ _
 · simp only [resolve, hg]
   simp [go_sem]
 · simp [invoke, go_sem, eg]
 · refine (hit fn).mono ?_
   rintro _ W' ⟨⟨v, rfl⟩, hl, hD, hp⟩
   exact ⟨none, _, run_endLoop hl (by simp [recOf]), hdone _ _ hp hD (lt_blk hl)⟩
theorem round_go {P : Program} {ps : Array Tmp} {assign body : Code} {a : Act} {fn : FuncId} {l D : Nat} {args : Array Value} {W : World} {R : World → Prop} (hl : W.heap[l]? = some (.loop (recOf fn a ps assign body D .ready))) (hs : args.size = ps.size)
   (h : assign.wpIn (Fence.wide.inRound l) 1 P (Exit.then (fun a₁ w₁ => w₁.heap[l]? = some (.loop (recOf fn a ps assign body D .ready)) ∧ body.wpIn (Fence.wide.inRound l) 1 P (fun e _ W3 => e = .normal ∧ W3.heap[l]? = some (.loop (recOf fn a ps assign body D .busy)) ∧ R (W3.putObj l (.loop (recOf fn a ps assign body D .ready)))) a₁ (w₁.putObj l (.loop (recOf fn a ps assign body D .busy)))) (fun _ _ _ => False))
     { tmps := (ps.zip args).foldl (fun t (p, v) => t.setIfInBounds p v) a.tmps, defers := [] } W) :
   YieldAt Fence.wide 1 P l args W fun e W' => e = .returned (.bool true) ∧ R W' := by
 refine ⟨fn, _, assign, body, run_yield (P := P) (args := args) hl hs, roundIn_of_wpIn trivial (wpIn_mono h ?_)⟩
 rintro e a1 w1 he
 cases e with
 | normal =>
   obtain ⟨hl1, hb⟩ := he
   refine ⟨_, run_beginRound hl1 rfl, wpIn_mono hb ?_⟩
   rintro e a3 W3 ⟨rfl, hl3, hR⟩
   exact ⟨_, _, run_endRound (P := P) none hl3, rfl, hR⟩
 | ret => exact he
 | exit id => exact he
 | goto t => exact he
 | panic ch => exact he
 | outgrown => exact he
theorem wpListIn_run {F : Fence} (hF : ∀ f, F.fn f) {n : Nat} {P : Program} {ops : Array Oper} {rest : List Oper} {o : Oper} {a : Act} {Q : Exit → Act → World → Prop} {w : World} (hg : o.guard = none) (hnd : ∀ c, o.op ≠ .defer c) {v : Value} {w' : World}
   (hrun : (execOp a.eval o).run P w = .ok (.value v) w') (hK : wpListIn F n P ops Q rest (a.put o.dst v) w') : wpListIn F n P ops Q (o :: rest) a w := by
 refine wpListIn_plain hg fun K hK' => ?_
 unfold Oper.wpIn
 refine ⟨fun f _ => hF f, ?_⟩
 rw [Oper.semAt_plain _ _ _ hnd, hrun]
 exact hK' _ _ hK
theorem wpListIn_skip' {F : Fence} (hF : ∀ f, F.fn f) {n : Nat} {P : Program} {ops : Array Oper} {rest : List Oper} {o : Oper} {a : Act} {Q : Exit → Act → World → Prop} {w : World} (hg : o.guard = none) (hnd : ∀ c, o.op ≠ .defer c) {w' : World}
   (hrun : (execOp a.eval o).run P w = .ok .skip w') (hK : wpListIn F n P ops Q rest (a.put o.dst undef) w') : wpListIn F n P ops Q (o :: rest) a w := by
 refine wpListIn_plain hg fun K hK' => ?_
 unfold Oper.wpIn
 refine ⟨fun f _ => hF f, ?_⟩
 rw [Oper.semAt_plain _ _ _ hnd, hrun]
 exact hK' _ _ hK
end Go.Proofs.YtpolbbdaippclaaGreat.Rg
namespace Go.Proofs.YtpolbbdaippclaaGreat
open Go.RowKit Go.ChangeShapes Go.WideShapes Go.ChangeAt Go.Shelf Go.Maps
attribute [local go_sem] Oper.semAt_some
set_option linter.unusedVariables false
set_option linter.unusedSimpArgs false
set_option maxRecDepth 100000
def upB (G : Int → Option Int) (top : Int) : Nat → Int → Bool
 | 0, _ => false
 | k + 1, f => match G f with
   | none => false
   | some p => p == top || upB G top k p
def leadB (G : Int → Option Int) (n : Nat) (top f : Int) : Bool := f == top || upB G top n f
def recD (fn : FuncId) (a : Act) (ps : Array Tmp) (assign body : Code) (D : Nat) : Loop := { state := .done, pending := some .ret, fn := fn, tmps := a.tmps, params := ps, assign := assign, body := body, defers := D }
theorem range_ret {P : Program} {g : Operand} {ps : Array Tmp} {assign body : Code} {Q : Exit → Act → World → Prop} {a : Act} {w : World} {gf : Nat} {lb : Array Value} (hg : a.eval g = .func (.func gf) #[] lb)
   (eg : ∀ args w, (callFunc gf args).run P w = .ok (.enter gf args) w) (post postR : World → Prop)
   (hit : ∀ fn, CallsIn Fence.wide 2 P gf (#[.func (.yield (w.heap.size + 1)) #[] #[]] ++ lb) ((w.alloc (.deferred (some []))).alloc (.loop (Rg.recOf fn a ps assign body w.heap.size .ready))) fun e W' =>
     (∃ v, e = .returned v) ∧ W'.heap[w.heap.size]? = some (.deferred (some [])) ∧ ((W'.heap[w.heap.size + 1]? = some (.loop (Rg.recOf fn a ps assign body w.heap.size .ready)) ∧ post W') ∨ (W'.heap[w.heap.size + 1]? = some (.loop (recD fn a ps assign body w.heap.size)) ∧ postR W')))
   (hdone : ∀ W' o, post W' → W'.heap[w.heap.size]? = some (.deferred (some [])) → w.heap.size + 1 < W'.heap.size → Q .normal { a with defers := { target := .collected w.heap.size, args := #[] } :: a.defers } (W'.putObj (w.heap.size + 1) o))
   (hret : ∀ W' o, postR W' → W'.heap[w.heap.size]? = some (.deferred (some [])) → w.heap.size + 1 < W'.heap.size → Q .ret { a with defers := { target := .collected w.heap.size, args := #[] } :: a.defers } (W'.putObj (w.heap.size + 1) o)) :
   (Code.rangeFunc g ps assign body).wpIn Fence.wide 3 P Q a w := by
 refine wpIn_rangeFunc fun fn hfn => ?_
 refine ⟨w.heap.size + 1, [{ target := .collected w.heap.size, args := #[] }], (w.alloc (.deferred (some []))).alloc (.loop (Rg.recOf fn a ps assign body w.heap.size .ready)), { target := .fn (.func gf) lb, args := #[.func (.yield (w.heap.size + 1)) #[] #[]] }, (w.alloc (.deferred (some []))).alloc (.loop (Rg.recOf fn a ps assign body w.heap.size .ready)), gf, #[.func (.yield (w.heap.size + 1)) #[] #[]] ++ lb, (w.alloc (.deferred (some []))).alloc (.loop (Rg.recOf fn a ps assign body w.heap.size .ready)), ?_, ?_, fun _ _ => trivial, ?_, fun _ => by decide, ?_⟩
 · exact run_enterLoop_outer _ _ _ _ _
 · simp only [resolve, hg]
   simp [go_sem]
 · simp [invoke, go_sem, eg]
 · refine (hit fn).mono ?_
   rintro _ W' ⟨⟨v, rfl⟩, hD, ⟨hl, hp⟩ | ⟨hl, hp⟩⟩
   · exact ⟨none, _, run_endLoop hl (by simp [Rg.recOf]), hdone _ _ hp hD (Rg.lt_blk hl)⟩
   · exact ⟨some .ret, _, run_endLoop hl (by simp [recD]), wpIn_ret (hret _ _ hp hD (Rg.lt_blk hl))⟩
theorem round_ret {P : Program} {ps : Array Tmp} {assign body : Code} {a : Act} {fn : FuncId} {l D : Nat} {args : Array Value} {W : World} {R : Bool → World → Prop} (hl : W.heap[l]? = some (.loop (Rg.recOf fn a ps assign body D .ready))) (hs : args.size = ps.size)
   (h : assign.wpIn (Fence.wide.inRound l) 1 P (Exit.then (fun a₁ w₁ => w₁.heap[l]? = some (.loop (Rg.recOf fn a ps assign body D .ready)) ∧ body.wpIn (Fence.wide.inRound l) 1 P (fun e _ W3 => W3.heap[l]? = some (.loop (Rg.recOf fn a ps assign body D .busy)) ∧ ((e = .normal ∧ R true (W3.putObj l (.loop (Rg.recOf fn a ps assign body D .ready)))) ∨ (e = .ret ∧ R false (W3.putObj l (.loop (recD fn a ps assign body D)))))) a₁ (w₁.putObj l (.loop (Rg.recOf fn a ps assign body D .busy)))) (fun _ _ _ => False))
     { tmps := (ps.zip args).foldl (fun t (p, v) => t.setIfInBounds p v) a.tmps, defers := [] } W) :
   YieldAt Fence.wide 1 P l args W fun e W' => ∃ b, e = .returned (.bool b) ∧ R b W' := by
 refine ⟨fn, _, assign, body, run_yield (P := P) (args := args) hl hs, roundIn_of_wpIn trivial (wpIn_mono h ?_)⟩
 rintro e a1 w1 he
 cases e with
 | normal =>
   obtain ⟨hl1, hb⟩ := he
   refine ⟨_, run_beginRound hl1 rfl, wpIn_mono hb ?_⟩
   rintro e a3 W3 ⟨hl3, ⟨rfl, hR⟩ | ⟨rfl, hR⟩⟩
   · exact ⟨_, _, run_endRound (P := P) none hl3, true, rfl, hR⟩
   · exact ⟨_, _, run_endRound (P := P) (some .ret) hl3, false, rfl, hR⟩
 | ret => exact he
 | exit id => exact he
 | goto t => exact he
 | panic ch => exact he
 | outgrown => exact he
def LU (w : World) (pb : Nat) (top cur : Int) (r : Bool) (rec : Obj) (W : World) : Prop :=
 Below w.heap.size w W ∧ W.heap.size = w.heap.size + 6 ∧ W.heap[w.heap.size]? = some (.cells #[.int .u32 top] 33 (0, 0)) ∧ W.heap[w.heap.size + 1]? = some (.cells #[.bool r] 4 (0, 0)) ∧
 W.heap[w.heap.size + 2]? = some (.cells #[.map (some pb)] 293 (0, 0)) ∧ W.heap[w.heap.size + 3]? = some (.cells #[.int .u32 cur] 33 (0, 0)) ∧
 W.heap[w.heap.size + 4]? = some (.deferred (some [])) ∧ W.heap[w.heap.size + 5]? = some rec
theorem LU.cur {w W : World} {pb : Nat} {top cur : Int} {r : Bool} {rec : Obj} (h : LU w pb top cur r rec W) (v : Int) : LU w pb top v r rec (W.setCell ⟨w.heap.size + 3, 0, none⟩ (.int .u32 v)) := by
 obtain ⟨h1, h2, h3, h4, h5, h6, h7, h8⟩ := h
 have o : ∀ k, k ≠ w.heap.size + 3 → (W.setCell ⟨w.heap.size + 3, 0, none⟩ (.int .u32 v)).heap[k]? = W.heap[k]? := fun k hk => heap_setCell_other _ _ _ _ hk
 exact ⟨h1.setCell (p := ⟨w.heap.size + 3, 0, none⟩) (by show w.heap.size ≤ w.heap.size + 3; omega) _, by simpa [World.setCell] using h2, (o _ (by omega)).trans h3, (o _ (by omega)).trans h4, (o _ (by omega)).trans h5, heap_setBox _ h6, (o _ (by omega)).trans h7, (o _ (by omega)).trans h8⟩
theorem LU.rec {w W : World} {pb : Nat} {top cur : Int} {r : Bool} {rec : Obj} (h : LU w pb top cur r rec W) (o : Obj) : LU w pb top cur r o (W.putObj (w.heap.size + 5) o) := by
 obtain ⟨h1, h2, h3, h4, h5, h6, h7, h8⟩ := h
 have q : ∀ k, k ≠ w.heap.size + 5 → (W.putObj (w.heap.size + 5) o).heap[k]? = W.heap[k]? := fun k hk => World.putObj_heap_other hk
 exact ⟨h1.trans ⟨rfl, rfl, rfl, by simp, fun k hk => q k (by omega)⟩, by simpa using h2, (q _ (by omega)).trans h3, (q _ (by omega)).trans h4, (q _ (by omega)).trans h5, (q _ (by omega)).trans h6, (q _ (by omega)).trans h7, World.putObj_heap_same (by omega)⟩
theorem LU.res {w W : World} {pb : Nat} {top cur : Int} {r : Bool} {rec : Obj} (h : LU w pb top cur r rec W) (v : Bool) : LU w pb top cur v rec (W.setCell ⟨w.heap.size + 1, 0, none⟩ (.bool v)) := by
 obtain ⟨h1, h2, h3, h4, h5, h6, h7, h8⟩ := h
 have o : ∀ k, k ≠ w.heap.size + 1 → (W.setCell ⟨w.heap.size + 1, 0, none⟩ (.bool v)).heap[k]? = W.heap[k]? := fun k hk => heap_setCell_other _ _ _ _ hk
 exact ⟨h1.setCell (p := ⟨w.heap.size + 1, 0, none⟩) (by show w.heap.size ≤ w.heap.size + 1; omega) _, by simpa [World.setCell] using h2, (o _ (by omega)).trans h3, heap_setBox _ h4, (o _ (by omega)).trans h5, (o _ (by omega)).trans h6, (o _ (by omega)).trans h7, (o _ (by omega)).trans h8⟩
theorem zeroFd (w : World) : (zeroValue 33).run Tryz.prog w = .ok (fdE.enc 0) w := by
 have h : (Tryz.prog.info? 33).map (fun i => i.zero) = some (some (.int .u32 0)) := by kernel_rfl
 cases hi : Tryz.prog.info? 33 with
 | none => rw [hi] at h; cases h
 | some i => rw [hi] at h; simp at h; simp [zeroValue, typeInfo, hi, h]; rfl
set_option maxHeartbeats 2000000 in
theorem upward1_in (w : World) (pb n : Nat) (G : Int → Option Int) (hF : IsFm fdE w pb n G) (hn : n ≤ 1000) (hG : ∀ g p, G g = some p → 0 ≤ p ∧ p < 4294967296) (top f0 : Int) (h0 : 0 ≤ f0) (h1 : f0 < 4294967296) (Rr Rd : Obj)
   (hY : ∀ cur g W, LU w pb top cur false Rr W → YieldAt Fence.wide 1 Tryz.prog (w.heap.size + 5) #[.int .u32 g] W fun e W' => ∃ b, e = .returned (.bool b) ∧ b = !(g == top) ∧ LU w pb top cur (!b) (bif b then Rr else Rd) W')
   (W : World) (hW : LU w pb top f0 false Rr W) :
   CallsIn Fence.wide 2 Tryz.prog 232 #[.func (.yield (w.heap.size + 5)) #[] #[], .pointer (some ⟨w.heap.size + 3, 0, none⟩), .pointer (some ⟨w.heap.size + 2, 0, none⟩)] W fun e W' => (∃ v, e = .returned v) ∧ ∃ cur, LU w pb top cur (leadB G n top f0) (bif leadB G n top f0 then Rd else Rr) W' := by
 have HF := hid hF
 have HG := hid hG
 have HY := hid hY
 clear hF hG hY
 refine callsIn_of_wp Tryz.func232 rfl trivial ?_ rfl
 simp only [Tryz.ntmps232, List.size_toArray, List.length_cons, List.length_nil, Nat.reduceAdd, Nat.reduceSub, Array.replicate_succ, Array.replicate_zero, List.push_toArray, List.append_toArray, List.nil_append, List.cons_append]
 have c3 := cell_box hW.2.2.2.2.2.1
 obtain ⟨fn, tmps, assign, body, hy, hR⟩ := HY.out f0 f0 W hW
 have HR := hid hR
 clear hR
 obtain ⟨LB, hLB⟩ : ∃ LB, LB = leadB G n top f0 := ⟨_, rfl⟩
 rw [← hLB]
 unfold leadB at hLB
 gi_wp2_with fail
 refine HR.out.mono ?_
 rintro _ W1 ⟨b, rfl, hb, hL1⟩
 cases q : (f0 == top) with
 | true =>
   rw [q] at hb hLB
   have eLB : LB = true := hLB
   subst eLB
   simp only [Bool.not_true] at hb
   subst hb
   have HL1 := hid hL1
   clear hLB hL1 hW q h0 h1 hn
   gi_wp2
   first
     | exact body_end (by kernel_rfl) rfl ⟨⟨_, rfl⟩, f0, HL1.out⟩
     | (refine bodyPost_ret (results_none (by kernel_rfl) _ _ _) rfl ?_; exact ⟨⟨_, rfl⟩, f0, HL1.out⟩)
     | (go_end0; exact ⟨⟨_, rfl⟩, f0, HL1.out⟩)
 | false =>
   rw [q] at hb hLB
   simp only [Bool.not_false, Bool.false_or] at hb hLB
   subst hb
   simp only [cond_true, Bool.not_true] at hL1
   have c2 := cell_box hL1.2.2.2.2.1
   have LN := (HF.out.out (Ou.of (S := fun _ => False) hL1.1) (fun e => e)).len ht_par 3
   have HLB := hid hLB
   have HL1 := hid hL1
   have B0 := hid (show 0 ≤ f0 ∧ f0 < 4294967296 from ⟨h0, h1⟩)
   have HN := hid hn
   clear hLB hW hL1 h0 h1 hn q
   gi_wp2
   gi_loopw [12] (fun v wr => ∃ (m : Nat) (cur : Int), m ≤ n ∧ v = .int .i64 m ∧ Hid (0 ≤ cur ∧ cur < 4294967296) ∧ Hid (LU w pb top cur false Rr wr) ∧ Hid (LB = upB G top (n - m) cur)) (fun v _ => n - (intOf v).toNat)
   case atStart => exact ⟨0, f0, by omega, rfl, B0, HL1, HLB⟩
   case round =>
     clear HL1 HLB B0
     obtain ⟨m, cur, hm, rfl, HBD, HL, HE⟩ := hrel
     by_cases hlt : m < n
     · have hltI : (m : Int) < n := by omega
       obtain ⟨k, hk⟩ : ∃ k, n - m = k + 1 := ⟨n - m - 1, by omega⟩
       have hk2 : n - (m + 1) = k := by omega
       rw [hk] at HE
       unfold upB at HE
       have d2 := cell_box HL.out.2.2.2.2.1
       have d3 := cell_box HL.out.2.2.2.2.2.1
       have LK := (HF.out.out (Ou.of (S := fun _ => False) HL.out.1) (fun e => e)).lookOk ht_par zeroFd HBD.out.1 HBD.out.2
       cases hg : G cur with
       | none =>
         rw [hg] at LK HE
         rw [show fdE.enc ((none : Option Int).getD 0) = .int .u32 0 from rfl, show (none : Option Int).isSome = false from rfl] at LK
         have eLB := HE.out
         simp only at eLB
         subst eLB
         clear HE hk hk2 c2 LN
         gi_wp2
         refine ⟨fun _ h => (by cases h), ?_⟩
         gi_wp2
         first
           | exact body_end (by kernel_rfl) rfl ⟨⟨_, rfl⟩, cur, HL.out⟩
           | (refine bodyPost_ret (results_none (by kernel_rfl) _ _ _) rfl ?_; exact ⟨⟨_, rfl⟩, cur, HL.out⟩)
           | (go_end0; exact ⟨⟨_, rfl⟩, cur, HL.out⟩)
       | some p =>
         have hp := hid (HG.out cur p hg)
         rw [hg] at LK HE
         rw [show fdE.enc ((some p : Option Int).getD 0) = .int .u32 p from rfl, show (some p : Option Int).isSome = true from rfl] at LK
         obtain ⟨fn2, tmps2, assign2, body2, hy2, hR2⟩ := HY.out cur p wr HL.out
         have HR2 := hid hR2
         simp only at HE
         clear hR2 hk c2 LN hy c3
         gi_wp2_with fail
         refine HR2.out.mono ?_
         rintro _ W3 ⟨b, rfl, hb, hL3⟩
         cases q : (p == top) with
         | true =>
           rw [q] at hb HE
           have eLB : LB = true := HE.out
           subst eLB
           simp only [Bool.not_true] at hb
           subst hb
           have HL1 := hid hL3
           clear HE hL3 q hk2 hy2
           gi_wp2
           first
             | exact body_end (by kernel_rfl) rfl ⟨⟨_, rfl⟩, cur, HL1.out⟩
             | (refine bodyPost_ret (results_none (by kernel_rfl) _ _ _) rfl ?_; exact ⟨⟨_, rfl⟩, cur, HL1.out⟩)
             | (go_end0; exact ⟨⟨_, rfl⟩, cur, HL1.out⟩)
         | false =>
           rw [q] at hb HE
           simp only [Bool.not_false, Bool.false_or] at hb HE
           subst hb
           simp only [cond_true, Bool.not_true] at hL3
           have e3 := cell_box hL3.2.2.2.2.2.1
           have f3 := frozen_box hL3.2.2.2.2.2.1
           have HL3 := hid (hL3.cur p)
           have HE3 : Hid (LB = upB G top (n - (m + 1)) p) := hid (by rw [hk2]; exact HE.out)
           clear hL3 q HE hk2 hy2
           gi_wp2
           have hn9 := HN.out
           have hw9 : wrap64 ((m : Int) + 1) = ((m + 1 : Nat) : Int) := by unfold wrap64; omega
           go_roundw
           case rel => exact ⟨m + 1, p, by omega, by rw [hw9], hp, HL3, HE3⟩
           case measure => rw [hw9]; simp [intOf]; omega
     · have hge : ¬ (m : Int) < n := by omega
       have eLB : LB = false := by have := HE.out; rw [show n - m = 0 by omega] at this; exact this
       subst eLB
       clear HE
       gi_wp2
       first
         | exact body_end (by kernel_rfl) rfl ⟨⟨_, rfl⟩, cur, HL.out⟩
         | (refine bodyPost_ret (results_none (by kernel_rfl) _ _ _) rfl ?_; exact ⟨⟨_, rfl⟩, cur, HL.out⟩)
         | (go_end0; exact ⟨⟨_, rfl⟩, cur, HL.out⟩)
end Go.Proofs.YtpolbbdaippclaaGreat
