/-
  A loop over a function that yields, whose body always goes on; one round of it; steps inside a round.
  slices.Chunk of a load, piece by piece: for every loop body that keeps the boxes.
  Rows of sectors: what building, laying and copying of them does.
  groupSectors of the package journal: a group's sectors, one behind the other.
  Rows of sectors that are read: slices.Equal, readLoad.
  readLoad, slices.Clone of bytes, partsOf of the package journal: one contract a function.
  partsOf of the package journal.
-/
import Derived.Test.YtfmkgflhgapeoabGA
import Derived.RangeFuncNested
import Derived.RangeFuncBound
import Derived.RangeFuncCalls
import Derived.RangeFuncLeaves
import Derived.Shelf.Abstract
import Derived.Shelf.RegionOpen
import Derived.OwnWalkIn
import Derived.TacticsInMore
import Derived.LoopNIn
import Derived.LoopIn
import Derived.RangeFuncBox
import Derived.Maps.AppendAt
import Derived.Maps.OwnIn
import Derived.Test.YtfmkgflhgapeoabGB
import Derived.BigQuiet
import Derived.Deep.QuietTactic
import Derived.OwnWalk
import Derived.Lib.SliceRun
namespace Go.Proofs.Ytfmkgflhgapeoab.Rg
open Go.RowKit Go.ChangeShapes Go.WideShapes Go.ChangeAt Go.Shelf
attribute [local go_sem] Oper.semAt_some
set_option linter.unusedVariables false
set_option linter.unusedSimpArgs false
theorem lt_blk {w : World} {g : Nat} {o : Obj} (h : w.heap[g]? = some o) : g < w.heap.size := by
  have := (Array.getElem?_eq_some_iff.1 h).1; exact this
/-- The record of a loop over a function that yields, laid where the statement begins. -/
def recOf (fn : FuncId) (a : Act) (ps : Array Tmp) (assign body : Code) (D : Nat) (st : LoopState) : Loop := { state := st, pending := none, fn := fn, tmps := a.tmps, params := ps, assign := assign, body := body, defers := D }
/-- A loop over a function that yields, whose body always goes on: what the function's call leaves is what stands behind the loop. -/
theorem range_go {P : Program} {g : Operand} {ps : Array Tmp} {assign body : Code} {Q : Exit → Act → World → Prop} {a : Act} {w : World} {gf : Nat} {lb : Array Value} (hg : a.eval g = .func (.func gf) #[] lb)
    (eg : ∀ args w, (callFunc gf args).run P w = .ok (.enter gf args) w) (post : World → Prop)
    (hit : ∀ fn, CallsIn Fence.wide 2 P gf (#[.func (.yield (w.heap.size + 1)) #[] #[]] ++ lb) ((w.alloc (.deferred (some []))).alloc (.loop (recOf fn a ps assign body w.heap.size .ready))) fun e W' =>
      (∃ v, e = .returned v) ∧ W'.heap[w.heap.size + 1]? = some (.loop (recOf fn a ps assign body w.heap.size .ready)) ∧ W'.heap[w.heap.size]? = some (.deferred (some [])) ∧ post W')
    (hdone : ∀ W' o, post W' → W'.heap[w.heap.size]? = some (.deferred (some [])) → w.heap.size + 1 < W'.heap.size → Q .normal { a with defers := { target := .collected w.heap.size, args := #[] } :: a.defers } (W'.putObj (w.heap.size + 1) o)) :
    (Code.rangeFunc g ps assign body).wpIn Fence.wide 3 P Q a w := by
  refine wpIn_rangeFunc fun fn hfn => ?_
  refine ⟨w.heap.size + 1, [{ target := .collected w.heap.size, args := #[] }], (w.alloc (.deferred (some []))).alloc (.loop (recOf fn a ps assign body w.heap.size .ready)), { target := .fn (.func gf) lb, args := #[.func (.yield (w.heap.size + 1)) #[] #[]] }, (w.alloc (.deferred (some []))).alloc (.loop (recOf fn a ps assign body w.heap.size .ready)), gf, #[.func (.yield (w.heap.size + 1)) #[] #[]] ++ lb, (w.alloc (.deferred (some []))).alloc (.loop (recOf fn a ps assign body w.heap.size .ready)), ?_, ?_, fun _ _ => trivial, ?_, fun _ => by decide, ?_⟩
  · exact run_enterLoop_outer _ _ _ _ _
  · simp only [resolve, hg]
    simp [go_sem]
  · simp [invoke, go_sem, eg]
  · refine (hit fn).mono ?_
    rintro _ W' ⟨⟨v, rfl⟩, hl, hD, hp⟩
    exact ⟨none, _, run_endLoop hl (by simp [recOf]), hdone _ _ hp hD (lt_blk hl)⟩
/-- One round of such a loop. -/
theorem round_go {P : Program} {ps : Array Tmp} {assign body : Code} {a : Act} {fn : FuncId} {l D : Nat} {args : Array Value} {W : World} {R : World → Prop} (hl : W.heap[l]? = some (.loop (recOf fn a ps assign body D .ready))) (hs : args.size = ps.size)
    (h : assign.wpIn (Fence.wide.inRound l) 1 P (Exit.then (fun a₁ w₁ => w₁.heap[l]? = some (.loop (recOf fn a ps assign body D .ready)) ∧ body.wpIn (Fence.wide.inRound l) 1 P (fun e _ W3 => e = .normal ∧ W3.heap[l]? = some (.loop (recOf fn a ps assign body D .busy)) ∧ R (W3.putObj l (.loop (recOf fn a ps assign body D .ready)))) a₁ (w₁.putObj l (.loop (recOf fn a ps assign body D .busy)))) (fun _ _ _ => False))
      { tmps := (ps.zip args).foldl (fun t (p, v) => t.setIfInBounds p v) a.tmps, defers := [] } W) :
    YieldAt Fence.wide 1 P l args W fun e W' => e = .returned (.bool true) ∧ R W' := by
  refine ⟨fn, _, assign, body, run_yield (P := P) (args := args) hl hs, roundIn_of_wpIn trivial (wpIn_mono h ?_)⟩
  rintro e a1 w1 he
  cases e with
  | normal =>
    obtain ⟨hl1, hb⟩ := he
    refine ⟨_, run_beginRound hl1 rfl, wpIn_mono hb ?_⟩
    rintro e a3 W3 ⟨rfl, hl3, hR⟩
    exact ⟨_, _, run_endRound (P := P) none hl3, rfl, hR⟩
  | ret => exact he
  | exit id => exact he
  | goto t => exact he
  | panic ch => exact he
  | outgrown => exact he
/-- A step inside a round that hands back a value. -/
theorem wpListIn_run {F : Fence} (hF : ∀ f, F.fn f) {n : Nat} {P : Program} {ops : Array Oper} {rest : List Oper} {o : Oper} {a : Act} {Q : Exit → Act → World → Prop} {w : World} (hg : o.guard = none) (hnd : ∀ c, o.op ≠ .defer c) {v : Value} {w' : World}
    (hrun : (execOp a.eval o).run P w = .ok (.value v) w') (hK : wpListIn F n P ops Q rest (a.put o.dst v) w') : wpListIn F n P ops Q (o :: rest) a w := by
  refine wpListIn_plain hg fun K hK' => ?_
  unfold Oper.wpIn
  refine ⟨fun f _ => hF f, ?_⟩
  rw [Oper.semAt_plain _ _ _ hnd, hrun]
  exact hK' _ _ hK
/-- A step inside a round that hands back nothing. -/
theorem wpListIn_skip' {F : Fence} (hF : ∀ f, F.fn f) {n : Nat} {P : Program} {ops : Array Oper} {rest : List Oper} {o : Oper} {a : Act} {Q : Exit → Act → World → Prop} {w : World} (hg : o.guard = none) (hnd : ∀ c, o.op ≠ .defer c) {w' : World}
    (hrun : (execOp a.eval o).run P w = .ok .skip w') (hK : wpListIn F n P ops Q rest (a.put o.dst undef) w') : wpListIn F n P ops Q (o :: rest) a w := by
  refine wpListIn_plain hg fun K hK' => ?_
  unfold Oper.wpIn
  refine ⟨fun f _ => hF f, ?_⟩
  rw [Oper.semAt_plain _ _ _ hnd, hrun]
  exact hK' _ _ hK
end Go.Proofs.Ytfmkgflhgapeoab.Rg
namespace Go.Proofs.Ytfmkgflhgapeoab
open Go.RowKit Go.ChangeShapes Go.WideShapes Go.ChangeAt Go.Maps Go.Shelf
attribute [local go_sem] Oper.semAt_some
set_option linter.unusedVariables false
set_option linter.unusedSimpArgs false
set_option maxHeartbeats 2000000 in
theorem chunk1_in (l B b off len cap : Nat) (hlen : len ≤ 1000000) (hlc : len ≤ cap) (I : Nat → World → Prop)
    (hI : ∀ k W, I k W → W.heap[B]? = some (.cells #[.slice (some ⟨b, off, none⟩) len cap] 31 (0, 0)) ∧ W.heap[B + 1]? = some (.cells #[.int .i64 31] 3 (0, 0)))
    (hd : ∀ k W, I k W → I k W.drew)
    (hY : ∀ k W, 31 * k < len → I k W → YieldAt Fence.wide 1 Try.prog l #[.slice (some ⟨b, off + 31 * k, none⟩) (min 31 (len - 31 * k)) (min 31 (len - 31 * k))] W fun e W' => e = .returned (.bool true) ∧ I (k + 1) W')
    (W : World) (h0 : I 0 W) :
    CallsIn Fence.wide 2 Try.prog 87 #[.func (.yield l) #[] #[], .pointer (some ⟨B, 0, none⟩), .pointer (some ⟨B + 1, 0, none⟩)] W fun e W' => (∃ v, e = .returned v) ∧ I (Jo.many len) W' := by
  refine callsIn_of_wp Try.func87 rfl trivial ?_ rfl
  simp only [Try.ntmps87, List.size_toArray, List.length_cons, List.length_nil, Nat.reduceAdd, Nat.reduceSub, Array.replicate_succ, Array.replicate_zero, List.push_toArray, List.append_toArray, List.nil_append, List.cons_append]
  gi_wp2
  gi_loopw [4] (fun i wr => ∃ k : Nat, i = .int .i64 ((31 * k : Nat) : Int) ∧ k ≤ Jo.many len ∧ I k wr) (fun i _ => len + 31 - (intOf i).toNat)
  case atStart => exact ⟨0, rfl, Nat.zero_le _, h0⟩
  case round =>
    obtain ⟨k, rfl, hk, hIk⟩ := hrel
    obtain ⟨b1, b2⟩ := hI k wr hIk
    have c1 := cell_box b1
    have c2 := cell_box b2
    have hm := Jo.many_le len
    by_cases hlt : 31 * k < len
    · have i0 : ((31 * k : Nat) : Int) < len := by omega
      have i1 : (0 : Int) ≤ ((31 * k : Nat) : Int) := by omega
      have i2 : ((31 * k : Nat) : Int) ≤ len := by omega
      have i3 : ((31 * k : Nat) : Int) ≤ cap := by omega
      have i4 : (len : Int) ≤ cap := by omega
      have HK : Hid (k + 1 ≤ Jo.many len) := by show _ ≤ _; omega
      have HQ : Hid (31 * (k + 1) = 31 * k + 31) := by show _ = _; omega
      have hY' := hY k wr.drew hlt (hd _ _ hIk)
      by_cases hA : 31 ≤ len - 31 * k
      · rw [Nat.min_eq_left hA] at hY'
        obtain ⟨fn, tmps, assign, body, hy, hR⟩ := hY'
        have HR := hid hR
        have eA : (((31 * k : Nat) : Int) + 31).toNat - 31 * k = 31 := by omega
        have hA' : (31 : Int) ≤ ((len - 31 * k : Nat) : Int) := by omega
        have e3 : ((31 * k : Nat) : Int) + 31 ≤ len := by omega
        have e4 : ((31 * k : Nat) : Int) + 31 ≤ cap := by omega
        clear hR
        generalize 31 * k = q at *
        gi_wp2_with fail
        gi_region
        gi_wp2
        refine HR.out.mono ?_
        rintro _ W3 ⟨rfl, hI3⟩
        obtain ⟨d1, d2⟩ := hI _ _ hI3
        have f1 := cell_box d1
        have f2 := cell_box d2
        gi_wp2
        go_roundw
        case rel => exact ⟨k + 1, by rw [HQ.out]; go_num, HK.out, hI3⟩
        case measure => simp [intOf]; omega
      · rw [Nat.min_eq_right (by omega)] at hY'
        obtain ⟨fn, tmps, assign, body, hy, hR⟩ := hY'
        have HR := hid hR
        have eA : (((31 * k : Nat) : Int) + ((len - 31 * k : Nat) : Int)).toNat - 31 * k = len - 31 * k := by omega
        have hA' : ((len - 31 * k : Nat) : Int) < 31 := by omega
        have hA2 : ((len - 31 * k : Nat) : Int) ≤ 31 := by omega
        have e3 : ((31 * k : Nat) : Int) + ((len - 31 * k : Nat) : Int) ≤ len := by omega
        have e4 : ((31 * k : Nat) : Int) + ((len - 31 * k : Nat) : Int) ≤ cap := by omega
        clear hR
        generalize 31 * k = q at *
        gi_wp2_with fail
        gi_region
        gi_wp2
        refine HR.out.mono ?_
        rintro _ W3 ⟨rfl, hI3⟩
        obtain ⟨d1, d2⟩ := hI _ _ hI3
        have f1 := cell_box d1
        have f2 := cell_box d2
        gi_wp2
        go_roundw
        case rel => exact ⟨k + 1, by rw [HQ.out]; go_num, HK.out, hI3⟩
        case measure => simp [intOf]; omega
    · have ek : k = Jo.many len := by omega
      have i0 : ¬ ((31 * k : Nat) : Int) < len := by omega
      have HI : Hid (I (Jo.many len) wr) := ek ▸ hIk
      clear hIk ek hm hk hY hd hI
      generalize 31 * k = q at *
      gi_wp2
      exact body_end (by kernel_rfl) rfl ⟨⟨_, rfl⟩, HI.out⟩
end Go.Proofs.Ytfmkgflhgapeoab
namespace Go.Proofs.Ytfmkgflhgapeoab
open Go.RowKit Go.ChangeShapes Go.WideShapes Go.ChangeAt Go.Maps Go.Shelf
attribute [local go_sem] Oper.semAt_some
set_option linter.unusedVariables false
set_option linter.unusedSimpArgs false
set_option maxHeartbeats 400000 in
theorem chunk_c (a : Option Addr) (len cap : Nat) (w : World) :
    Calls Try.prog 69 #[.slice a len cap, .int .i64 31] w fun e w' => e = .returned (.func (.func 87) #[] #[.pointer (some ⟨w.heap.size, 0, none⟩), .pointer (some ⟨w.heap.size + 1, 0, none⟩)]) ∧ w' = (w.alloc (.cells #[.slice a len cap] 31)).alloc (.cells #[.int .i64 31] 3) := by
  go_enter Try.func69, Try.ntmps69
  go_wp2
  go_ret
  exact ⟨rfl, rfl⟩
def scells (ss : List (List Int)) : List Value := ss.flatMap (·.map by8)
theorem scells_len {ss : List (List Int)} (h : ∀ s ∈ ss, s.length = 32) : (scells ss).length = ss.length * 32 := by
  induction ss with
  | nil => rfl
  | cons s ss ih =>
    have h1 := h s (by simp)
    have h2 := ih fun u hu => h u (by simp [hu])
    unfold scells at h2 ⊢
    simp only [List.flatMap_cons, List.length_append, List.length_map, List.length_cons, h1, h2]
    omega
theorem scells_snoc (ss : List (List Int)) (s : List Int) : scells (ss ++ [s]) = scells ss ++ s.map by8 := by unfold scells; simp
theorem jfold_fill (off : Nat) : ∀ (l : List Value) (k : Nat) (cs : Array Value), off + k + l.length ≤ cs.size →
    (l.zipIdx k).foldl (fun cs (p : Value × Nat) => cs.setIfInBounds (off + p.2) p.1) cs = (cs.toList.take (off + k) ++ l ++ cs.toList.drop (off + k + l.length)).toArray
  | [], k, cs, h => by simp
  | v :: l, k, cs, h => by
    rw [List.zipIdx_cons, List.foldl_cons, jfold_fill off l (k + 1) _ (by simp at h ⊢; omega)]
    congr 1
    rw [Array.toList_setIfInBounds]
    simp only [List.length_cons] at h ⊢
    rw [List.take_set, List.drop_set_of_lt (by omega)]
    have e : off + (k + 1) = (off + k) + 1 := by omega
    have hlt : off + k < cs.toList.length := by simp; omega
    rw [e, List.take_succ_eq_append_getElem hlt, List.set_append, if_neg (by rw [List.length_take]; omega), List.length_take]
    have : off + k - min (off + k) cs.toList.length = 0 := by omega
    rw [this]
    simp
    congr 1
    omega
theorem jfill_at (off : Nat) (v cs : Array Value) (h : off + v.size ≤ cs.size) : v.zipIdx.foldl (fun cs (p : Value × Nat) => cs.setIfInBounds (off + p.2) p.1) cs = (cs.toList.take off ++ v.toList ++ cs.toList.drop (off + v.size)).toArray := by
  have := jfold_fill off v.toList 0 cs (by simpa using h)
  simp only [Nat.add_zero, Array.length_toList] at this
  rw [← this]
  rw [← Array.foldl_toList, Array.toList_zipIdx]
theorem jrun_slice1 {t e : TypeId} {n : Nat} {z : Value} (ht : Try.prog.underlying t = some (.slice e)) (hn : ∀ w, (sizeOf e).run Try.prog w = .ok n w) (hz : ∀ w, (zeroValue e).run Try.prog w = .ok z w) (h0 : 0 < n) (h1 : n ≤ 16777216) (cs : Array Value) (hc : cs.size = n) (w : World) :
    (Instr.buildSlice t 1 #[(0, .agg cs)]).run Try.prog w = .ok (.slice (some ⟨w.heap.size, 0, none⟩) 1 1) (w.alloc (.cells cs e)) := by
  have e2 : ∀ xs : Array Value, xs.size = n → cs.zipIdx.foldl (fun cs (p : Value × Nat) => cs.setIfInBounds (0 + p.2) p.1) xs = cs := by
    intro xs hx
    rw [jfill_at 0 cs xs (by omega)]
    apply Array.ext'
    simp [hc, hx]
  have e3 : ∀ xs : Array Value, xs.size = n → Array.foldl (fun cs (p : Value × Nat) => cs.setIfInBounds p.2 p.1) xs cs.zipIdx 0 n = cs := fun xs hx => by
    have h := e2 xs hx
    rw [Array.size_zipIdx, hc] at h
    simpa using h
  have h2 : ¬ n = 0 := by omega
  have h3 : ¬ 16777216 < n := by omega
  simp only [Instr.buildSlice, Sem.run_bind, run_underlying ht, hn, Result.andThen_ok]
  simp [h2, h3, hz, Instr.fill, Value.cells, hc, e3, Result.andThen, newRow, go_sem]
theorem fill_sec (X Y : Array Value) (hX : X.size = 32) (hY : Y.size = 32) : Array.foldl (fun cs (x : Value × Nat) => cs.setIfInBounds x.snd x.fst) Y X.zipIdx 0 32 = X := by
  have h : X.zipIdx.foldl (fun cs (p : Value × Nat) => cs.setIfInBounds (0 + p.2) p.1) Y = X := by
    rw [jfill_at 0 X Y (by omega)]
    apply Array.ext'
    simp [hX, hY]
  rw [Array.size_zipIdx, hX] at h
  simpa using h
theorem sizeSw (w : World) : (sizeOf 34).run Try.prog w = .ok 32 w := by
  have h := sizeS
  cases hi : Try.prog.info? 34 with
  | none => rw [hi] at h; cases h
  | some i => rw [hi] at h; simp at h; simp [sizeOf, typeInfo, hi, h]
theorem infoSec : ∃ i : TypeInfo, Try.prog.info? 34 = some i ∧ i.zero = some (secV zsec) ∧ i.size = 32 ∧ i.bytes = 32 := by
  have h : (Try.prog.info? 34).map (fun i => (i.zero, i.size, i.bytes)) = some (some (secV zsec), 32, 32) := by kernel_rfl
  cases hi : Try.prog.info? 34 with
  | none => rw [hi] at h; cases h
  | some i => rw [hi] at h; simp at h; exact ⟨i, rfl, h.1, h.2.1, h.2.2⟩
theorem run_sliceS {s : Sec} (hs : s.length = 32) (w : World) : (Instr.buildSlice 75 1 #[(0, secV s)]).run Try.prog w = .ok (.slice (some ⟨w.heap.size, 0, none⟩) 1 1) (w.alloc (.cells (s.map by8).toArray 34)) :=
  jrun_slice1 (t := 75) (e := 34) Try.underlying75 sizeSw zeroS (by omega) (by omega) (s.map by8).toArray (by simp [hs]) w
section
variable {o : Oper} {a : Act} {w : World}
/-- One sector as a slice. -/
theorem exec_slice1 (x : Operand) (hop : o.op = Op.buildSlice 75 1 #[(0, x)]) (s : Sec) (hx : a.eval x = secV s) (hs : s.length = 32) :
    (execOp a.eval o).run Try.prog w = .ok (.value (.slice (some ⟨w.heap.size, 0, none⟩) 1 1)) (w.alloc (.cells (s.map by8).toArray 34)) := by
  have e := jrun_slice1 (t := 75) (e := 34) Try.underlying75 sizeSw zeroS (by omega) (by omega) (s.map by8).toArray (by simp [hs]) w
  unfold secV at hx
  simp only [execOp, hop, List.map_toArray, List.map_cons, List.map_nil, hx, Sem.run_bind, e, Result.andThen, Sem.run_pure]
theorem exec_loadS (x : Operand) (hop : o.op = .load 34 x) (g : Nat) (hx : a.eval x = .pointer (some ⟨g, 0, none⟩)) (s : Sec) (hs : s.length = 32) (T : TypeId) (hb : Bx w g T s) :
    (execOp a.eval o).run Try.prog w = .ok (.value (secV s)) w := by
  have hl := run_loadVar_row (P := Try.prog) w g T 34 (s.map by8).toArray (0, 0) _ hb Try.underlying34 rfl (by rw [sizeS]; simp [hs])
  simp only [execOp, hop, hx, Sem.run_bind, Instr.loadAt, Instr.sureAddr, Result.andThen, Sem.run_pure, hl]
  rfl
theorem exec_storeS (x y : Operand) (hop : o.op = .store 34 x y) (g : Nat) (hx : a.eval x = .pointer (some ⟨g, 0, none⟩)) (s : Sec) (hy : a.eval y = secV s) (hs : s.length = 32) (T : TypeId) (c : Array Value) (hb : w.heap[g]? = some (.cells c T (0, 0))) (hc : c.size = 32) :
    (execOp a.eval o).run Try.prog w = .ok .skip (w.setRow g (s.map by8).toArray) := by
  have hl := run_storeVar_row (P := Try.prog) w g T 34 c (s.map by8).toArray hb (by rw [sizeS]; simp [hs]) (by simp [hs, hc]) (secV_one s)
  unfold secV at hy
  simp only [execOp, hop, hx, hy, Sem.run_bind, Instr.storeAt, Instr.sureAddr, Result.andThen, Sem.run_pure, hl]
theorem exec_storeN (x y : Operand) (hop : o.op = .store 34 x y) (H : Nat) (hx : a.eval x = .pointer (some ⟨H, 0, none⟩)) (hH : H = w.heap.size) (s : Sec) (hy : a.eval y = secV s) (hs : s.length = 32) (c : Array Value) (hc : c.size = 32) :
    (execOp a.eval o).run Try.prog (w.alloc (.cells c 34)) = .ok .skip (w.alloc (.cells (s.map by8).toArray 34)) := by
  subst hH
  rw [exec_storeS x y hop w.heap.size hx s hy hs 34 c (heap_alloc_new w _) hc, World.setRow_alloc_new]
theorem exec_copyS (x y : Operand) (hop : o.op = .call { callee := .builtin .copy, args := #[x, y], argTypes := #[31, 31] }) (g : Nat) (hx : a.eval x = .slice (some ⟨g, 1, none⟩) 31 31) (T : TypeId) (s : List Int) (hb : Bx w g T s) (hs : s.length = 32)
    (b off m c : Nat) (zs : List Int) (hy : a.eval y = .slice (some ⟨b, off, none⟩) m c) (hz : IsB w (some ⟨b, off, none⟩) m zs) (hm : m ≤ 31) :
    (execOp a.eval o).run Try.prog w = .ok (.value (goInt m)) (w.setRow g ((put s 1 zs).map by8).toArray) := by
  have hu : (Try.prog.info? 5).map (·.size) = some 1 := by kernel_rfl
  have hl := run_copy_row (P := Try.prog) w 31 31 o.type 5 g 1 31 31 ⟨b, off, none⟩ m c (s.map by8).toArray T (zs.map by8) Try.underlying31 hu hb (by simp [hz.1]; exact (Nat.min_eq_left hm).symm) (isB_news hz) (by simp [hz.1, hs]; omega) (one8 zs)
  simp only [List.length_map, hz.1] at hl
  have e : ((s.map by8).toArray.toList.take 1 ++ zs.map by8 ++ (s.map by8).toArray.toList.drop (1 + m)).toArray = ((put s 1 zs).map by8).toArray := by
    unfold put; simp [hz.1, List.map_take, List.map_drop]
  rw [e] at hl
  simp [execOp, hop, resolve, invoke, builtin, hx, hy, hl, Result.andThen]
theorem exec_copyN (x y : Operand) (hop : o.op = .call { callee := .builtin .copy, args := #[x, y], argTypes := #[31, 31] }) (H : Nat) (hx : a.eval x = .slice (some ⟨H, 1, none⟩) 31 31) (hH : H = w.heap.size) (s : List Int) (hs : s.length = 32)
    (b off m c : Nat) (zs : List Int) (hy : a.eval y = .slice (some ⟨b, off, none⟩) m c) (hz : IsB w (some ⟨b, off, none⟩) m zs) (hm : m ≤ 31) :
    (execOp a.eval o).run Try.prog (w.alloc (.cells (s.map by8).toArray 34)) = .ok (.value (goInt m)) (w.alloc (.cells ((put s 1 zs).map by8).toArray 34)) := by
  subst hH
  rw [exec_copyS x y hop w.heap.size hx 34 s (heap_alloc_new w _) hs b off m c zs hy (hz.later ((Below.refl _ _).alloc (Nat.le_refl _) _)) hm, World.setRow_alloc_new]
end
/-- A step inside a region that draws its order. -/
theorem step_run {P : Program} {w w' : World} {ops : Array Oper} {o : Oper} {a : Act} {K : Act → World → Prop} {Q : Exit → Act → World → Prop} {E : Prop} (hgd : o.guard = none) {v : Value} (hrun : (execOp a.eval o).run P w = .ok (.value v) w') (h : K (a.put o.dst v) w') :
    if Region.wanted o (yielded ops a.tmps) = true then Oper.wp P o a w K Q else E := by
  rw [if_pos (by simp [Region.wanted, hgd])]
  unfold Oper.wp
  rw [hrun]
  exact h
theorem step_append {P : Program} (w : World) {ops : Array Oper} {o : Oper} {a : Act} {K : Act → World → Prop} {Q : Exit → Act → World → Prop} {E : Prop} (hgd : o.guard = none) (s x : Operand) (t : TypeId)
    (ho : o.op = .call { callee := .builtin .append, args := #[s, x], argTypes := #[t, t] })
    (base : Nat) (e : TypeId) (i : TypeInfo) (z : Value) (size bytes : Nat) (ht : P.underlying t = some (.slice e)) (hi : P.info? e = some i) (hz : i.zero = some z)
    (hsize : i.size = size) (hby : i.bytes = bytes) (hzs : z.cells.size = size) (hsz : 0 < size)
    (v : Value) (n : Nat) (xs : List Value) (hs : a.eval s = v) (hown : w.ownsRow base e size v n xs)
    (ad : Addr) (m c : Nat) (news : List Value) (hx : a.eval x = .slice (some ad) m c) (hl : news.length = m * size) (hnews : ∀ j u, news[j]? = some u → w.cell? (ad.add j) = some u) (h1 : ∀ u ∈ news, u.oneCell' = true)
    (h63 : n + m ≤ maxLen) (hbytes : (n + m) * bytes ≤ 140737488355328) (hbase : base ≤ w.heap.size)
    (h : ∀ v' w', w'.ownsRow base e size v' (n + m) (xs ++ news) → w.grownBy w' v.ownBlock → K (a.put o.dst v') w') :
    if Region.wanted o (yielded ops a.tmps) = true then Oper.wp P o a w K Q else E := by
  rw [if_pos (by simp [Region.wanted, hgd])]
  exact wp_append_own w s x t ho base e i z size bytes ht hi hz hsize hby hzs hsz v n xs hs hown ad m c news hx hl hnews h1 h63 hbytes hbase fun v' w' a b _ => h v' w' a b
theorem news_sec {w : World} {B : Nat} {s : List Int} {t : TypeId} {fr : Nat × Nat} (hb : w.heap[B]? = some (.cells (s.map by8).toArray t fr)) : ∀ j u, (s.map by8)[j]? = some u → w.cell? ((⟨B, 0, none⟩ : Addr).add j) = some u := fun j u hu => by
  rw [addr_add, cell_of_row w B _ _ t fr hb]
  simpa using hu
theorem news_X {w : World} {B : Nat} {s : List Int} {t : TypeId} {fr : Nat × Nat} {X : Array Value} (hb : w.heap[B]? = some (.cells X t fr)) (e : X = (s.map by8).toArray) : ∀ j u, (s.map by8)[j]? = some u → w.cell? ((⟨B, 0, none⟩ : Addr).add j) = some u := by
  subst e; exact news_sec hb
theorem put_mark {z : List Int} (h : z.length ≤ 31) : put (markS 68) 1 z = Jo.pad (68 :: z) := by
  unfold put markS Jo.pad
  simp only [List.take_succ_cons, List.take_zero, List.cons_append, List.nil_append, Nat.add_comm 1, List.drop_succ_cons, List.drop_replicate, List.length_cons]
  congr 3
  omega
theorem exec_copyD {o : Oper} {a : Act} {w : World} (x y : Operand) (hop : o.op = .call { callee := .builtin .copy, args := #[x, y], argTypes := #[31, 31] }) (H : Nat) (hx : a.eval x = .slice (some ⟨H, 1, none⟩) 31 31) (hH : H = w.heap.size)
    (b off m c : Nat) (L : List Int) (k : Nat) (hy : a.eval y = .slice (some ⟨b, off, none⟩) m c) (hz : IsB w (some ⟨b, off, none⟩) m (Jo.chunk L k)) (hm : m ≤ 31) :
    (execOp a.eval o).run Try.prog (w.alloc (.cells ((markS 68).map by8).toArray 34)) = .ok (.value (goInt m)) (w.alloc (.cells ((Jo.dataS L k).map by8).toArray 34)) := by
  rw [exec_copyN x y hop H hx hH (markS 68) rfl b off m c (Jo.chunk L k) hy hz hm, put_mark (by rw [hz.1]; exact hm)]
  rfl
end Go.Proofs.Ytfmkgflhgapeoab
namespace Go.Proofs.Ytfmkgflhgapeoab
open Go.RowKit Go.ChangeShapes Go.WideShapes Go.ChangeAt Go.Maps Go.Shelf
attribute [local go_sem] Oper.semAt_some
set_option linter.unusedVariables false
set_option linter.unusedSimpArgs false
/-- What groupSectors has gathered behind k pieces of the load L: the row in its box; the boxes of Chunk, the loop's own. -/
def GI (Z : World) (F : List Int) (L : List Int) (b off lcap : Nat) (R : Obj) (k : Nat) (W : World) : Prop :=
  Below Z.heap.size Z W ∧ Z.heap.size + 6 ≤ W.heap.size ∧
  (∃ v, W.heap[Z.heap.size + 1]? = some (.cells #[v] 75 (0, 0)) ∧ W.ownsRow Z.heap.size 34 32 v (k + 1) (scells (F :: Jo.dataL L k)) ∧ ∀ q, v.ownBlock = some q → q = Z.heap.size ∨ Z.heap.size + 6 ≤ q) ∧
  W.heap[Z.heap.size + 2]? = some (.cells #[.slice (some ⟨b, off, none⟩) L.length lcap] 31 (0, 0)) ∧ W.heap[Z.heap.size + 3]? = some (.cells #[.int .i64 31] 3 (0, 0)) ∧
  W.heap[Z.heap.size + 4]? = some (.deferred (some [])) ∧ W.heap[Z.heap.size + 5]? = some R
theorem GI.drew {Z : World} {F L : List Int} {b off lcap : Nat} {R : Obj} {k : Nat} {W : World} (h : GI Z F L b off lcap R k W) : GI Z F L b off lcap R k W.drew :=
  ⟨⟨h.1.os, h.1.tape, h.1.output, h.1.size, h.1.block⟩, h.2⟩
/-- What one more sector makes of it. -/
theorem GI.next {Z : World} {F L : List Int} {b off lcap : Nat} {R Rb : Obj} {k : Nat} {V V4 w5 : World} {v : Value} {a5 : Option Addr} {n5 c5 : Nat} (h : GI Z F L b off lcap R k V) (hv : ∀ q, v.ownBlock = some q → q = Z.heap.size ∨ Z.heap.size + 6 ≤ q)
    (h4 : ∀ q, q < V.heap.size → q ≠ Z.heap.size + 5 → V4.heap[q]? = V.heap[q]?) (hb4 : V4.heap[Z.heap.size + 5]? = some Rb) (hz4 : V.heap.size ≤ V4.heap.size) (hos : V4.os = V.os ∧ V4.tape = V.tape ∧ V4.output = V.output)
    (hown : w5.ownsRow Z.heap.size 34 32 (.slice a5 n5 c5) (k + 1 + 1) (scells (F :: Jo.dataL L k) ++ (Jo.dataS L k).map by8)) (hg : V4.grownBy w5 v.ownBlock) (hat : (Value.slice a5 n5 c5).ownBlock = v.ownBlock ∨ (Value.slice a5 n5 c5).ownBlock = some V4.heap.size) :
    (w5.setCell ⟨Z.heap.size + 1, 0, none⟩ (.slice a5 n5 c5)).heap[Z.heap.size + 5]? = some Rb ∧ GI Z F L b off lcap R (k + 1) ((w5.setCell ⟨Z.heap.size + 1, 0, none⟩ (.slice a5 n5 c5)).putObj (Z.heap.size + 5) R) := by
  obtain ⟨g1, g2, ⟨v0, g3, g4, g5⟩, g6, g7, g8, g9⟩ := h
  have hz5 := hg.size
  have k5 : ∀ q, q < V.heap.size → q ≠ Z.heap.size → q < Z.heap.size + 6 → q ≠ Z.heap.size + 5 → w5.heap[q]? = V.heap[q]? := fun q h1 h2 h3 h6 => by
    rw [hg.block q (by omega) (fun e => by have := hv q e.symm; omega), h4 q h1 h6]
  have b5 : w5.heap[Z.heap.size + 5]? = some Rb := by
    rw [hg.block _ (by omega) (fun e => by have := hv _ e.symm; omega)]; exact hb4
  have b1 : w5.heap[Z.heap.size + 1]? = some (.cells #[v0] 75 (0, 0)) := by rw [k5 _ (by omega) (by omega) (by omega) (by omega)]; exact g3
  refine ⟨by rw [heap_setCell_other _ _ _ _ (by simp)]; exact b5, ⟨?_, by simp [World.setCell]; omega, ⟨.slice a5 n5 c5, ?_, ?_, ?_⟩, ?_, ?_, ?_, World.putObj_heap_same (by simp [World.setCell]; omega)⟩⟩
  · refine ⟨hg.os.trans (hos.1.trans g1.os), hg.tape.trans (hos.2.1.trans g1.tape), hg.output.trans (hos.2.2.trans g1.output), by simp [World.setCell]; omega, fun q hq => ?_⟩
    rw [World.putObj_heap_other (by omega), heap_setCell_other _ _ _ _ (by simp only; omega), hg.block q (by omega) (fun e => by have := hv q e.symm; omega), h4 q (by omega) (by omega)]
    exact g1.block q hq
  · rw [World.putObj_heap_other (by omega)]; exact heap_setBox _ b1
  · rw [show k + 1 + 1 = (k + 1) + 1 from rfl, Jo.dataL_snoc, show F :: (Jo.dataL L k ++ [Jo.dataS L k]) = (F :: Jo.dataL L k) ++ [Jo.dataS L k] from rfl, scells_snoc]
    refine ⟨hown.1, ?_⟩
    rcases hown.2 with h | ⟨g, cap, cur, e1, e2, e3, e4⟩
    · exact .inl h
    · have hq : g = Z.heap.size ∨ Z.heap.size + 6 ≤ g := by
        have e5 : (Value.slice a5 n5 c5).ownBlock = some g := by rw [e1]; rfl
        rw [e5] at hat
        rcases hat with h | h
        · exact hv g h.symm
        · have := Option.some.inj h; omega
      exact .inr ⟨g, cap, cur, e1, e2, by rw [World.putObj_heap_other (by omega), heap_setCell_other _ _ _ _ (by simp only; omega)]; exact e3, e4⟩
  · intro q hq
    rcases hat with h | h
    · exact hv q (by rw [← h]; exact hq)
    · rw [hq] at h; have := Option.some.inj h; omega
  · rw [World.putObj_heap_other (by omega), heap_setCell_other _ _ _ _ (by simp), k5 _ (by omega) (by omega) (by omega) (by omega)]; exact g6
  · rw [World.putObj_heap_other (by omega), heap_setCell_other _ _ _ _ (by simp), k5 _ (by omega) (by omega) (by omega) (by omega)]; exact g7
  · rw [World.putObj_heap_other (by omega), heap_setCell_other _ _ _ _ (by simp), k5 _ (by omega) (by omega) (by omega) (by omega)]; exact g8
theorem isB_blk {w w' : World} {b off len : Nat} {zs : List Int} (h : IsB w (some ⟨b, off, none⟩) len zs) (hb : w'.heap[b]? = w.heap[b]?) : IsB w' (some ⟨b, off, none⟩) len zs := by
  obtain ⟨h1, h2, h3, h4⟩ := h
  refine ⟨h1, h2, fun hp => ?_, h4⟩
  obtain ⟨b', off', e, hc⟩ := h3 hp
  cases e
  exact ⟨b, off, rfl, fun i hi => by rw [World.cell?_of_block (a := ⟨b, off + i, none⟩) hb]; exact hc i hi⟩
theorem isB_sub {w : World} {b off len : Nat} {zs : List Int} (h : IsB w (some ⟨b, off, none⟩) len zs) (i m : Nat) (him : i + m ≤ len) : IsB w (some ⟨b, off + i, none⟩) m ((zs.drop i).take m) := by
  obtain ⟨h1, h2, h3, h4⟩ := h
  refine ⟨by rw [List.length_take, List.length_drop]; omega, by omega, fun hp => ?_, fun j => ?_⟩
  · obtain ⟨b', off', e, hc⟩ := h3 (by omega)
    cases e
    refine ⟨b, off + i, rfl, fun j hj => ?_⟩
    rw [Nat.add_assoc, hc (i + j) (by omega)]
    simp [List.getD, List.getElem?_take, hj, List.getElem?_drop]
  · have := h4 (i + j)
    by_cases hj : j < m
    · simpa [List.getD, List.getElem?_take, hj, List.getElem?_drop] using this
    · simp [List.getD, List.getElem?_take, hj]
theorem isB_chunk {w : World} {b off : Nat} {L : List Int} (h : IsB w (some ⟨b, off, none⟩) L.length L) (k : Nat) (hk : 31 * k < L.length) : IsB w (some ⟨b, off + 31 * k, none⟩) (min 31 (L.length - 31 * k)) (Jo.chunk L k) := by
  have h1 := isB_sub h (31 * k) (min 31 (L.length - 31 * k)) (by omega)
  have e : (L.drop (31 * k)).take (min 31 (L.length - 31 * k)) = Jo.chunk L k := by
    unfold Jo.chunk
    by_cases hc : 31 ≤ L.length - 31 * k
    · rw [Nat.min_eq_left hc]
    · rw [Nat.min_eq_right (by omega), List.take_of_length_le (by simp), List.take_of_length_le (by simp; omega)]
  rwa [e] at h1
theorem alloc_facts (w : World) (o : Obj) : (w.alloc o).heap.size = w.heap.size + 1 ∧ (∀ q, q < w.heap.size → (w.alloc o).heap[q]? = w.heap[q]?) ∧ (w.alloc o).os = w.os ∧ (w.alloc o).tape = w.tape ∧ (w.alloc o).output = w.output :=
  ⟨by simp, fun q hq => Below.heap_alloc _ _ _ hq, rfl, rfl, rfl⟩
theorem own_far {w w' : World} {base : Nat} {e : TypeId} {size : Nat} {v : Value} {n : Nat} {xs : List Value} (h : w.ownsRow base e size v n xs) (hS : ∀ k, v.ownBlock = some k → w'.heap[k]? = w.heap[k]?) : w'.ownsRow base e size v n xs := by
  refine ⟨h.1, ?_⟩
  rcases h.2 with h | ⟨g, cap, cur, e1, e2, e3, e4⟩
  · exact .inl h
  · exact .inr ⟨g, cap, cur, e1, e2, by rw [hS g (by rw [e1]; rfl)]; exact e3, e4⟩
theorem alloc_below {w w' : World} {B : Nat} (h : w'.heap.size = w.heap.size + 1 ∧ (∀ q, q < w.heap.size → w'.heap[q]? = w.heap[q]?) ∧ w'.os = w.os ∧ w'.tape = w.tape ∧ w'.output = w.output) (hB : B ≤ w.heap.size) : Below B w w' :=
  ⟨h.2.2.1, h.2.2.2.1, h.2.2.2.2, by omega, fun q hq => h.2.1 q (by omega)⟩
theorem layW0 (Z : World) (F L : List Int) (lb lo lcap : Nat) (hS : F.length = 32) :
    ((((Z.alloc (.cells (F.map by8).toArray 34)).alloc (.cells #[.slice (some ⟨Z.heap.size, 0, none⟩) 1 1] 75)).alloc (.cells #[.slice (some ⟨lb, lo, none⟩) L.length lcap] 31)).alloc (.cells #[.int .i64 31] 3)).heap.size = Z.heap.size + 4 ∧
    Below Z.heap.size Z ((((Z.alloc (.cells (F.map by8).toArray 34)).alloc (.cells #[.slice (some ⟨Z.heap.size, 0, none⟩) 1 1] 75)).alloc (.cells #[.slice (some ⟨lb, lo, none⟩) L.length lcap] 31)).alloc (.cells #[.int .i64 31] 3)) ∧
    ((((Z.alloc (.cells (F.map by8).toArray 34)).alloc (.cells #[.slice (some ⟨Z.heap.size, 0, none⟩) 1 1] 75)).alloc (.cells #[.slice (some ⟨lb, lo, none⟩) L.length lcap] 31)).alloc (.cells #[.int .i64 31] 3)).heap[Z.heap.size + 1]? = some (.cells #[.slice (some ⟨Z.heap.size, 0, none⟩) 1 1] 75 (0, 0)) ∧
    ((((Z.alloc (.cells (F.map by8).toArray 34)).alloc (.cells #[.slice (some ⟨Z.heap.size, 0, none⟩) 1 1] 75)).alloc (.cells #[.slice (some ⟨lb, lo, none⟩) L.length lcap] 31)).alloc (.cells #[.int .i64 31] 3)).ownsRow Z.heap.size 34 32 (.slice (some ⟨Z.heap.size, 0, none⟩) 1 1) (0 + 1) (scells (F :: Jo.dataL L 0)) ∧
    ((((Z.alloc (.cells (F.map by8).toArray 34)).alloc (.cells #[.slice (some ⟨Z.heap.size, 0, none⟩) 1 1] 75)).alloc (.cells #[.slice (some ⟨lb, lo, none⟩) L.length lcap] 31)).alloc (.cells #[.int .i64 31] 3)).heap[Z.heap.size + 2]? = some (.cells #[.slice (some ⟨lb, lo, none⟩) L.length lcap] 31 (0, 0)) ∧
    ((((Z.alloc (.cells (F.map by8).toArray 34)).alloc (.cells #[.slice (some ⟨Z.heap.size, 0, none⟩) 1 1] 75)).alloc (.cells #[.slice (some ⟨lb, lo, none⟩) L.length lcap] 31)).alloc (.cells #[.int .i64 31] 3)).heap[Z.heap.size + 3]? = some (.cells #[.int .i64 31] 3 (0, 0)) := by
  have n0 := heap_alloc_new Z (.cells (F.map by8).toArray 34)
  generalize hA : Z.alloc (.cells (F.map by8).toArray 34) = A at *
  have sA : A.heap.size = Z.heap.size + 1 := by rw [← hA]; simp
  have bA : Below Z.heap.size Z A := by rw [← hA]; exact (Below.refl _ _).alloc (Nat.le_refl _) _
  have n1 := heap_alloc_new A (.cells #[.slice (some ⟨Z.heap.size, 0, none⟩) 1 1] 75)
  have bB : Below A.heap.size A (A.alloc (.cells #[.slice (some ⟨Z.heap.size, 0, none⟩) 1 1] 75)) := (Below.refl _ _).alloc (Nat.le_refl _) _
  have sB : (A.alloc (.cells #[.slice (some ⟨Z.heap.size, 0, none⟩) 1 1] 75)).heap.size = Z.heap.size + 2 := by simp; omega
  generalize A.alloc (.cells #[.slice (some ⟨Z.heap.size, 0, none⟩) 1 1] 75) = B at *
  have n2 := heap_alloc_new B (.cells #[.slice (some ⟨lb, lo, none⟩) L.length lcap] 31)
  have bC : Below B.heap.size B (B.alloc (.cells #[.slice (some ⟨lb, lo, none⟩) L.length lcap] 31)) := (Below.refl _ _).alloc (Nat.le_refl _) _
  have sC : (B.alloc (.cells #[.slice (some ⟨lb, lo, none⟩) L.length lcap] 31)).heap.size = Z.heap.size + 3 := by simp; omega
  generalize B.alloc (.cells #[.slice (some ⟨lb, lo, none⟩) L.length lcap] 31) = C at *
  have n3 := heap_alloc_new C (.cells #[.int .i64 31] 3)
  have bD : Below C.heap.size C (C.alloc (.cells #[.int .i64 31] 3)) := (Below.refl _ _).alloc (Nat.le_refl _) _
  have sD : (C.alloc (.cells #[.int .i64 31] 3)).heap.size = Z.heap.size + 4 := by simp; omega
  generalize C.alloc (.cells #[.int .i64 31] 3) = D at *
  rw [sA] at n1
  rw [sB] at n2
  rw [sC] at n3
  refine ⟨sD, ((bA.trans (bB.mono (by omega))).trans (bC.mono (by omega))).trans (bD.mono (by omega)), ?_, ⟨by simp [scells, Jo.dataL, hS], .inr ⟨Z.heap.size, 1, (F.map by8).toArray, rfl, Nat.le_refl _, ?_, Nat.le_refl _, by unfold maxLen; omega, by simp [hS], ?_⟩⟩, ?_, n3⟩
  · rw [bD.block _ (by omega), bC.block _ (by omega)]; exact n1
  · rw [bD.block _ (by omega), bC.block _ (by omega), bB.block _ (by omega)]; exact n0
  · simp [scells, Jo.dataL, hS, List.take_of_length_le]
  · rw [bD.block _ (by omega)]; exact n2
set_option maxRecDepth 20000 in
set_option maxHeartbeats 4000000 in
theorem groupSectors_c (a : Option Addr) (len cap : Nat) (g : Jo.Gr) (t n : Int) (w : World) (h : IsG0 w a len g) (hok : Jo.okG g = true) (ht : 0 ≤ t ∧ t < 4294967296) (hn : 0 ≤ n ∧ n < 4294967296) :
    Calls Try.prog 52 #[.slice a len cap, .int .u32 t, .int .u32 n] w fun e w' => ∃ v, e = .returned v ∧ w'.ownsRow w.heap.size 34 32 v (Jo.laid g t n).length (scells (Jo.laid g t n)) ∧ Below w.heap.size w w' := by
  obtain ⟨o1, o2, o3⟩ := Jo.ok_iff.1 hok
  have hL := Jo.ok_load hok
  have hgl := h.1
  have hby := Jo.bytes_load h.isG.bytes
  have hl8 : (len : Int) ≤ 8 := by omega
  have H := hid h
  have O3 : Hid (∀ j, j < g.length → (g.getD j []).length ≤ 16384) := fun j hj => by have := o3 g[j] (List.getElem_mem hj); simpa [List.getD, hj] using this
  clear h o3
  refine (callsIn_wide (n := 3)).1 ?_
  refine callsIn_of_wp_marks Try.func52 rfl trivial ?_ rfl
  simp only [Try.ntmps52, List.size_toArray, List.length_cons, List.length_nil, Nat.reduceAdd, Nat.reduceSub, Array.replicate_succ, Array.replicate_zero, List.push_toArray, List.append_toArray, List.nil_append, List.cons_append]
  gi_wp2_with fail
  refine ⟨trivial, (callsIn_wide.2 (loadOf_c a len cap g w H.out o2 O3.out)).mono ?_⟩
  rintro _ w1 ⟨v, rfl, hown1, hb1⟩
  obtain ⟨la, lcap, rfl, hI1, hlc, hnil, hin⟩ := own_isB hown1 hby
  clear hown1
  generalize hLd : Jo.loadF g = L at *
  gi_wp2_with fail
  refine ⟨trivial, (callsIn_wide.2 (firstSector_c t n len L.length _ ht hn (by omega) (by omega))).mono ?_⟩
  rintro _ Z ⟨rfl, hbZ⟩
  obtain ⟨lb, lo, rfl, _⟩ := hI1.2.2.1 (by omega)
  have hS := (Jo.first_sct t n (k := len) (by omega) L.length).1
  obtain ⟨F, hF⟩ : ∃ F, F = Jo.firstS t n len L.length := ⟨_, rfl⟩
  rw [← hF] at hS ⊢
  have HF := hid hF
  clear hF
  have hIZ := hid (hI1.later hbZ)
  have hlbZ : lb < Z.heap.size := Nat.lt_of_lt_of_le (hin _ rfl).2 hbZ.size
  gi_wp2_with (first
    | (refine Rg.wpListIn_run (fun _ => trivial) rfl (by intro c hc; cases hc) (exec_slice1 _ rfl F rfl hS) ?_))
  refine ⟨trivial, (callsIn_wide.2 (chunk_c _ _ _ _)).mono ?_⟩
  rintro _ _ ⟨rfl, rfl⟩
  gi_wp2_with fail
  have hW0 := layW0 Z F L lb lo lcap hS
  generalize ((((Z.alloc (.cells (F.map by8).toArray 34)).alloc (.cells #[.slice (some ⟨Z.heap.size, 0, none⟩) 1 1] 75)).alloc (.cells #[.slice (some ⟨lb, lo, none⟩) L.length lcap] 31)).alloc (.cells #[.int .i64 31] 3)) = W0 at *
  obtain ⟨hsz, q1, q2, q3, q4, q5⟩ := hW0
  have zz := zlit
  have zn : ¬ zsec = [] := by decide
  refine Rg.range_go (gf := 87) (lb := #[.pointer (some ⟨Z.heap.size + 2, 0, none⟩), .pointer (some ⟨Z.heap.size + 2 + 1, 0, none⟩)]) (by first | rfl | simp) (enters_of Try.func87 (by kernel_rfl) rfl) (fun W' => ∃ R, GI Z F L lb lo lcap R (Jo.many L.length) W') ?_ ?_
  · intro fn
    generalize hR : Rg.recOf fn _ _ _ _ _ = R
    have h5 : W0.heap.size + 1 = Z.heap.size + 5 := by omega
    have hD1 : ((W0.alloc (.deferred (some []))).alloc (.loop (R .ready))).heap[Z.heap.size + 4]? = some (.deferred (some [])) := by
      rw [Below.heap_alloc _ _ _ (by simp; omega), ← hsz]; exact heap_alloc_new W0 _
    have hL1 : ((W0.alloc (.deferred (some []))).alloc (.loop (R .ready))).heap[Z.heap.size + 5]? = some (.loop (R .ready)) := by
      have := heap_alloc_new (W0.alloc (.deferred (some []))) (.loop (R .ready)); rw [World.size_alloc, h5] at this; exact this
    have hB1 : Below W0.heap.size W0 ((W0.alloc (.deferred (some []))).alloc (.loop (R .ready))) := ((Below.refl _ _).alloc (Nat.le_refl _) _).alloc (by simp) _
    have hz1 : Z.heap.size + 6 ≤ ((W0.alloc (.deferred (some []))).alloc (.loop (R .ready))).heap.size := by simp; omega
    generalize ((W0.alloc (.deferred (some []))).alloc (.loop (R .ready))) = W1 at *
    rw [hsz, show Z.heap.size + 4 + 1 = Z.heap.size + 5 from rfl]
    refine (chunk1_in (Z.heap.size + 5) (Z.heap.size + 2) lb lo L.length lcap (by omega) hlc (GI Z F L lb lo lcap (.loop (R .ready))) (fun k W h => ⟨h.2.2.2.1, h.2.2.2.2.1⟩) (fun k W h => h.drew) ?_ W1 ?_).mono ?_
    · intro k V hk hG
      rw [hsz] at hR
      subst hR
      have hIV : IsB V (some ⟨lb, lo + 31 * k, none⟩) (min 31 (L.length - 31 * k)) (Jo.chunk L k) := isB_chunk (hIZ.out.later hG.1) k hk
      have hcl := Jo.chunk_len L k
      refine Rg.round_go hG.2.2.2.2.2.2 (by rfl) ?_
      gi_wp2
      generalize Obj.loop (Rg.recOf fn _ _ _ _ (Z.heap.size + 4) LoopState.ready) = Rr at *
      generalize Obj.loop (Rg.recOf fn _ _ _ _ (Z.heap.size + 4) LoopState.busy) = Rb at *
      refine ⟨hG.2.2.2.2.2.2, ?_⟩
      have hVz := hG.2.1
      have hp1 : ∀ q, q ≠ Z.heap.size + 5 → (V.putObj (Z.heap.size + 5) Rb).heap[q]? = V.heap[q]? := fun q h => World.putObj_heap_other h
      have hp2 : (V.putObj (Z.heap.size + 5) Rb).heap[Z.heap.size + 5]? = some Rb := World.putObj_heap_same (by omega)
      have hp3 : (V.putObj (Z.heap.size + 5) Rb).heap.size = V.heap.size := by simp
      have hp4 : (V.putObj (Z.heap.size + 5) Rb).os = V.os ∧ (V.putObj (Z.heap.size + 5) Rb).tape = V.tape ∧ (V.putObj (Z.heap.size + 5) Rb).output = V.output := ⟨rfl, rfl, rfl⟩
      generalize V.putObj (Z.heap.size + 5) Rb = V1 at *
      have hIV1 : IsB V1 (some ⟨lb, lo + 31 * k, none⟩) (min 31 (L.length - 31 * k)) (Jo.chunk L k) := isB_blk hIV (hp1 lb (by omega))
      obtain ⟨m, hm⟩ : ∃ m, m = min 31 (L.length - 31 * k) := ⟨_, rfl⟩
      rw [← hm] at hIV1 hcl ⊢
      have hm31 : m ≤ 31 := by omega
      have HIV := hid hIV1
      have HG := hid hG
      clear hm hG hIV hIV1
      gi_wp2_with (first
        | (refine Rg.wpListIn_skip' (fun _ => trivial) rfl (by intro c hc; cases hc) (exec_storeN _ _ rfl _ rfl hp3.symm (markS 68) rfl (by rfl) _ (by simp; decide)) ?_))
      refine ⟨trivial, (CallsIn.inRound _ (callsIn_wide.2 (inside_c V.heap.size _))).mono ?_⟩
      rintro _ _ ⟨rfl, rfl⟩
      obtain ⟨v, hv, hown, hpos⟩ := HG.out.2.2.1
      obtain ⟨i0, hi, hz0, hz1', hz2⟩ := infoSec
      have hmk := Jo.many_le L.length
      have hds := (Jo.data_sct hby k).1
      have hv3 : (V1.alloc (.cells ((Jo.dataS L k).map by8).toArray 34)).heap[Z.heap.size + 1]? = some (.cells #[v] 75 (0, 0)) := by rw [Below.heap_alloc _ _ _ (by omega), hp1 _ (by omega)]; exact hv
      have hb3 : (V1.alloc (.cells ((Jo.dataS L k).map by8).toArray 34)).heap[Z.heap.size + 5]? = some Rb := by rw [Below.heap_alloc _ _ _ (by omega)]; exact hp2
      have hx3 : Bx (V1.alloc (.cells ((Jo.dataS L k).map by8).toArray 34)) V.heap.size 34 (Jo.dataS L k) := by have := heap_alloc_new V1 (.cells ((Jo.dataS L k).map by8).toArray 34); rw [hp3] at this; exact this
      have hk3 : ∀ q, q < V.heap.size → q ≠ Z.heap.size + 5 → (V1.alloc (.cells ((Jo.dataS L k).map by8).toArray 34)).heap[q]? = V.heap[q]? := fun q h1 h2 => by rw [Below.heap_alloc _ _ _ (by omega)]; exact hp1 q h2
      have hz3 : (V1.alloc (.cells ((Jo.dataS L k).map by8).toArray 34)).heap.size = V.heap.size + 1 := by simp; omega
      have ho3 : (V1.alloc (.cells ((Jo.dataS L k).map by8).toArray 34)).os = V.os ∧ (V1.alloc (.cells ((Jo.dataS L k).map by8).toArray 34)).tape = V.tape ∧ (V1.alloc (.cells ((Jo.dataS L k).map by8).toArray 34)).output = V.output := hp4
      have K0 : Hid True := hid trivial
      gi_wp2_with (first
        | (have _q := K0.out; clear _q; refine Rg.wpListIn_run (fun _ => trivial) rfl (by intro c hc; cases hc) (exec_copyD _ _ rfl _ rfl hp3.symm lb (lo + 31 * k) m m L k rfl HIV.out hm31) ?_; generalize (V1.alloc (.cells ((Jo.dataS L k).map by8).toArray 34)) = V3 at *; (have c3 := cell_box hv3); clear K0; (have K1 : Hid True := hid trivial))
        | (have _q := K1.out; clear _q; refine Rg.wpListIn_run (fun _ => trivial) rfl (by intro c hc; cases hc) (exec_loadS _ rfl V.heap.size rfl (Jo.dataS L k) hds 34 hx3) ?_; clear K1; (have K2 : Hid True := hid trivial))
        | (have _q := K2.out; clear _q; refine Rg.wpListIn_run (fun _ => trivial) rfl (by intro c hc; cases hc) (exec_slice1 _ rfl (Jo.dataS L k) rfl hds) ?_; clear K2; (have K3 : Hid True := hid trivial); (have n4 := heap_alloc_new V3 (.cells ((Jo.dataS L k).map by8).toArray 34)); (have A4 := alloc_facts V3 (.cells ((Jo.dataS L k).map by8).toArray 34)); generalize (V3.alloc (.cells ((Jo.dataS L k).map by8).toArray 34)) = V4 at *; (have hown4 := own_far (w' := V4) hown (fun q hq => by have := hpos q hq; have := (hown.lt q hq).2; rw [A4.2.1 q (by omega), hk3 q (by omega) (by omega)])))
        | (have _q := K3.out; clear _q K3; gi_at_builtin; (refine wpListIn_append_own_at _ rfl _ _ 75 rfl Z.heap.size 34 i0 (secV zsec) 32 32 Try.underlying75 hi hz0 hz1' hz2 (by rfl) (by decide) _ _ _ rfl hown4 ⟨V3.heap.size, 0, none⟩ 1 1 ((Jo.dataS L k).map by8) rfl (by simp [hds]) (news_sec n4) (one8 _) (by unfold maxLen; omega) (by omega) (by rw [A4.1]; omega) ?_; intro v' w5 hown5 hgrow5 hnil5 hat5; obtain ⟨a5, cap5, rfl⟩ := own_shape6 hown5; (have N5 := HG.out.next (R := Rr) (Rb := Rb) (V4 := V4) hpos (fun q h1 h2 => by rw [A4.2.1 q (by omega)]; exact hk3 q h1 h2) (by rw [A4.2.1 _ (by omega)]; exact hb3) (by rw [A4.1]; omega) ⟨A4.2.2.1.trans ho3.1, A4.2.2.2.1.trans ho3.2.1, A4.2.2.2.2.trans ho3.2.2⟩ hown5 hgrow5 hat5); (have b5 : w5.heap[Z.heap.size + 1]? = some (.cells #[v] 75 (0, 0)) := by rw [hgrow5.block _ (by rw [A4.1]; omega) (fun e => by have := hpos _ e.symm; omega), A4.2.1 _ (by omega)]; exact hv3); (have c5 := cell_box b5); (have f5 := frozen_box b5))))
    · refine ⟨q1.trans (hB1.mono (by omega)), hz1, ⟨_, by rw [hB1.block _ (by omega)]; exact q2, own_keep q3 (Out.of (S := fun _ => False) hB1) (fun _ _ h => h), fun q e => by cases e; exact .inl rfl⟩, by rw [hB1.block _ (by omega)]; exact q4, by rw [hB1.block _ (by omega)]; exact q5, hD1, hL1⟩
    · rintro e V ⟨he, hG⟩
      exact ⟨he, hG.2.2.2.2.2.2, hG.2.2.2.2.2.1, _, hG⟩
  · rintro W' o ⟨R, hG⟩ hD hl
    rw [hsz] at hD hl ⊢
    obtain ⟨g1, g2, ⟨v, g3, g4, g5⟩, g6, g7, g8, g9⟩ := hG
    have hD2 : (W'.putObj (Z.heap.size + 4 + 1) o).heap[Z.heap.size + 4]? = some (.deferred (some [])) := (World.putObj_heap_other (by omega)).trans hD
    have hv2 : (W'.putObj (Z.heap.size + 4 + 1) o).heap[Z.heap.size + 1]? = some (.cells #[v] 75 (0, 0)) := (World.putObj_heap_other (by omega)).trans g3
    have hown2 : (W'.putObj (Z.heap.size + 4 + 1) o).ownsRow Z.heap.size 34 32 v (Jo.many L.length + 1) (scells (F :: Jo.dataL L (Jo.many L.length))) := own_far g4 (fun q hq => World.putObj_heap_other (by have := g5 q hq; omega))
    have hB2 : Below Z.heap.size Z (W'.putObj (Z.heap.size + 4 + 1) o) := g1.trans ⟨rfl, rfl, rfl, by simp, fun q hq => World.putObj_heap_other (by omega)⟩
    have hz2 : Z.heap.size + 6 ≤ (W'.putObj (Z.heap.size + 4 + 1) o).heap.size := by simp; omega
    clear g1 g2 g3 g4 g6 g7 g8 g9 hD hl
    generalize W'.putObj (Z.heap.size + 4 + 1) o = W2 at *
    have c0 := cell_box hv2
    have hLS := (Jo.last_sct t n).1
    obtain ⟨i0, hi, hz0, hz1', hz2'⟩ := infoSec
    have hmk := Jo.many_le L.length
    obtain ⟨X, hX⟩ : ∃ X, X = ((Jo.lastS t n).map by8).toArray := ⟨_, rfl⟩
    have hXs : X.size = 32 := by rw [hX]; simp [hLS]
    have hXf := fun Y hY => fill_sec X Y hXs hY
    clear zz zn
    have LC := fun w => lastSector_c t n w ht hn
    unfold secV at LC
    rw [← hX] at LC
    have HX := hid hX
    have HLC := hid LC
    clear hX LC
    gi_wp2_with fail
    refine wpIn_wide.2 ?_
    go_region_held3 (fun w' => w'.cell? ⟨Z.heap.size + 1, 0, none⟩ = some v) (first | exact cell_box K8 | exact cell_box K7 | exact cell_box K6 | go_keep)
      (first
        | (go_at_call 71; refine (HLC.out _).mono ?_; rintro e w6 ⟨rfl, hb6⟩; (have K6 : w6.heap[Z.heap.size + 1]? = some (.cells #[v] 75 (0, 0)) := by rw [hb6.block _ (by show _ < W2.heap.size; omega)]; exact hv2); (have B6 : Below W2.heap.size W2 w6 := ((Below.refl _ W2).drew).trans hb6); (have n7 := news_X (heap_alloc_new w6 (.cells X 34)) HX.out); (have A7 := alloc_facts w6 (.cells X 34)); (have K7 : (w6.alloc (.cells X 34)).heap[Z.heap.size + 1]? = some (.cells #[v] 75 (0, 0)) := by rw [A7.2.1 _ (by have := B6.size; omega)]; exact K6); (have hown7 : (w6.alloc (.cells X 34)).ownsRow Z.heap.size 34 32 v (Jo.many L.length + 1) (scells (F :: Jo.dataL L (Jo.many L.length))) := own_far hown2 (fun q hq => by have := (hown2.lt q hq).2; rw [A7.2.1 q (by have := B6.size; omega), B6.block q (by omega)])))
        | (refine step_append _ (by rfl) _ _ 75 (by rfl) Z.heap.size 34 i0 (secV zsec) 32 32 Try.underlying75 hi hz0 hz1' hz2' (by rfl) (by decide) _ _ _ (by rfl) hown7 ⟨w6.heap.size, 0, none⟩ 1 1 ((Jo.lastS t n).map by8) (by rfl) (by simp [hLS]) n7 (one8 _) (by unfold maxLen; omega) (by omega) (by rw [A7.1]; have := B6.size; omega) ?_; intro v8 w8 hown8 hgrow8; (have K8 : w8.heap[Z.heap.size + 1]? = some (.cells #[v] 75 (0, 0)) := by rw [hgrow8.block _ (by rw [A7.1]; have := B6.size; omega) (fun e => by have := g5 _ e.symm; omega)]; exact K7); obtain ⟨a8, cap8, rfl⟩ := own_shape6 hown8))
    gi_wp2
    have B8 : Below Z.heap.size Z w8 := below_grown ((hB2.trans (B6.mono (by omega))).trans (alloc_below A7 (by have := B6.size; omega))) hown7 (Nat.le_refl _) (by rw [A7.1]; have := B6.size; omega) hgrow8
    have hD8 : w8.heap[Z.heap.size + 4]? = some (.deferred (some [])) := by
      rw [hgrow8.block _ (by rw [A7.1]; have := B6.size; omega) (fun e => by have := g5 _ e.symm; omega), A7.2.1 _ (by have := B6.size; omega), B6.block _ (by omega)]; exact hD2
    refine ⟨by simp, .inl ⟨_, _, rfl, run_takeDeferred hD8, ?_⟩⟩
    refine ⟨_, results_tmp rfl _ _ _, _, rfl, ?_, ?_⟩
    · have e : scells (Jo.laid g t n) = scells (F :: Jo.dataL L (Jo.many L.length)) ++ (Jo.lastS t n).map by8 := by
        rw [← scells_snoc, HF.out]
        unfold Jo.laid
        rw [hLd, hgl]
        rfl
      have e2 : (Jo.laid g t n).length = Jo.many L.length + 1 + 1 := by rw [Jo.laid_len, hLd]; unfold Jo.secsOf; omega
      rw [e, e2]
      have hZw : w.heap.size ≤ Z.heap.size := Nat.le_trans hb1.size hbZ.size
      refine ⟨hown8.1, ?_⟩
      rcases hown8.2 with h | ⟨q, cap', cur, e1, e2', e3, e4⟩
      · exact .inl h
      · refine .inr ⟨q, cap', cur, e1, by omega, ?_, e4⟩
        have hne : q ≠ Z.heap.size + 4 := fun e => by rw [e, hD8] at e3; cases e3
        rw [World.putObj_heap_other hne]; exact e3
    · exact (hb1.trans (hbZ.mono hb1.size)).trans ((B8.mono (Nat.le_trans hb1.size hbZ.size)).trans ⟨rfl, rfl, rfl, by simp, fun q hq => World.putObj_heap_other (by have := hb1.size; have := hbZ.size; omega)⟩)
end Go.Proofs.Ytfmkgflhgapeoab
namespace Go.Proofs.Ytfmkgflhgapeoab
open Go.RowKit Go.ChangeShapes Go.WideShapes Go.ChangeAt Go.Maps
set_option linter.unusedVariables false
set_option linter.unusedSimpArgs false
/-- A slice of sectors. -/
def IsSS (w : World) (a : Option Addr) (n : Nat) (ss : List (List Int)) : Prop :=
  ss.length = n ∧ n ≤ 100000 ∧ (∀ s ∈ ss, Jo.Sct s) ∧ (0 < n → ∃ b off, a = some ⟨b, off, none⟩ ∧ ∀ i, i < n → w.rangeAt b (off + i * 32) ((ss.getD i []).map by8))
theorem range_later {w w' : World} {b off : Nat} {l : List Value} (h : w.rangeAt b off l) (hb : Below w.heap.size w w') : w'.rangeAt b off l := fun j v hv => cell_later hb (h j v hv)
theorem IsSS.later {w w' : World} {a : Option Addr} {n : Nat} {ss : List (List Int)} (h : IsSS w a n ss) (hb : Below w.heap.size w w') : IsSS w' a n ss := by
  obtain ⟨h1, h2, h3, h4⟩ := h
  refine ⟨h1, h2, h3, fun hp => ?_⟩
  obtain ⟨b, off, e, hc⟩ := h4 hp
  exact ⟨b, off, e, fun i hi => range_later (hc i hi) hb⟩
theorem IsSS.at {w : World} {b off n : Nat} {ss : List (List Int)} (h : IsSS w (some ⟨b, off, none⟩) n ss) (i : Nat) (hi : i < n) : w.rangeAt b (off + i * 32) ((ss.getD i []).map by8) ∧ Jo.Sct (ss.getD i []) := by
  obtain ⟨h1, h2, h3, h4⟩ := h
  obtain ⟨b', off', e, hc⟩ := h4 (by omega)
  cases e
  exact ⟨hc i hi, h3 _ (by rw [List.getD, List.getElem?_eq_getElem (by omega)]; exact List.getElem_mem (by omega))⟩
/-- Sectors from the i-th on. -/
theorem IsSS.sub {w : World} {b off n : Nat} {ss : List (List Int)} (h : IsSS w (some ⟨b, off, none⟩) n ss) (i m : Nat) (him : i + m ≤ n) : IsSS w (some ⟨b, off + i * 32, none⟩) m ((ss.drop i).take m) := by
  have h0 := h
  obtain ⟨h1, h2, h3, h4⟩ := h
  refine ⟨by simp; omega, by omega, fun s hs => h3 s (List.mem_of_mem_drop (List.mem_of_mem_take hs)), fun hp => ⟨b, off + i * 32, rfl, fun j hj => ?_⟩⟩
  have e : ((ss.drop i).take m).getD j [] = ss.getD (i + j) [] := by simp [List.getD, List.getElem?_take, hj, List.getElem?_drop]
  rw [e, show off + i * 32 + j * 32 = off + (i + j) * 32 by omega]
  exact (h0.at (i + j) (by omega)).1
theorem scells_get {ss : List (List Int)} (h : ∀ s ∈ ss, s.length = 32) : ∀ i, i < ss.length → ∀ j, j < 32 → (scells ss)[i * 32 + j]? = ((ss.getD i []).map by8)[j]? := by
  induction ss with
  | nil => intro i hi; simp at hi
  | cons s ss ih =>
    intro i hi j hj
    have h1 := h s (by simp)
    have e : scells (s :: ss) = s.map by8 ++ scells ss := rfl
    rw [e]
    cases i with
    | zero => rw [List.getElem?_append_left (by simp [h1]; omega)]; simp
    | succ i =>
      rw [List.getElem?_append_right (by simp [h1]; omega)]
      have := ih (fun u hu => h u (by simp [hu])) i (by simpa using hi) j hj
      simp only [List.length_map, h1]
      rw [show (i + 1) * 32 + j - 32 = i * 32 + j by omega, this]
      simp
/-- What is read of a row of sectors that was made here. -/
theorem own_isSS {w : World} {base : Nat} {v : Value} {ss : List (List Int)} (h : w.ownsRow base 34 32 v ss.length (scells ss)) (hs : ∀ s ∈ ss, Jo.Sct s) (hm : ss.length ≤ 100000) : ∃ a cap, v = .slice a ss.length cap ∧ IsSS w a ss.length ss ∧ ss.length ≤ cap ∧ (∀ q, a = some q → base ≤ q.block ∧ q.block < w.heap.size) := by
  have hlt := h.lt
  rcases h with ⟨hl, ⟨rfl, hn⟩ | ⟨g, cap, cur, rfl, hg, hbk, hnc, hcm, hcs, ht⟩⟩
  · exact ⟨none, 0, by rw [hn], ⟨rfl, hm, hs, fun hp => by omega⟩, by omega, fun q e => by cases e⟩
  · refine ⟨some ⟨g, 0, none⟩, cap, rfl, ⟨rfl, hm, hs, fun hp => ⟨g, 0, rfl, fun i hi => ?_⟩⟩, hnc, fun q e => by cases e; exact hlt g rfl⟩
    intro j v hv
    have hj : j < 32 := by
      have h1 := (List.getElem?_eq_some_iff.1 hv).1
      have h2 := (hs (ss.getD i []) (by rw [List.getD, List.getElem?_eq_getElem hi]; exact List.getElem_mem hi)).1
      rw [List.length_map, h2] at h1; exact h1
    rw [cell_of_row w g _ cur 34 (0, 0) hbk]
    have e1 : (cur.toList.take (ss.length * 32))[i * 32 + j]? = (scells ss)[i * 32 + j]? := by rw [ht]
    rw [List.getElem?_take, if_pos (by omega)] at e1
    rw [Nat.zero_add, ← Array.getElem?_toList, e1, scells_get (fun s h => (hs s h).1) i hi j hj]
    exact hv
theorem secEqIn (w : World) {s u : Sec} (hs : IsSec s) (hu : IsSec u) : (Op.equalIn 10000 34 (.agg (s.map by8).toArray) (.agg (u.map by8).toArray)).run Try.prog w = .ok (s == u) w := by
  have e4 := secEq (P := Try.prog) w 34 5 Try.underlying34 Try.underlying5 size8 hs hu
  unfold secV at e4
  rw [run_eql_struct] at e4
  cases hR : (Op.equalIn 10000 34 (.agg (s.map by8).toArray) (.agg (u.map by8).toArray)).run Try.prog w with
  | ok b w' =>
    rw [hR] at e4
    simp [Result.andThen] at e4
    rw [e4.1, e4.2]
  | halt h w' =>
    rw [hR] at e4
    simp [Result.andThen] at e4
theorem qload {o : Oper} {a : Act} {C : World → Prop} {w : World} {v : Value} (x : Operand) (T : TypeId) (p : Value) (hop : o.op = .load T x) (hx : a.eval x = p) (hl : (Instr.loadAt T p).run Try.prog w = .ok v w) (hC : C w) : o.quietAt Try.prog a C w v := by
  unfold Oper.quietAt
  simp only [execOp, hop, hx, Sem.run_bind, hl, Result.andThen, Sem.run_pure]
  exact ⟨rfl, rfl⟩
theorem secNeq (w : World) {s u : Sec} (hs : IsSec s) (hu : IsSec u) : (binOp .neq 34 (secV s) (secV u)).run Try.prog w = .ok (.bool (!(s == u))) w := by
  unfold secV
  rw [run_neq_struct, secEqIn w hs hu]
  rfl
theorem qneq {o : Oper} {a : Act} {C : World → Prop} {w : World} (x y : Operand) (t : TypeId) (s u : Sec) (hop : o.op = .binOp .neq 34 x y t) (hx : a.eval x = secV s) (hy : a.eval y = secV u) (hs : IsSec s) (hu : IsSec u) (b : Bool) (hb : (s == u) = b) (hC : C w) : o.quietAt Try.prog a C w (.bool (!b)) := by
  have e1 := secNeq w hs hu
  have e2 : (eqGuard .neq 34 x y (secV s) (secV u)).run Try.prog w = .ok () w := run_eqGuard_agg w .neq 34 x y _ _ guardS
  unfold Oper.quietAt
  simp only [execOp, hop, hx, hy, Sem.run_bind, e1, e2, Result.andThen, Sem.run_pure, hb]
  exact ⟨rfl, rfl⟩
theorem qsec {w : World} {b o : Nat} {s : List Int} (h : w.rangeAt b o (s.map by8)) (hs : s.length = 32) : (Instr.loadAt 34 (.pointer (some ⟨b, o, none⟩))).run Try.prog w = .ok (secV s) w :=
  run_loadAt_mid w b o 34 (s.map by8) _ h Try.underlying34 rfl (by rw [sizeS]; simp [hs])
theorem sct_sec {s : List Int} (h : Jo.Sct s) : IsSec s := ⟨h.1, h.2⟩
theorem take_eq_snoc {A B : List (List Int)} {k : Nat} (h : A.take k = B.take k) (hA : k < A.length) (hB : k < B.length) (e : A.getD k [] = B.getD k []) : A.take (k + 1) = B.take (k + 1) := by
  rw [List.take_succ_eq_append_getElem hA, List.take_succ_eq_append_getElem hB, h]
  simp [List.getD, hA, hB] at e
  rw [e]
set_option maxRecDepth 20000 in
set_option maxHeartbeats 2000000 in
theorem equal_c (b off n cap : Nat) (b' off' n' cap' : Nat) (ss tt : List (List Int)) (w : World) (h : IsSS w (some ⟨b, off, none⟩) n ss) (h' : IsSS w (some ⟨b', off', none⟩) n' tt) :
    Calls Try.prog 76 #[.slice (some ⟨b, off, none⟩) n cap, .slice (some ⟨b', off', none⟩) n' cap'] w fun e w' => e = .returned (.bool (ss == tt)) ∧ Below w.heap.size w w' := by
  have l1 := h.1
  have l2 := h'.1
  have m1 := h.2.1
  have m2 := h'.2.1
  by_cases hn : n = n'
  · subst hn
    have H := hid h
    have H' := hid h'
    have L1 := hid l1
    have L2 := hid l2
    clear h h' l1 l2
    go_enter Try.func76, Try.ntmps76
    go_wp2
    go_loopw [13] (fun i wr => ∃ k : Nat, k ≤ n ∧ i = .int .i64 k ∧ ss.take k = tt.take k ∧ Below w.heap.size w wr) (fun i _ => n - (intOf i).toNat)
    case atStart => exact ⟨0, Nat.zero_le _, rfl, rfl, Below.refl _ _⟩
    case round =>
      obtain ⟨k, hk, rfl, heq, hB⟩ := hrel
      have HE := hid heq
      have HB := hid hB
      clear heq hB
      by_cases hlt : k < n
      · obtain ⟨r1, s1⟩ := (H.out.later HB.out).at k hlt
        obtain ⟨r2, s2⟩ := (H'.out.later HB.out).at k hlt
        have hsn := hid (fun e => take_eq_snoc HE.out (by rw [L1.out]; exact hlt) (by rw [L2.out]; exact hlt) e)
        have hne : Hid (ss.getD k [] ≠ tt.getD k [] → ss ≠ tt) := fun hne e => hne (by rw [e])
        have R1 := hid r1
        have R2 := hid r2
        have S1 := hid s1
        have S2 := hid s2
        clear r1 r2 s1 s2
        generalize ss.getD k [] = S at *
        generalize tt.getD k [] = T at *
        cases hST : (S == T) with
        | true =>
          have HST := hid hST
          clear hST
          go_wp2_with fail
          refine wp_region_class (by kernel_rfl) (by kernel_rfl) ?_
          repeat (first
            | go_big_quiet_skip
            | (go_big_quiet_want
               apply quiet_by
               · intro w1 hw1
                 exact qload _ 34 _ rfl rfl (qsec (range_later R1.out hw1) S1.out.1) hw1
               · go_simp; rfl
               go_big_quiet_on)
            | (go_big_quiet_want
               apply quiet_by
               · intro w1 hw1
                 exact qload _ 34 _ rfl rfl (qsec (range_later R2.out hw1) S2.out.1) hw1
               · go_simp; rfl
               go_big_quiet_on)
            | (go_big_quiet_want
               apply quiet_by
               · intro w1 hw1
                 exact qneq _ _ _ S T rfl rfl rfl (sct_sec S1.out) (sct_sec S2.out) _ HST.out hw1
               · go_simp; rfl
               go_big_quiet_on)
            | (go_big_quiet_want
               apply quiet_by
               · intro w1 hw1
                 go_simp
                 rfl
               · go_simp; rfl
               go_big_quiet_on))
          refine wpQuiet_nil ?_
          intro w12 hw12
          go_wp2
          go_roundw
          case rel => exact ⟨k + 1, by omega, by go_num, hsn.out (by simpa using HST.out), HB.out.trans (hw12.mono HB.out.size)⟩
          case measure => simp [intOf]; omega
        | false =>
          have HN := hid (hne.out (by simpa using hST))
          have HST := hid hST
          clear hST
          go_wp2_with fail
          refine wp_region_class (by kernel_rfl) (by kernel_rfl) ?_
          repeat (first
            | go_big_quiet_skip
            | (go_big_quiet_want
               apply quiet_by
               · intro w1 hw1
                 exact qload _ 34 _ rfl rfl (qsec (range_later R1.out hw1) S1.out.1) hw1
               · go_simp; rfl
               go_big_quiet_on)
            | (go_big_quiet_want
               apply quiet_by
               · intro w1 hw1
                 exact qload _ 34 _ rfl rfl (qsec (range_later R2.out hw1) S2.out.1) hw1
               · go_simp; rfl
               go_big_quiet_on)
            | (go_big_quiet_want
               apply quiet_by
               · intro w1 hw1
                 exact qneq _ _ _ S T rfl rfl rfl (sct_sec S1.out) (sct_sec S2.out) _ HST.out hw1
               · go_simp; rfl
               go_big_quiet_on)
            | (go_big_quiet_want
               apply quiet_by
               · intro w1 hw1
                 go_simp
                 rfl
               · go_simp; rfl
               go_big_quiet_on))
          refine wpQuiet_nil ?_
          intro w12 hw12
          go_wp2
          go_ret
          exact ⟨ret_bool (by have := HN.out; simp [this]), HB.out.trans (hw12.mono HB.out.size)⟩
      · have e : ss = tt := by
          have e1 : ss.take k = ss := List.take_of_length_le (by rw [L1.out]; omega)
          have e2 : tt.take k = tt := List.take_of_length_le (by rw [L2.out]; omega)
          rw [← e1, ← e2]; exact HE.out
        have E := hid e
        clear e
        go_wp2
        go_ret
        exact ⟨ret_bool (by rw [E.out]; simp), HB.out⟩
  · have hn' : ((n : Int) == (n' : Int)) = false := by simp; omega
    have hn2 : ¬ (n : Int) = n' := by omega
    have E : Hid ((ss == tt) = false) := by
      show _ = _
      simp only [beq_eq_false_iff_ne]
      intro e; apply hn; rw [← l1, ← l2, e]
    clear h h' l1 l2
    go_enter Try.func76, Try.ntmps76
    go_wp2
    go_ret
    exact ⟨ret_bool E.out.symm, Below.refl _ _⟩
end Go.Proofs.Ytfmkgflhgapeoab
namespace Go.Proofs.Ytfmkgflhgapeoab
open Go.RowKit Go.ChangeShapes Go.WideShapes Go.ChangeAt Go.Maps
set_option linter.unusedVariables false
set_option linter.unusedSimpArgs false
def flatL (ss : List (List Int)) : List Int := (ss.map (List.drop 1)).flatten
theorem flatL_take {ss : List (List Int)} {k : Nat} (h : k < ss.length) : flatL (ss.take (k + 1)) = flatL (ss.take k) ++ (ss.getD k []).drop 1 := by
  unfold flatL; rw [List.take_succ_eq_append_getElem h, List.map_append, List.flatten_append]; simp [List.getD, h]
theorem flatL_len {ss : List (List Int)} (h : ∀ s ∈ ss, Jo.Sct s) : (flatL ss).length = 31 * ss.length := by
  induction ss with
  | nil => rfl
  | cons s ss ih =>
    have h1 := (h s (by simp)).1
    have h2 := ih fun u hu => h u (by simp [hu])
    unfold flatL at h2 ⊢
    simp only [List.map_cons, List.flatten_cons, List.length_append, List.length_drop, h1, h2, List.length_cons]
    omega
theorem flatL_bytes {ss : List (List Int)} (h : ∀ s ∈ ss, Jo.Sct s) : Jo.Bytes (flatL ss) := Jo.bytes_flat fun l hl => by
  obtain ⟨u, hu, rfl⟩ := List.mem_map.1 hl; exact Jo.bytes_drop (h u hu).2 _
set_option maxRecDepth 20000 in
set_option maxHeartbeats 2000000 in
theorem readLoad_c (a : Option Addr) (n cap len : Nat) (ss : List (List Int)) (w : World) (h : IsSS w a n ss) (hl : len ≤ 31 * n) (hn : n ≤ 5000) :
    Calls Try.prog 75 #[.slice a n cap, .int .i64 len] w fun e w' => ∃ la, e = .returned (.slice la len len) ∧ IsB w' la len (Jo.readL ss len) ∧ (la = none → len = 0) ∧ Below w.heap.size w w' := by
  have H := hid h
  have L1 := hid h.1
  have S3 := hid h.2.2.1
  obtain ⟨i0, hi, hz0, hz1, hz2⟩ := info_parts8
  clear h
  have zz := zlit
  go_enter Try.func75, Try.ntmps75
  go_wp2_with (at_make; refine wpList_make_own _ rfl _ _ 31 rfl w.heap.size 5 i0 _ 1 Try.underlying31 hi hz0 hz1 _ _ _ (31 * n) rfl rfl (by push_cast; omega) (by rw [hz2]; omega) (by unfold maxLen; omega) (Nat.le_refl _) ?_; intro w1 hown0 hgr0)
  have hB0 : Below w.heap.size w w1 := (Below.refl _ _).grown hgr0 (Nat.le_refl _) (fun k hk => by cases hk)
  go_loopw [5, 14] (fun v i wr => ∃ k : Nat, k ≤ n ∧ i = .int .i64 k ∧ wr.ownsRow w.heap.size 5 1 v (flatL (ss.take k)).length ((flatL (ss.take k)).map by8) ∧ Below w.heap.size w wr) (fun _ i _ => n - (intOf i).toNat)
  case atStart => exact ⟨0, Nat.zero_le _, rfl, by simpa [flatL] using hown0, hB0⟩
  case round =>
    obtain ⟨k, hk, rfl, hown, hB⟩ := hrel
    have hBz := hB.size
    have hfl := flatL_len (ss := ss.take k) (fun s hs => S3.out s (List.mem_of_mem_take hs))
    have hkl : (ss.take k).length = k := by rw [List.length_take, L1.out]; omega
    rw [hkl] at hfl
    by_cases hlt : k < n
    · obtain ⟨b, off, rfl, _⟩ := H.out.2.2.2 (by omega)
      obtain ⟨r1, s1⟩ := (H.out.later hB).at k hlt
      have HT := hid (flatL_take (ss := ss) (k := k) (by rw [L1.out]; exact hlt))
      have HO1 := hid hown
      have HB1 := hid hB
      have HF := hid hfl
      clear hown hB
      generalize ss.getD k [] = S at *
      have hi1 : (Try.prog.info? 34).map (·.size) = some (S.map by8).length := by rw [sizeS]; simp [s1.1]
      have hx1 : Bx (wr.alloc (.cells (S.map by8).toArray 34)) wr.heap.size 34 S := heap_alloc_new wr _
      have hIS : IsB (wr.alloc (.cells (S.map by8).toArray 34)) (some ⟨wr.heap.size, 1, none⟩) 31 (S.drop 1) := by
        have := bx_isB hx1 s1.2 1 31 (by rw [s1.1]; omega) (by decide)
        rwa [List.take_of_length_le (by simp [s1.1])] at this
      have hown1 : (wr.alloc (.cells (S.map by8).toArray 34)).ownsRow w.heap.size 5 1 u5 (flatL (ss.take k)).length ((flatL (ss.take k)).map by8) := HO1.out.alloc _
      have hB1 : Below w.heap.size w (wr.alloc (.cells (S.map by8).toArray 34)) := HB1.out.alloc hBz _
      have hz1' : w.heap.size ≤ (wr.alloc (.cells (S.map by8).toArray 34)).heap.size := hB1.size
      have hs32 := s1.1
      clear hx1
      go_wp2_with (first
        | (at_builtin; refine wpList_appendB _ rfl _ _ rfl w.heap.size _ _ _ rfl hown1 (some ⟨wr.heap.size, 1, none⟩) 31 31 (S.drop 1) rfl hIS (fun e => by cases e) (by omega) hz1' ?_; intro v6 w6 hown6 hgrow6)
        | (go_at_call 70; refine (inside_c wr.heap.size _).mono ?_; rintro e w' ⟨rfl, rfl⟩)
        | (refine wpList_load_mid rfl _ _ rfl b (off + k * 32) rfl (S.map by8) _ r1 Try.underlying34 rfl hi1 ?_)
        | (refine wpList_storeS _ rfl _ _ _ rfl sizeS _ rfl (by simp) S rfl hs32 _ (by simp; decide) ?_))
      have B6 : Below w.heap.size w w6 := below_grown hB1 hown1 (Nat.le_refl _) hz1' hgrow6
      obtain ⟨a6, c6, rfl⟩ := own_shape6 hown6
      go_roundw
      case rel => exact ⟨k + 1, by omega, by go_num, by rw [HT.out]; simpa [s1.1] using hown6, B6⟩
      case measure => simp [intOf]; omega
    · have ek : k = n := by omega
      have ht : ss.take k = ss := List.take_of_length_le (by rw [L1.out]; omega)
      rw [ht] at hown hfl
      obtain ⟨la, lc, rfl, hI, hlc, hnil, hin⟩ := own_isB hown (flatL_bytes S3.out)
      have hI2 := hid (hI.front len (by omega))
      have HB := hid hB
      have HN := hid hnil
      clear hown ht hnil hin hI hB
      have q0 : (len : Int) ≤ lc := by omega
      have q1 : (0 : Int) ≤ len := by omega
      have HL := hid hlc
      go_wp2
      go_ret
      exact ⟨la, rfl, hI2.out, fun e => by have h1 := HN.out e; have h2 := HL.out; omega, HB.out⟩
set_option maxRecDepth 20000 in
set_option maxHeartbeats 1000000 in
theorem clone8_c (a : Option Addr) (len cap : Nat) (zs : List Int) (w : World) (h : IsB w a len zs) (hnc : a = none → cap = 0) (hs : len ≤ 900000) :
    Calls Try.prog 88 #[.slice a len cap] w fun e w' => ∃ v, e = .returned v ∧ w'.ownsRow w.heap.size 5 1 v zs.length (zs.map by8) ∧ Below w.heap.size w w' := by
  cases a with
  | none =>
    have hl : len = 0 := by
      rcases Nat.eq_zero_or_pos len with h0 | h0
      · exact h0
      · obtain ⟨b, off, e, _⟩ := h.2.2.1 h0; cases e
    subst hl
    have hz : zs = [] := List.eq_nil_of_length_eq_zero h.1
    subst hz
    have hcc := hnc rfl
    subst hcc
    have hq : ∀ w, (binOp .eql 31 (.slice none 0 0) (.slice none 0 0)).run Try.prog w = .ok (.bool true) w := fun w => Lib.run_eql_slice_nil w _ _ _ _ _ _ _ Try.underlying31
    go_enter Try.func88, Try.ntmps88
    go_wp2
    go_ret
    exact ⟨_, rfl, World.ownsRow_nil w w.heap.size 5 1, Below.refl _ _⟩
  | some ad =>
    have hI1 := h.later ((Below.refl _ w).alloc (Nat.le_refl _) (.cells #[] 5))
    have hown1 : (w.alloc (.cells #[] 5)).ownsRow w.heap.size 5 1 (.slice (some ⟨w.heap.size, 0, none⟩) 0 0) 0 [] :=
      ⟨rfl, .inr ⟨w.heap.size, 0, #[], rfl, Nat.le_refl _, heap_alloc_new w _, Nat.le_refl _, by decide, rfl, rfl⟩⟩
    have hl := h.1
    have hq : ∀ w, (binOp .eql 31 (.slice (some ad) len cap) (.slice none 0 0)).run Try.prog w = .ok (.bool false) w := fun w => Lib.run_eql_slice_nil w _ _ _ _ _ _ _ Try.underlying31
    go_enter Try.func88, Try.ntmps88
    go_wp2_with (at_builtin; refine wpList_appendB _ rfl _ _ rfl w.heap.size _ _ _ rfl hown1 (some ad) len cap zs rfl hI1 (fun e => by cases e) (by omega) (by simp) ?_; intro v6 w6 hown6 hgrow6)
    have B6 : Below w.heap.size w w6 := below_grown ((Below.refl _ w).alloc (Nat.le_refl _) (.cells #[] 5)) hown1 (Nat.le_refl _) (by simp) hgrow6
    obtain ⟨a6, c6, rfl⟩ := own_shape6 hown6
    go_ret
    exact ⟨_, rfl, by simpa [hl] using hown6, B6⟩
/-- A row of parts that was made here. -/
def PG (B : Nat) (w : World) (v : Value) (gs : Jo.Gr) : Prop :=
  ∃ vals : List Value, w.ownsRow B 31 1 v gs.length vals ∧ ∀ i, i < gs.length → ∃ u, vals[i]? = some u ∧ w.ownsRow B 5 1 u (gs.getD i []).length ((gs.getD i []).map by8) ∧ Jo.Bytes (gs.getD i [])
theorem own_types {w : World} {B B' e e' sz sz' n n' : Nat} {u v : Value} {xs ys : List Value} (h : w.ownsRow B e sz u n xs) (h' : w.ownsRow B' e' sz' v n' ys) (he : e ≠ e') (q : Nat) (hu : u.ownBlock = some q) : v.ownBlock ≠ some q := by
  intro hv
  rcases h.2 with ⟨rfl, _⟩ | ⟨g, cap, cur, rfl, _, e1, _⟩
  · cases hu
  · rcases h'.2 with ⟨rfl, _⟩ | ⟨g', cap', cur', rfl, _, e2, _⟩
    · cases hv
    · cases hu; cases hv; rw [e1] at e2; cases e2; exact he rfl
theorem PG.nil (B : Nat) (w : World) : PG B w (.slice none 0 0) [] := ⟨[], World.ownsRow_nil w B 31 1, fun i hi => by simp at hi⟩
theorem PG.later {B : Nat} {w w' : World} {v : Value} {gs : Jo.Gr} (h : PG B w v gs) (hb : Below w.heap.size w w') : PG B w' v gs := by
  obtain ⟨vals, h1, h2⟩ := h
  refine ⟨vals, own_keep h1 (Out.of (S := fun _ => False) hb) (fun _ _ h => h), fun i hi => ?_⟩
  obtain ⟨u, e1, e2, e3⟩ := h2 i hi
  exact ⟨u, e1, own_keep e2 (Out.of (S := fun _ => False) hb) (fun _ _ h => h), e3⟩
theorem PG.snoc {B : Nat} {w w' : World} {v v' u : Value} {gs : Jo.Gr} {vals : List Value} {p : List Int} (hv : w.ownsRow B 31 1 v gs.length vals)
    (h2 : ∀ i, i < gs.length → ∃ u, vals[i]? = some u ∧ w.ownsRow B 5 1 u (gs.getD i []).length ((gs.getD i []).map by8) ∧ Jo.Bytes (gs.getD i []))
    (hu : w.ownsRow B 5 1 u p.length (p.map by8)) (hp : Jo.Bytes p) (hg : w.grownBy w' v.ownBlock) (hown : w'.ownsRow B 31 1 v' (gs.length + 1) (vals ++ [u])) : PG B w' v' (gs ++ [p]) := by
  have hl : vals.length = gs.length := by simpa using hv.1
  have far : ∀ {u : Value} {z : List Int}, w.ownsRow B 5 1 u z.length (z.map by8) → w'.ownsRow B 5 1 u z.length (z.map by8) := fun {u z} hz =>
    own_far hz fun k hk => hg.block k (hz.lt k hk).2 (fun e => own_types hz hv (by decide) k hk e.symm)
  refine ⟨vals ++ [u], by simpa using hown, fun i hi => ?_⟩
  by_cases hlt : i < gs.length
  · obtain ⟨x, e1, e2, e3⟩ := h2 i hlt
    have e : (gs ++ [p]).getD i [] = gs.getD i [] := by simp [List.getD, List.getElem?_append_left hlt]
    rw [e]
    exact ⟨x, by rw [List.getElem?_append_left (by omega)]; exact e1, far e2, e3⟩
  · have ei : i = gs.length := by simp at hi; omega
    subst ei
    have e : (gs ++ [p]).getD gs.length [] = p := by simp [List.getD]
    rw [e]
    exact ⟨u, by rw [← hl]; simp, far hu, hp⟩
theorem PG.isG0 {B : Nat} {w : World} {v : Value} {gs : Jo.Gr} (h : PG B w v gs) (hm : gs.length ≤ 100000) : ∃ a cap, v = .slice a gs.length cap ∧ IsG0 w a gs.length gs := by
  obtain ⟨vals, h1, h2⟩ := h
  rcases h1.2 with ⟨rfl, hn⟩ | ⟨g, cap, cur, rfl, hg, hbk, hnc, hcm, hcs, ht⟩
  · exact ⟨none, 0, by rw [hn], ⟨rfl, by unfold maxLen; omega, fun hp => by omega⟩⟩
  · refine ⟨some ⟨g, 0, none⟩, cap, rfl, ⟨rfl, by unfold maxLen; omega, fun hp => ⟨g, 0, rfl, fun i hi => ?_⟩⟩⟩
    obtain ⟨u, e1, e2, e3⟩ := h2 i hi
    obtain ⟨pa, pc, rfl, k1, k2, k3, k4⟩ := own_isB e2 e3
    refine ⟨pa, pc, ?_, k1, k2, k3⟩
    rw [cell_of_row w g _ cur 31 (0, 0) hbk]
    have e4 : (cur.toList.take (gs.length * 1))[i]? = vals[i]? := by rw [ht]
    rw [List.getElem?_take, if_pos (by omega)] at e4
    rw [Nat.zero_add, ← Array.getElem?_toList, e4, e1]
end Go.Proofs.Ytfmkgflhgapeoab
namespace Go.Proofs.Ytfmkgflhgapeoab
open Go.RowKit Go.ChangeShapes Go.WideShapes Go.ChangeAt Go.Maps
set_option linter.unusedVariables false
set_option linter.unusedSimpArgs false
theorem info54 : ∃ i : TypeInfo, Try.prog.info? 31 = some i ∧ i.zero = some (.slice none 0 0) ∧ i.size = 1 ∧ i.bytes = 24 := by
  have h : (Try.prog.info? 31).map (fun i => (i.zero, i.size, i.bytes)) = some (some (.slice none 0 0), 1, 24) := by kernel_rfl
  cases hi : Try.prog.info? 31 with
  | none => rw [hi] at h; cases h
  | some i => rw [hi] at h; simp at h; exact ⟨i, rfl, h.1, h.2.1, h.2.2⟩
/-- What partsOf answers. -/
def PartsPost (cnt : Nat) (L : List Int) (w : World) (e : Ending) (w' : World) : Prop :=
  (∃ v ok, e = .returned (.tuple #[v, .bool ok]) ∧ ((∃ g, Jo.partsF cnt L = some g ∧ ok = true ∧ PG w.heap.size w' v g) ∨ (Jo.partsF cnt L = none ∧ ok = false))) ∧ Below w.heap.size w w'
/-- What is left to be done behind gs. -/
def Rest (cnt : Nat) (L : List Int) (k : Nat) (gs : Jo.Gr) (r : List Int) : Prop :=
  gs.length = k ∧ Jo.partsF cnt L = (match Jo.partsF (cnt - k) r with | none => none | some g => some (gs ++ g))
theorem Rest.step {cnt k : Nat} {L r : List Int} {gs : Jo.Gr} (h : Rest cnt L k gs r) (hk : k < cnt) (h4 : ¬ r.length < 4) (hx : ¬ (16384 < Fr.at4 r 0 ∨ ((r.length - 4 : Nat) : Int) < Fr.at4 r 0)) :
    Rest cnt L (k + 1) (gs ++ [(r.drop 4).take (Fr.at4 r 0).toNat]) ((r.drop 4).drop (Fr.at4 r 0).toNat) := by
  refine ⟨by simp [h.1], ?_⟩
  rw [h.2]
  obtain ⟨j, hj⟩ : ∃ j, cnt - k = j + 1 := ⟨cnt - k - 1, by omega⟩
  have e : cnt - (k + 1) = j := by omega
  rw [hj, e]
  conv => lhs; unfold Jo.partsF
  rw [if_neg h4, if_neg hx]
  cases Jo.partsF j ((r.drop 4).drop (Fr.at4 r 0).toNat) with
  | none => rfl
  | some g => simp
theorem Rest.stop {cnt k : Nat} {L r : List Int} {gs : Jo.Gr} (h : Rest cnt L k gs r) (hk : k < cnt) (hx : r.length < 4 ∨ 16384 < Fr.at4 r 0 ∨ ((r.length - 4 : Nat) : Int) < Fr.at4 r 0) : Jo.partsF cnt L = none := by
  rw [h.2]
  obtain ⟨j, hj⟩ : ∃ j, cnt - k = j + 1 := ⟨cnt - k - 1, by omega⟩
  rw [hj]
  have : Jo.partsF (j + 1) r = none := by
    unfold Jo.partsF
    by_cases h4 : r.length < 4
    · rw [if_pos h4]
    · rw [if_neg h4, if_pos (by omega)]
  rw [this]
theorem Rest.last {cnt : Nat} {L r : List Int} {gs : Jo.Gr} (h : Rest cnt L cnt gs r) : Jo.partsF cnt L = if r.length = 0 then some gs else none := by
  rw [h.2, Nat.sub_self]
  unfold Jo.partsF
  by_cases h0 : r.length = 0
  · rw [if_pos h0, if_pos h0]; simp
  · rw [if_neg h0, if_neg h0]
theorem own_base {w : World} {base base' : Nat} {e size n : Nat} {v : Value} {xs : List Value} (h : w.ownsRow base e size v n xs) (hb : base' ≤ base) : w.ownsRow base' e size v n xs := by
  refine ⟨h.1, ?_⟩
  rcases h.2 with h | ⟨g, cap, cur, e1, e2, e3⟩
  · exact .inl h
  · exact .inr ⟨g, cap, cur, e1, by omega, e3⟩
set_option maxRecDepth 20000 in
set_option maxHeartbeats 4000000 in
theorem partsOf_c (la : Option Addr) (len cnt : Nat) (L : List Int) (w : World) (h : IsB w la len L) (hln : la = none → len = 0) (hc : cnt < 256) (hlen : len ≤ 200000) :
    Calls Try.prog 74 #[.slice la len len, .int .i64 cnt] w (PartsPost cnt L w) := by
  have hby : Jo.Bytes L := fun x hx => by
    obtain ⟨i, hi, rfl⟩ := List.getElem_of_mem hx
    have := h.2.2.2 i
    simp [List.getD, hi] at this
    omega
  obtain ⟨i0, hi, hz0, hz1, hz2⟩ := info54
  have HB0 := hid hby
  have H0 := hid h
  clear h hby
  go_enter Try.func74, Try.ntmps74
  go_wp2
  go_loopw [0, 6, 9] (fun s v i wr => ∃ (k : Nat) (r : List Int) (a : Option Addr) (m : Nat) (gs : Jo.Gr), k ≤ cnt ∧ i = .int .i64 k ∧ s = .slice a m m ∧ IsB w a m r ∧ (a = none → m = 0) ∧ m ≤ 200000 ∧ Jo.Bytes r ∧ Rest cnt L k gs r ∧ PG w.heap.size wr v gs ∧ Below w.heap.size w wr) (fun _ _ i _ => cnt - (intOf i).toNat)
  case atStart => exact ⟨0, L, la, len, [], Nat.zero_le _, rfl, rfl, H0.out, hln, hlen, HB0.out, ⟨rfl, by cases Jo.partsF (cnt - 0) L <;> simp_all⟩, PG.nil _ _, Below.refl _ _⟩
  case round =>
    obtain ⟨k, r, a, m, gs, hk, rfl, rfl, hI, hnone, hm, hby, hR, hP, hB⟩ := hrel
    have hrl := hI.1
    have HR := hid hR
    have HP := hid hP
    have HB := hid hB
    have HI := hid hI
    have HY := hid hby
    obtain ⟨gv, gc, rfl⟩ : ∃ gv gc, u6 = .slice gv gs.length gc := by obtain ⟨vals, h1, _⟩ := hP; exact own_shape6 h1
    clear hR hP hB hI hby
    by_cases hlt : k < cnt
    · by_cases h4 : m < 4
      · have E := hid (HR.out.stop hlt (.inl (by rw [hrl]; exact h4)))
        have h4' : (m : Int) < 4 := by omega
        go_wp2
        go_ret2
        exact ⟨⟨_, _, rfl, .inr ⟨E.out, rfl⟩⟩, HB.out⟩
      · obtain ⟨b, off, rfl, _⟩ := HI.out.2.2.1 (by omega)
        have RN : Hid (Calls Try.prog 72 #[.slice (some ⟨b, off, none⟩) 4 4] wr fun e w' => e = .returned (.int .u32 (Fr.at4 r 0)) ∧ w' = wr) := by
          have := readNumber_c (some ⟨b, off, none⟩) 4 (r.take 4) wr ((HI.out.later HB.out).front 4 (by omega))
          have e : Fr.at4 (r.take 4) 0 = Fr.at4 r 0 := by unfold Fr.at4; simp [List.getD, List.getElem?_take]
          rw [e] at this; exact this
        have hx := Fr.num4_lt (r.getD 0 0) (r.getD 1 0) (r.getD 2 0) (r.getD 3 0) (HI.out.2.2.2 0) (HI.out.2.2.2 1) (HI.out.2.2.2 2) (HI.out.2.2.2 3)
        have hx' : 0 ≤ Fr.at4 r 0 ∧ Fr.at4 r 0 < 4294967296 := hx
        obtain ⟨x, hxe⟩ : ∃ x : Nat, Fr.at4 r 0 = x := ⟨(Fr.at4 r 0).toNat, by omega⟩
        clear hx
        have h4' : ¬ (m : Int) < 4 := by omega
        have h4c : (4 : Int) ≤ m := by omega
        by_cases hbad : 16384 < x ∨ m - 4 < x
        · have E := hid (HR.out.stop hlt (.inr (by rw [hxe, hrl]; omega)))
          rw [hxe] at RN hx'
          by_cases hb1 : 16384 < x
          · have hb1' : (16384 : Int) < x := by omega
            go_wp2_with (go_at_call 72; refine RN.out.mono ?_; rintro e w' ⟨rfl, rfl⟩)
            all_goals
              go_ret2
              exact ⟨⟨_, _, rfl, .inr ⟨E.out, rfl⟩⟩, HB.out⟩
          · have hb1' : ¬ (16384 : Int) < x := by omega
            have hb2' : ((m - 4 : Nat) : Int) < x := by omega
            go_wp2_with (go_at_call 72; refine RN.out.mono ?_; rintro e w' ⟨rfl, rfl⟩)
            all_goals
              go_ret2
              exact ⟨⟨_, _, rfl, .inr ⟨E.out, rfl⟩⟩, HB.out⟩
        · have HS := hid (HR.out.step hlt (by omega) (by rw [hxe, hrl]; omega))
          have hxt : (Fr.at4 r 0).toNat = x := by omega
          have HXT := hid hxt
          rw [hxt] at HS
          rw [hxe] at RN
          have HXE := hid hxe
          have hg4 : gs.length ≤ 256 := by rw [HR.out.1]; omega
          clear hxe hxt hx'
          have b1 : ¬ (16384 : Int) < x := by omega
          have b2 : ¬ ((m - 4 : Nat) : Int) < x := by omega
          have b3 : (x : Int) ≤ ((m - 4 : Nat) : Int) := by omega
          have b0 : (0 : Int) ≤ x := by omega
          by_cases hm4 : m = 4
          · subst hm4
            have hx0 : x = 0 := by omega
            subst hx0
            have CI0 : IsB wr (some ⟨b, off, none⟩) 0 ((r.drop 4).take 0) := by rw [List.take_zero]; exact ⟨rfl, by decide, fun h => absurd h (by omega), fun i => by simp⟩
            have NI : Hid (IsB w (some ⟨b, off, none⟩) 0 ((r.drop 4).drop 0)) := by
              have : r.drop 4 = [] := List.eq_nil_of_length_eq_zero (by simp; omega)
              rw [this]; exact ⟨rfl, by decide, fun h => absurd h (by omega), fun i => by simp⟩
            
            have CI := hid (CI0)
            go_wp2_with (first
              | (at_builtin; (refine wpList_append_own _ rfl _ _ 22 rfl w.heap.size 31 i0 (.slice none 0 0) 1 24 Try.underlying22 hi hz0 hz1 hz2 rfl (by decide) _ _ _ rfl (P1.alloc _) ⟨w5.heap.size, 0, none⟩ 1 1 [.slice ua ul uc] rfl rfl (cell_one_new _ _ _) (fun y hy => by simp at hy; subst hy; rfl) (by unfold maxLen; omega) (by omega) (by simp; omega) ?_; intro v9 w9 hown9 hgrow9 hnil9))
              | (go_at_call 88; refine (clone8_c (some ⟨b, off, none⟩) 0 _ _ _ CI.out (fun e => by cases e) (by omega)).mono ?_; rintro e w5 ⟨u, rfl, hu5, hb5⟩; obtain ⟨ul, hul⟩ : ∃ ul, ul = ((r.drop 4).take 0).length := ⟨_, rfl⟩; rw [← hul] at hu5; (have HUL := hid hul); clear hul; obtain ⟨ua, uc, rfl⟩ := own_shape6 hu5; obtain ⟨vals, P1, P2⟩ := HP.out.later hb5; (have HZ5 : w.heap.size ≤ w5.heap.size := Nat.le_trans HB.out.size hb5.size))
              | (go_at_call 72; refine RN.out.mono ?_; rintro e w' ⟨rfl, rfl⟩))
            have hul := HUL.out
            clear HUL
            subst hul
            have hu6 := own_base hu5 HB.out.size
            have P9 := PG.snoc (w := w5.alloc (.cells #[.slice ua _ uc] 31)) (P1.alloc _) (fun i hi => by obtain ⟨u, e1, e2, e3⟩ := P2 i hi; exact ⟨u, e1, e2.alloc _, e3⟩) (hu6.alloc _) (Jo.bytes_take (Jo.bytes_drop HY.out 4) _) hgrow9 hown9
            have B9 : Below w.heap.size w w9 := below_grown ((HB.out.trans (hb5.mono HB.out.size)).alloc HZ5 _) (P1.alloc _) (Nat.le_refl _) (by simp; omega) hgrow9
            obtain ⟨a9, c9, rfl⟩ := own_shape6 hown9
            go_roundw
            case rel => exact ⟨k + 1, (r.drop 4).drop 0, some ⟨b, off, none⟩, _, _, by omega, by go_num, rfl, NI.out, (fun e => by cases e), by omega, Jo.bytes_drop (Jo.bytes_drop HY.out _) _, HS.out, P9, B9⟩
            case measure => simp [intOf]; omega
          · have CI0 : IsB wr (some ⟨b, off + 4, none⟩) x ((r.drop 4).take x) := by
              have h1 := isB_sub (HI.out.later HB.out) 4 (m - 4) (by omega)
              rw [List.take_of_length_le (by simp; omega)] at h1
              exact h1.front x (by omega)
            by_cases hxm : x = m - 4
            · have NI : Hid (IsB w (some ⟨b, off + 4, none⟩) 0 ((r.drop 4).drop x)) := by
                have : (r.drop 4).drop x = [] := List.eq_nil_of_length_eq_zero (by simp; omega)
                rw [this]; exact ⟨rfl, by decide, fun h => absurd h (by omega), fun i => by simp⟩
              have c1 : (m - 4 : Nat) = x := hxm.symm
              have HXM := hid hxm
              clear hxm
              have c2 : ¬ m = 4 := hm4
              have c3 : m - 4 - x = 0 := by omega
              
              have CI := hid (CI0)
              go_wp2_with (first
                | (at_builtin; (refine wpList_append_own _ rfl _ _ 22 rfl w.heap.size 31 i0 (.slice none 0 0) 1 24 Try.underlying22 hi hz0 hz1 hz2 rfl (by decide) _ _ _ rfl (P1.alloc _) ⟨w5.heap.size, 0, none⟩ 1 1 [.slice ua ul uc] rfl rfl (cell_one_new _ _ _) (fun y hy => by simp at hy; subst hy; rfl) (by unfold maxLen; omega) (by omega) (by simp; omega) ?_; intro v9 w9 hown9 hgrow9 hnil9))
                | (go_at_call 88; refine (clone8_c (some ⟨b, off + 4, none⟩) x _ _ _ CI.out (fun e => by cases e) (by omega)).mono ?_; rintro e w5 ⟨u, rfl, hu5, hb5⟩; obtain ⟨ul, hul⟩ : ∃ ul, ul = ((r.drop 4).take x).length := ⟨_, rfl⟩; rw [← hul] at hu5; (have HUL := hid hul); clear hul; obtain ⟨ua, uc, rfl⟩ := own_shape6 hu5; obtain ⟨vals, P1, P2⟩ := HP.out.later hb5; (have HZ5 : w.heap.size ≤ w5.heap.size := Nat.le_trans HB.out.size hb5.size))
                | (go_at_call 72; refine RN.out.mono ?_; rintro e w' ⟨rfl, rfl⟩))
              have hul := HUL.out
              clear HUL
              subst hul
              have hu6 := own_base hu5 HB.out.size
              have P9 := PG.snoc (w := w5.alloc (.cells #[.slice ua _ uc] 31)) (P1.alloc _) (fun i hi => by obtain ⟨u, e1, e2, e3⟩ := P2 i hi; exact ⟨u, e1, e2.alloc _, e3⟩) (hu6.alloc _) (Jo.bytes_take (Jo.bytes_drop HY.out 4) _) hgrow9 hown9
              have B9 : Below w.heap.size w w9 := below_grown ((HB.out.trans (hb5.mono HB.out.size)).alloc HZ5 _) (P1.alloc _) (Nat.le_refl _) (by simp; omega) hgrow9
              obtain ⟨a9, c9, rfl⟩ := own_shape6 hown9
              go_roundw
              case rel => exact ⟨k + 1, (r.drop 4).drop x, some ⟨b, off + 4, none⟩, _, _, by omega, by go_num, rfl, NI.out, (fun e => by cases e), by omega, Jo.bytes_drop (Jo.bytes_drop HY.out _) _, HS.out, P9, B9⟩
              case measure => simp [intOf]; omega
            · have NI : Hid (IsB w (some ⟨b, off + 4 + x, none⟩) (m - 4 - x) ((r.drop 4).drop x)) := by
                have h1 := isB_sub HI.out (4 + x) (m - 4 - x) (by omega)
                rw [List.take_of_length_le (by simp; omega), ← List.drop_drop] at h1
                rw [show off + 4 + x = off + (4 + x) by omega]
                exact h1
              have c2 : ¬ m = 4 := hm4
              have c1 : ¬ (m - 4 : Nat) = x := fun e => hxm e.symm
              
              have CI := hid (CI0)
              go_wp2_with (first
                | (at_builtin; (refine wpList_append_own _ rfl _ _ 22 rfl w.heap.size 31 i0 (.slice none 0 0) 1 24 Try.underlying22 hi hz0 hz1 hz2 rfl (by decide) _ _ _ rfl (P1.alloc _) ⟨w5.heap.size, 0, none⟩ 1 1 [.slice ua ul uc] rfl rfl (cell_one_new _ _ _) (fun y hy => by simp at hy; subst hy; rfl) (by unfold maxLen; omega) (by omega) (by simp; omega) ?_; intro v9 w9 hown9 hgrow9 hnil9))
                | (go_at_call 88; refine (clone8_c (some ⟨b, off + 4, none⟩) x _ _ _ CI.out (fun e => by cases e) (by omega)).mono ?_; rintro e w5 ⟨u, rfl, hu5, hb5⟩; obtain ⟨ul, hul⟩ : ∃ ul, ul = ((r.drop 4).take x).length := ⟨_, rfl⟩; rw [← hul] at hu5; (have HUL := hid hul); clear hul; obtain ⟨ua, uc, rfl⟩ := own_shape6 hu5; obtain ⟨vals, P1, P2⟩ := HP.out.later hb5; (have HZ5 : w.heap.size ≤ w5.heap.size := Nat.le_trans HB.out.size hb5.size))
                | (go_at_call 72; refine RN.out.mono ?_; rintro e w' ⟨rfl, rfl⟩))
              have hul := HUL.out
              clear HUL
              subst hul
              have hu6 := own_base hu5 HB.out.size
              have P9 := PG.snoc (w := w5.alloc (.cells #[.slice ua _ uc] 31)) (P1.alloc _) (fun i hi => by obtain ⟨u, e1, e2, e3⟩ := P2 i hi; exact ⟨u, e1, e2.alloc _, e3⟩) (hu6.alloc _) (Jo.bytes_take (Jo.bytes_drop HY.out 4) _) hgrow9 hown9
              have B9 : Below w.heap.size w w9 := below_grown ((HB.out.trans (hb5.mono HB.out.size)).alloc HZ5 _) (P1.alloc _) (Nat.le_refl _) (by simp; omega) hgrow9
              obtain ⟨a9, c9, rfl⟩ := own_shape6 hown9
              go_roundw
              case rel => exact ⟨k + 1, (r.drop 4).drop x, some ⟨b, off + 4 + x, none⟩, _, _, by omega, by go_num, rfl, NI.out, (fun e => by cases e), by omega, Jo.bytes_drop (Jo.bytes_drop HY.out _) _, HS.out, P9, B9⟩
              case measure => simp [intOf]; omega
    · have ek : k = cnt := by omega
      subst ek
      have E := HR.out.last
      rw [hrl] at E
      obtain ⟨ga, gc', e1, hG⟩ := HP.out.isG0 (by rw [HR.out.1]; omega)
      have EG := hid e1
      clear e1
      by_cases h0 : m = 0
      · rw [if_pos h0] at E
        have E' := hid E
        have h0' : ((m : Int) == 0) = true := by simp; omega
        clear E
        go_wp2
        go_ret2
        exact ⟨⟨_, _, rfl, .inl ⟨gs, E'.out, by simp [h0], HP.out⟩⟩, HB.out⟩
      · rw [if_neg h0] at E
        have E' := hid E
        have h0' : ((m : Int) == 0) = false := by simp; omega
        clear E
        go_wp2
        go_ret2
        exact ⟨⟨_, _, rfl, .inr ⟨E'.out, by simp [h0]⟩⟩, HB.out⟩
end Go.Proofs.Ytfmkgflhgapeoab
