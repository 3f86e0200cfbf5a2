/-
  What All of the package frame returns: the packets that the bytes begin with, gone through by a function that yields.
-/
import Derived.Test.YteimegacnmakaacFOpen
import Derived.RangeFuncNested
import Derived.RangeFuncBound
import Derived.RangeFuncCalls
import Derived.RangeFuncLeaves
import Derived.Shelf.Abstract
import Derived.Shelf.RegionOpen
import Derived.OwnWalkIn
import Derived.TacticsInMore
import Derived.LoopNIn
import Derived.LoopIn
import Derived.RangeFuncBox
import Derived.Maps.AppendAt
namespace Go.Proofs.Yteimegacnmakaac
open Go.RowKit Go.ChangeShapes Go.WideShapes Go.ChangeAt Go.Shelf
attribute [local go_sem] Oper.semAt_some
set_option linter.unusedVariables false
set_option linter.unusedSimpArgs false
def pkCells (p : Fr.Pk) : List Value := [.int .u8 p.k, .int .u8 p.f, .int .u8 p.t, .int .u32 p.e, .int .u32 p.s, .string p.b]
def encLen (ps : List Fr.Pk) : Nat := (ps.map fun p => 19 + p.b.size).sum
theorem encLen_snoc (ps : List Fr.Pk) (p : Fr.Pk) : encLen (ps ++ [p]) = encLen ps + (19 + p.b.size) := by unfold encLen; simp
/-- The packets that are cut off one by one, as long as there is one. -/
def Cuts (zs : List Int) (ps : List Fr.Pk) (r : List Int) : Prop :=
  ∀ C : List Fr.Pk → List Int → Prop, C [] zs → (∀ qs p s, C qs s → Fr.Begins p s → C (qs ++ [p]) (s.drop (19 + p.b.size))) → C ps r
theorem Cuts.nil (zs : List Int) : Cuts zs [] zs := fun C h _ => h
theorem Cuts.snoc {zs : List Int} {ps : List Fr.Pk} {p : Fr.Pk} {r : List Int} (h : Cuts zs ps r) (hp : Fr.Begins p r) : Cuts zs (ps ++ [p]) (r.drop (19 + p.b.size)) :=
  fun C h0 h1 => h1 _ _ _ (h C h0 h1) hp
theorem cuts_len {zs r : List Int} {ps : List Fr.Pk} (h : Cuts zs ps r) : encLen ps + r.length = zs.length := by
  refine h (fun ps r => encLen ps + r.length = zs.length) (by simp [encLen]) (fun ps p r ih hp => ?_)
  have := (begins_long hp).2.2.1
  rw [encLen_snoc, List.length_drop]; omega
theorem enc_many (ps : List Fr.Pk) : 19 * ps.length ≤ encLen ps := by
  induction ps with
  | nil => simp
  | cons p ps ih => unfold encLen at *; simp; omega
theorem cuts_many {zs r : List Int} {ps : List Fr.Pk} (h : Cuts zs ps r) : 19 * ps.length ≤ zs.length := by
  have h1 := cuts_len h
  have h2 := enc_many ps
  omega
/-- Blocks that the loop's own book-keeping may turn: three from B on. All others are as they were. -/
structure Ag (B : Nat) (w w' : World) : Prop where
  os : w'.os = w.os
  tape : w'.tape = w.tape
  output : w'.output = w.output
  size : w.heap.size ≤ w'.heap.size
  block : ∀ k, k < w.heap.size → k ≠ B → k ≠ B + 1 → k ≠ B + 2 → w'.heap[k]? = w.heap[k]?
theorem Ag.of_below {B : Nat} {w w' : World} (h : Below w.heap.size w w') : Ag B w w' := ⟨h.os, h.tape, h.output, h.size, fun k hk _ _ _ => h.block k hk⟩
theorem Ag.alloc (B : Nat) (w : World) (o : Obj) : Ag B w (w.alloc o) := Ag.of_below ((Below.refl _ _).alloc (Nat.le_refl _) o)
theorem Ag.put (B : Nat) (w : World) (k : Nat) (hk : k = B ∨ k = B + 1 ∨ k = B + 2) (o : Obj) : Ag B w (w.putObj k o) :=
  ⟨rfl, rfl, rfl, by simp, fun j _ h0 h1 h2 => World.putObj_heap_other (by omega)⟩
theorem Ag.set (B : Nat) (w : World) (v : Value) : Ag B w (w.setCell ⟨B, 0, none⟩ v) :=
  ⟨rfl, rfl, rfl, by simp [World.setCell], fun j _ h0 _ _ => heap_setCell_other _ _ _ _ h0⟩
/-- What All has gathered so far: the list in its box, the number of bytes in its own. -/
def AI (w0 : World) (pre : List Fr.Pk) (W : World) : Prop :=
  Below w0.heap.size w0 W ∧ w0.heap.size + 5 ≤ W.heap.size ∧
  (∃ v, W.heap[w0.heap.size]? = some (.cells #[v] 52 (0, 0)) ∧ W.ownsRow (w0.heap.size + 5) 43 6 v pre.length (pre.flatMap pkCells)) ∧
  W.heap[w0.heap.size + 1]? = some (.cells #[.int .i64 (encLen pre)] 3 (0, 0))
theorem AI.ag {w0 W W' : World} {pre : List Fr.Pk} (h : AI w0 pre W) (g : Ag (w0.heap.size + 2) W W') : AI w0 pre W' := by
  obtain ⟨h1, h2, ⟨v, h3, h4⟩, h5⟩ := h
  have hs := g.size
  refine ⟨h1.trans ⟨g.os, g.tape, g.output, hs, fun k hk => g.block k (by omega) (by omega) (by omega) (by omega)⟩, by omega, ⟨v, by rw [g.block _ (by omega) (by omega) (by omega) (by omega)]; exact h3, h4.1, ?_⟩, by rw [g.block _ (by omega) (by omega) (by omega) (by omega)]; exact h5⟩
  rcases h4.2 with h | ⟨q, cap, cur, e1, e2, e3, e4⟩
  · exact .inl h
  · exact .inr ⟨q, cap, cur, e1, e2, by rw [g.block q (lt_of_blk e3) (by omega) (by omega) (by omega)]; exact e3, e4⟩
/-- Where the function that yields stands: its own box holds the bytes that are left. -/
def BI (w0 : World) (zs : List Int) (pre : List Fr.Pk) (W : World) : Prop :=
  ∃ r a len cap, Cuts zs pre r ∧ W.heap[w0.heap.size + 2]? = some (.cells #[.slice a len cap] 44 (0, 0)) ∧ IsB W a len r ∧ len ≤ cap ∧ (∀ b off sp, 0 < len → a = some ⟨b, off, sp⟩ → b < w0.heap.size)
def leftOf (B : Nat) (W : World) : Nat := match W.cell? ⟨B, 0, none⟩ with | some (.slice _ len _) => len | _ => 0
set_option maxHeartbeats 1000000 in
theorem packets1_in (w0 : World) (l : Nat) (zs : List Int) (hz : zs.length ≤ 1000000) (Jl : World → Prop) (hJl : ∀ A B, Jl A → Ag (w0.heap.size + 2) A B → (∀ k, k = w0.heap.size + 3 ∨ k = w0.heap.size + 4 → B.heap[k]? = A.heap[k]?) → Jl B)
    (hY : ∀ pre p W, AI w0 pre W → Jl W → encLen (pre ++ [p]) ≤ zs.length → Fr.Wf p → YieldAt Fence.wide 1 Try.prog l #[Fr.val p, .int .i64 (19 + p.b.size)] W fun e W' => e = .returned (.bool true) ∧ AI w0 (pre ++ [p]) W' ∧ Jl W' ∧ W'.heap[w0.heap.size + 2]? = W.heap[w0.heap.size + 2]? ∧ Below w0.heap.size W W')
    (W : World) (hA : AI w0 [] W) (hJ : Jl W) (hB : BI w0 zs [] W) :
    CallsIn Fence.wide 2 Try.prog 39 #[.func (.yield l) #[] #[], .pointer (some ⟨w0.heap.size + 2, 0, none⟩)] W fun e W' => (∃ v, e = .returned v) ∧ ∃ ps r, Cuts zs ps r ∧ (∀ p, ¬ Fr.Begins p r) ∧ AI w0 ps W' ∧ Jl W' := by
  refine callsIn_of_wp Try.func39 rfl trivial ?_ rfl
  simp only [Try.ntmps39, List.size_toArray, List.length_cons, List.length_nil, Nat.reduceAdd, Nat.reduceSub, Array.replicate_succ, Array.replicate_zero, List.push_toArray, List.append_toArray, List.nil_append, List.cons_append]
  gi_wp2
  gi_loopw [4] (fun s wr => ∃ pre, AI w0 pre wr ∧ Jl wr ∧ BI w0 zs pre wr) (fun _ wr => leftOf (w0.heap.size + 2) wr)
  case atStart => exact ⟨[], hA, hJ, hB⟩
  case round =>
    obtain ⟨pre, hA1, hJ1, r, a, len, cap, hC, hbx, hI, hlc, hfar⟩ := hrel
    have hcb := cell_box hbx
    have HI := hid hI
    have HC := hid hC
    have HF := hid hfar
    clear hI hC hfar
    have hm := HI.out.2.1
    unfold maxLen at hm
    gi_wp2_with fail
    refine ⟨trivial, (callsIn_wide.2 (first_c a len cap r wr HI.out hlc)).mono ?_⟩
    rintro _ w2 ⟨⟨p, hp, rfl⟩ | ⟨hp, rfl⟩, hb2⟩
    · have hL := begins_long hp
      have hll := HI.out.1
      have hcl := cuts_len HC.out
      have HP := hid hp
      have hk := cuts_len (Cuts.snoc HC.out hp)
      obtain ⟨ab, ao, e9, _⟩ := HI.out.2.2.1 (by omega)
      subst e9
      obtain ⟨k, f, t, e, s, b⟩ := p
      simp only at hL
      obtain ⟨_, _, hsz, _⟩ := hL
      rw [show Fr.val ⟨k, f, t, e, s, b⟩ = .agg #[.int .u8 k, .int .u8 f, .int .u8 t, .int .u32 e, .int .u32 s, .string b] from rfl]
      have hA2 := hA1.ag (Ag.of_below hb2)
      have hJ2 := hJl _ _ hJ1 (Ag.of_below hb2) (fun q hq => hb2.block q (by have := hA1.2.1; omega))
      have hA3 := hA2.ag (Ag.alloc _ w2 (.cells #[.int .u8 k, .int .u8 f, .int .u8 t, .int .u32 e, .int .u32 s, .string b] 43))
      have hJ3 := hJl _ _ hJ2 (Ag.alloc _ w2 (.cells #[.int .u8 k, .int .u8 f, .int .u8 t, .int .u32 e, .int .u32 s, .string b] 43)) (fun q hq => Below.heap_alloc _ _ _ (by have := hA2.2.1; omega))
      have hbx2 : w2.heap[w0.heap.size + 2]? = some (.cells #[.slice (some ⟨ab, ao, none⟩) len cap] 44 (0, 0)) := by rw [hb2.block _ (by have := hA1.2.1; omega)]; exact hbx
      have hbx3 : (w2.alloc (.cells #[.int .u8 k, .int .u8 f, .int .u8 t, .int .u32 e, .int .u32 s, .string b] 43)).heap[w0.heap.size + 2]? = some (.cells #[.slice (some ⟨ab, ao, none⟩) len cap] 44 (0, 0)) := by rw [Below.heap_alloc _ _ _ (lt_of_blk hbx2)]; exact hbx2
      have HI3 := hid (HI.out.later (hb2.alloc hb2.size (.cells #[.int .u8 k, .int .u8 f, .int .u8 t, .int .u32 e, .int .u32 s, .string b] 43)))
      obtain ⟨fn, tmps, assign, body, hy, hR⟩ := hY pre ⟨k, f, t, e, s, b⟩ _ hA3 hJ3 (by omega) hp.1
      rw [show Fr.val ⟨k, f, t, e, s, b⟩ = .agg #[.int .u8 k, .int .u8 f, .int .u8 t, .int .u32 e, .int .u32 s, .string b] from rfl] at hy
      simp only at hy
      have HR := hid hR
      have i1 : (19 : Int) + b.size ≤ len := by omega
      have i2 : (19 : Int) + b.size ≤ cap := by omega
      have i3 : (0 : Int) ≤ 19 + b.size := by omega
      have i4 : (19 + (b.size : Int)).toNat = 19 + b.size := by omega
      have i5 : (len : Int) ≤ cap := by omega
      have i6 : 19 + b.size ≤ len := by omega
      have HLL := hid hll
      clear hp hR hll hcl hk
      gi_wp2_with fail
      refine HR.out.mono ?_
      rintro _ W3 ⟨rfl, hA4, hJ4, hb4, hbel⟩
      have hbx4 := hb4.trans hbx3
      have hcb4 := cell_box hbx4
      have hfr4 := frozen_box hbx4
      have hab := HF.out ab ao none (by omega) rfl
      have HI4 : Hid (∀ v, IsB (W3.setCell ⟨w0.heap.size + 2, 0, none⟩ v) (some ⟨ab, ao, none⟩) len r) := fun v => IsB.of_block HI3.out (by rw [heap_setCell_other _ _ _ _ (by simp only; omega), hbel.block ab hab])
      by_cases hcap : cap = 19 + b.size
      · have hl0 : len = 19 + b.size := by omega
        have hr0 : r.drop (19 + b.size) = r.take 0 := by rw [List.take_zero]; exact List.eq_nil_of_length_eq_zero (by rw [List.length_drop, HLL.out]; omega)
        have HR0 := hid hr0
        clear hr0
        gi_wp2
        go_roundw
        case rel =>
          refine ⟨pre ++ [⟨k, f, t, e, s, b⟩], hA4.ag (Ag.set _ _ _), hJl _ _ hJ4 (Ag.set _ _ _) (fun q hq => heap_setCell_other _ _ _ _ (by simp only; omega)), _, _, _, _, Cuts.snoc HC.out HP.out, heap_setBox _ hbx4, ?_, ?_, ?_⟩
          · simp only
            rw [HR0.out]
            have := (HI4.out (.slice (some ⟨ab, ao, none⟩) 0 0)).front 0 (by omega)
            exact this
          · omega
          · intro b' off' sp _ e9
            cases e9
            exact HF.out ab ao none (by omega) rfl
        case measure =>
          have m1 : leftOf (w0.heap.size + 2) wr = len := by unfold leftOf; rw [hcb]
          have m2 := cell_box (heap_setBox (.slice (some ⟨ab, ao, none⟩) 0 0) hbx4)
          have m3 : leftOf (w0.heap.size + 2) (W3.setCell ⟨w0.heap.size + 2, 0, none⟩ (.slice (some ⟨ab, ao, none⟩) 0 0)) = 0 := by unfold leftOf; rw [m2]
          rw [m1, m3]; omega
      · have HT : Hid ((r.drop (19 + b.size)).take (len - (19 + b.size)) = r.drop (19 + b.size)) := List.take_of_length_le (by rw [List.length_drop, HLL.out]; omega)
        gi_wp2
        go_roundw
        case rel =>
          refine ⟨pre ++ [⟨k, f, t, e, s, b⟩], hA4.ag (Ag.set _ _ _), hJl _ _ hJ4 (Ag.set _ _ _) (fun q hq => heap_setCell_other _ _ _ _ (by simp only; omega)), _, _, _, _, Cuts.snoc HC.out HP.out, heap_setBox _ hbx4, ?_, ?_, ?_⟩
          · simp only
            have := (HI4.out (.slice (some ⟨ab, ao + (19 + b.size), none⟩) (len - (19 + b.size)) (cap - (19 + b.size)))).sub (19 + b.size) (len - (19 + b.size)) (by omega)
            rw [HT.out] at this
            exact this
          · omega
          · intro b' off' sp _ e9
            cases e9
            exact HF.out ab ao none (by omega) rfl
        case measure =>
          have m1 : leftOf (w0.heap.size + 2) wr = len := by unfold leftOf; rw [hcb]
          have m2 := cell_box (heap_setBox (.slice (some ⟨ab, ao + (19 + b.size), none⟩) (len - (19 + b.size)) (cap - (19 + b.size))) hbx4)
          have m3 : leftOf (w0.heap.size + 2) (W3.setCell ⟨w0.heap.size + 2, 0, none⟩ (.slice (some ⟨ab, ao + (19 + b.size), none⟩) (len - (19 + b.size)) (cap - (19 + b.size)))) = (len - (19 + b.size)) := by unfold leftOf; rw [m2]
          rw [m1, m3]; omega
    · have hA2 := hA1.ag (Ag.of_below hb2)
      have hJ2 := hJl _ _ hJ1 (Ag.of_below hb2) (fun q hq => hb2.block q (by have := hA1.2.1; omega))
      have hA3 := hA2.ag (Ag.alloc _ w2 (.cells #[.int .u8 0, .int .u8 0, .int .u8 0, .int .u32 0, .int .u32 0, .string ⟨#[]⟩] 43))
      have hJ3 := hJl _ _ hJ2 (Ag.alloc _ w2 (.cells #[.int .u8 0, .int .u8 0, .int .u8 0, .int .u32 0, .int .u32 0, .string ⟨#[]⟩] 43)) (fun q hq => Below.heap_alloc _ _ _ (by have := hA2.2.1; omega))
      have HP := hid hp
      rw [show noPk = .agg #[.int .u8 0, .int .u8 0, .int .u8 0, .int .u32 0, .int .u32 0, .string ⟨#[]⟩] from rfl]
      clear hp
      gi_wp2
      refine ⟨fun _ h => (by cases h), ?_⟩
      gi_wp2
      first
        | exact body_end (by kernel_rfl) rfl ⟨⟨_, rfl⟩, pre, r, HC.out, HP.out, hA3, hJ3⟩
        | (refine bodyPost_ret (results_none (by kernel_rfl) _ _ _) rfl ?_; exact ⟨⟨_, rfl⟩, pre, r, HC.out, HP.out, hA3, hJ3⟩)
        | (go_end0; exact ⟨⟨_, rfl⟩, pre, r, HC.out, HP.out, hA3, hJ3⟩)
/-- The record of a loop over a function that yields, laid where the statement begins. -/
def recOf (fn : FuncId) (a : Act) (ps : Array Tmp) (assign body : Code) (D : Nat) (st : LoopState) : Loop := { state := st, pending := none, fn := fn, tmps := a.tmps, params := ps, assign := assign, body := body, defers := D }
/-- A loop over a function that yields, whose body always goes on: what the function's call leaves is what stands behind the loop. -/
theorem range_go {P : Program} {g : Operand} {ps : Array Tmp} {assign body : Code} {Q : Exit → Act → World → Prop} {a : Act} {w : World} {gf : Nat} {lb : Array Value} (hg : a.eval g = .func (.func gf) #[] lb)
    (eg : ∀ args w, (callFunc gf args).run P w = .ok (.enter gf args) w) (post : World → Prop)
    (hit : ∀ fn, CallsIn Fence.wide 2 P gf (#[.func (.yield (w.heap.size + 1)) #[] #[]] ++ lb) ((w.alloc (.deferred (some []))).alloc (.loop (recOf fn a ps assign body w.heap.size .ready))) fun e W' =>
      (∃ v, e = .returned v) ∧ W'.heap[w.heap.size + 1]? = some (.loop (recOf fn a ps assign body w.heap.size .ready)) ∧ W'.heap[w.heap.size]? = some (.deferred (some [])) ∧ post W')
    (hdone : ∀ W' o, post W' → W'.heap[w.heap.size]? = some (.deferred (some [])) → w.heap.size + 1 < W'.heap.size → Q .normal { a with defers := { target := .collected w.heap.size, args := #[] } :: a.defers } (W'.putObj (w.heap.size + 1) o)) :
    (Code.rangeFunc g ps assign body).wpIn Fence.wide 3 P Q a w := by
  refine wpIn_rangeFunc fun fn hfn => ?_
  refine ⟨w.heap.size + 1, [{ target := .collected w.heap.size, args := #[] }], (w.alloc (.deferred (some []))).alloc (.loop (recOf fn a ps assign body w.heap.size .ready)), { target := .fn (.func gf) lb, args := #[.func (.yield (w.heap.size + 1)) #[] #[]] }, (w.alloc (.deferred (some []))).alloc (.loop (recOf fn a ps assign body w.heap.size .ready)), gf, #[.func (.yield (w.heap.size + 1)) #[] #[]] ++ lb, (w.alloc (.deferred (some []))).alloc (.loop (recOf fn a ps assign body w.heap.size .ready)), ?_, ?_, fun _ _ => trivial, ?_, fun _ => by decide, ?_⟩
  · exact run_enterLoop_outer _ _ _ _ _
  · simp only [resolve, hg]
    simp [go_sem]
  · simp [invoke, go_sem, eg]
  · refine (hit fn).mono ?_
    rintro _ W' ⟨⟨v, rfl⟩, hl, hD, hp⟩
    exact ⟨none, _, run_endLoop hl (by simp [recOf]), hdone _ _ hp hD (lt_of_blk hl)⟩
/-- One round of such a loop. -/
theorem round_go {P : Program} {ps : Array Tmp} {assign body : Code} {a : Act} {fn : FuncId} {l D : Nat} {args : Array Value} {W : World} {R : World → Prop} (hl : W.heap[l]? = some (.loop (recOf fn a ps assign body D .ready))) (hs : args.size = ps.size)
    (h : assign.wpIn (Fence.wide.inRound l) 1 P (Exit.then (fun a₁ w₁ => w₁.heap[l]? = some (.loop (recOf fn a ps assign body D .ready)) ∧ body.wpIn (Fence.wide.inRound l) 1 P (fun e _ W3 => e = .normal ∧ W3.heap[l]? = some (.loop (recOf fn a ps assign body D .busy)) ∧ R (W3.putObj l (.loop (recOf fn a ps assign body D .ready)))) a₁ (w₁.putObj l (.loop (recOf fn a ps assign body D .busy)))) (fun _ _ _ => False))
      { tmps := (ps.zip args).foldl (fun t (p, v) => t.setIfInBounds p v) a.tmps, defers := [] } W) :
    YieldAt Fence.wide 1 P l args W fun e W' => e = .returned (.bool true) ∧ R W' := by
  refine ⟨fn, _, assign, body, run_yield (P := P) (args := args) hl hs, roundIn_of_wpIn trivial (wpIn_mono h ?_)⟩
  rintro e a1 w1 he
  cases e with
  | normal =>
    obtain ⟨hl1, hb⟩ := he
    refine ⟨_, run_beginRound hl1 rfl, wpIn_mono hb ?_⟩
    rintro e a3 W3 ⟨rfl, hl3, hR⟩
    exact ⟨_, _, run_endRound (P := P) none hl3, rfl, hR⟩
  | ret => exact he
  | exit id => exact he
  | goto t => exact he
  | panic ch => exact he
  | outgrown => exact he
set_option maxHeartbeats 400000 in
theorem packets_c (a : Option Addr) (len cap : Nat) (w : World) :
    Calls Try.prog 28 #[.slice a len cap] w fun e w' => e = .returned (.func (.func 39) #[] #[.pointer (some ⟨w.heap.size, 0, none⟩)]) ∧ w' = w.alloc (.cells #[.slice a len cap] 44) := by
  go_enter Try.func28, Try.ntmps28
  go_wp2
  go_ret
  exact ⟨rfl, rfl⟩
theorem info_parts25 : ∃ i : TypeInfo, Try.prog.info? 43 = some i ∧ i.zero = some (.agg #[.int .u8 0, .int .u8 0, .int .u8 0, .int .u32 0, .int .u32 0, .string ⟨#[]⟩]) ∧ i.size = 6 ∧ i.bytes = 32 := by
  have h : (Try.prog.info? 43).map (fun i => (i.zero, i.size, i.bytes)) = some (some (.agg #[.int .u8 0, .int .u8 0, .int .u8 0, .int .u32 0, .int .u32 0, .string ⟨#[]⟩]), 6, 32) := by kernel_rfl
  cases hi : Try.prog.info? 43 with
  | none => rw [hi] at h; cases h
  | some i =>
    rw [hi] at h
    simp at h
    exact ⟨i, rfl, h.1, h.2.1, h.2.2⟩
theorem box_grown {W w5 : World} {B : Nat} {base : Nat} {v u : Value} {T n : Nat} {xs : List Value} {e sz : Nat} {o : Obj} (hbx : W.heap[B]? = some o) (hown : W.ownsRow base e sz v n xs) (hB : B < base) {x : Obj} (hgrow : (W.alloc x).grownBy w5 v.ownBlock) : w5.heap[B]? = some o := by
  rw [hgrow.block B (by have := lt_of_blk hbx; simp; omega) (fun e => by have := (hown.lt B e.symm).1; omega), Below.heap_alloc _ _ _ (lt_of_blk hbx)]; exact hbx
/-- What All answers. -/
def AllPost (zs : List Int) (w : World) (e : Ending) (w' : World) : Prop :=
  ∃ ps r v, Cuts zs ps r ∧ (∀ p, ¬ Fr.Begins p r) ∧ e = .returned (.tuple #[v, .int .i64 (encLen ps)]) ∧ w'.ownsRow w.heap.size 43 6 v ps.length (ps.flatMap pkCells) ∧ Below w.heap.size w w'
set_option maxHeartbeats 2000000 in
theorem all_c (a : Option Addr) (len cap : Nat) (zs : List Int) (w : World) (hb : IsB w a len zs) (hlc : len ≤ cap) (hz : zs.length ≤ 1000000) :
    Calls Try.prog 18 #[.slice a len cap] w (AllPost zs w) := by
  have HB := hid hb
  have hfar := hb.2.2.1
  clear hb
  refine (callsIn_wide (n := 3)).1 ?_
  refine callsIn_of_wp_marks Try.func18 rfl trivial ?_ rfl
  simp only [Try.ntmps18, List.size_toArray, List.length_cons, List.length_nil, Nat.reduceAdd, Nat.reduceSub, Array.replicate_succ, Array.replicate_zero, List.push_toArray, List.append_toArray, List.nil_append, List.cons_append]
  gi_wp2_with fail
  refine ⟨trivial, (callsIn_wide.2 (packets_c _ _ _ _)).mono ?_⟩
  rintro _ _ ⟨rfl, rfl⟩
  gi_wp2_with fail
  have hsz : (((w.alloc (.cells #[.slice none 0 0] 52)).alloc (.cells #[.int .i64 0] 3)).alloc (.cells #[.slice a len cap] 44)).heap.size = w.heap.size + 3 := by simp
  have hA0 : Below w.heap.size w (((w.alloc (.cells #[.slice none 0 0] 52)).alloc (.cells #[.int .i64 0] 3)).alloc (.cells #[.slice a len cap] 44)) := (((Below.refl _ _).alloc (Nat.le_refl _) _).alloc (by simp) _).alloc (by simp; omega) _
  have hx0 : (((w.alloc (.cells #[.slice none 0 0] 52)).alloc (.cells #[.int .i64 0] 3)).alloc (.cells #[.slice a len cap] 44)).heap[w.heap.size]? = some (.cells #[.slice none 0 0] 52 (0, 0)) := by
    rw [Below.heap_alloc _ _ _ (by simp; omega), Below.heap_alloc _ _ _ (by simp)]; exact heap_alloc_new w _
  have hx1 : (((w.alloc (.cells #[.slice none 0 0] 52)).alloc (.cells #[.int .i64 0] 3)).alloc (.cells #[.slice a len cap] 44)).heap[w.heap.size + 1]? = some (.cells #[.int .i64 0] 3 (0, 0)) := by
    rw [Below.heap_alloc _ _ _ (by simp)]; have := heap_alloc_new (w.alloc (.cells #[.slice none 0 0] 52)) (.cells #[.int .i64 0] 3); rwa [World.size_alloc] at this
  have hx2 : (((w.alloc (.cells #[.slice none 0 0] 52)).alloc (.cells #[.int .i64 0] 3)).alloc (.cells #[.slice a len cap] 44)).heap[w.heap.size + 2]? = some (.cells #[.slice a len cap] 44 (0, 0)) := by
    have := heap_alloc_new ((w.alloc (.cells #[.slice none 0 0] 52)).alloc (.cells #[.int .i64 0] 3)) (.cells #[.slice a len cap] 44); simpa using this
  generalize (((w.alloc (.cells #[.slice none 0 0] 52)).alloc (.cells #[.int .i64 0] 3)).alloc (.cells #[.slice a len cap] 44)) = W at *
  refine range_go (gf := 39) (lb := #[.pointer (some ⟨w.heap.size + 2, 0, none⟩)]) rfl (enters_of Try.func39 (by kernel_rfl) rfl) (fun W' => ∃ ps r, Cuts zs ps r ∧ (∀ p, ¬ Fr.Begins p r) ∧ AI w ps W') ?_ ?_
  · intro fn
    generalize hR : recOf fn _ _ _ _ _ = R
    have h4 : W.heap.size + 1 = w.heap.size + 4 := by omega
    have hD1 : ((W.alloc (.deferred (some []))).alloc (.loop (R .ready))).heap[w.heap.size + 3]? = some (.deferred (some [])) := by
      rw [Below.heap_alloc _ _ _ (by simp; omega), ← hsz]; exact heap_alloc_new W _
    have hL1 : ((W.alloc (.deferred (some []))).alloc (.loop (R .ready))).heap[w.heap.size + 4]? = some (.loop (R .ready)) := by
      have := heap_alloc_new (W.alloc (.deferred (some []))) (.loop (R .ready)); rw [World.size_alloc, h4] at this; exact this
    have hB1 : Below W.heap.size W ((W.alloc (.deferred (some []))).alloc (.loop (R .ready))) := ((Below.refl _ _).alloc (Nat.le_refl _) _).alloc (by simp) _
    have hz1 : w.heap.size + 5 ≤ ((W.alloc (.deferred (some []))).alloc (.loop (R .ready))).heap.size := by simp; omega
    generalize ((W.alloc (.deferred (some []))).alloc (.loop (R .ready))) = W1 at *
    rw [hsz, show w.heap.size + 3 + 1 = w.heap.size + 4 from rfl]
    refine (packets1_in w (w.heap.size + 4) zs hz (fun V => V.heap[w.heap.size + 4]? = some (.loop (R .ready)) ∧ V.heap[w.heap.size + 3]? = some (.deferred (some [])))
      (fun A B h g hk => ⟨(hk _ (.inr rfl)).trans h.1, (hk _ (.inl rfl)).trans h.2⟩) ?_ W1
      ⟨hA0.trans (hB1.mono hA0.size), hz1, ⟨_, by rw [hB1.block _ (by omega)]; exact hx0, World.ownsRow_nil _ _ _ _⟩, by rw [hB1.block _ (by omega)]; exact hx1⟩ ⟨hL1, hD1⟩
      ⟨zs, a, len, cap, Cuts.nil _, by rw [hB1.block _ (by omega)]; exact hx2, HB.out.later (hA0.trans (hB1.mono hA0.size)), hlc, fun b off sp hp e => by
        obtain ⟨b', off', e', hc⟩ := hfar hp
        rw [e] at e'
        cases e'
        exact World.block_lt_of_cell? w _ (hc 0 hp)⟩).mono ?_
    · intro pre p V hA hJ hlen hwf
      have hlen' := enc_many (pre ++ [p])
      rw [List.length_append, encLen_snoc] at hlen'
      rw [encLen_snoc] at hlen
      simp only [List.length_cons, List.length_nil] at hlen'
      rw [hsz] at hR
      obtain ⟨k, f, t, e, s, b⟩ := p
      simp only at hlen hlen'
      subst hR
      refine round_go hJ.1 (by rfl) ?_
      rw [show Fr.val ⟨k, f, t, e, s, b⟩ = .agg #[.int .u8 k, .int .u8 f, .int .u8 t, .int .u32 e, .int .u32 s, .string b] from rfl]
      gi_wp2
      have hVz := hA.2.1
      generalize Obj.loop (recOf fn _ _ _ _ (w.heap.size + 3) LoopState.ready) = Rr at *
      generalize Obj.loop (recOf fn _ _ _ _ (w.heap.size + 3) LoopState.busy) = Rb at *
      refine ⟨by rw [Below.heap_alloc _ _ _ (by omega)]; exact hJ.1, ?_⟩
      have hA2 := (hA.ag (Ag.alloc _ V (.cells #[.int .u8 k, .int .u8 f, .int .u8 t, .int .u32 e, .int .u32 s, .string b] 43))).ag (Ag.put (w.heap.size + 2) _ (w.heap.size + 4) (by omega) Rb)
      have hP2 : PB ((V.alloc (.cells #[.int .u8 k, .int .u8 f, .int .u8 t, .int .u32 e, .int .u32 s, .string b] 43)).putObj (w.heap.size + 4) Rb) V.heap.size ⟨k, f, t, e, s, b⟩ := by
        unfold PB; rw [World.putObj_heap_other (by omega)]; exact heap_alloc_new V _
      have hl2 : ((V.alloc (.cells #[.int .u8 k, .int .u8 f, .int .u8 t, .int .u32 e, .int .u32 s, .string b] 43)).putObj (w.heap.size + 4) Rb).heap[w.heap.size + 4]? = some Rb := World.putObj_heap_same (by simp; omega)
      have hd2 : ((V.alloc (.cells #[.int .u8 k, .int .u8 f, .int .u8 t, .int .u32 e, .int .u32 s, .string b] 43)).putObj (w.heap.size + 4) Rb).heap[w.heap.size + 3]? = some (.deferred (some [])) := by
        rw [World.putObj_heap_other (by omega), Below.heap_alloc _ _ _ (by omega)]; exact hJ.2
      have hx2' : ((V.alloc (.cells #[.int .u8 k, .int .u8 f, .int .u8 t, .int .u32 e, .int .u32 s, .string b] 43)).putObj (w.heap.size + 4) Rb).heap[w.heap.size + 2]? = V.heap[w.heap.size + 2]? := by
        rw [World.putObj_heap_other (by omega), Below.heap_alloc _ _ _ (by omega)]
      have hbV : Below w.heap.size V ((V.alloc (.cells #[.int .u8 k, .int .u8 f, .int .u8 t, .int .u32 e, .int .u32 s, .string b] 43)).putObj (w.heap.size + 4) Rb) := ((Below.refl _ _).alloc (by omega) _).trans ⟨rfl, rfl, rfl, by simp, fun q hq => World.putObj_heap_other (by omega)⟩
      generalize ((V.alloc (.cells #[.int .u8 k, .int .u8 f, .int .u8 t, .int .u32 e, .int .u32 s, .string b] 43)).putObj (w.heap.size + 4) Rb) = V2 at *
      obtain ⟨hB2, hz2', ⟨v, hv, hown⟩, he⟩ := hA2
      obtain ⟨c0, c1, c2, c3, c4, c5⟩ := hP2.cells
      have g0 := cell_box hv
      have g1 := cell_box he
      obtain ⟨i0, hi, hz0, hz1', hz2⟩ := info_parts25
      gi_wp2_with (gi_at_builtin; refine wpListIn_append_own _ rfl _ _ 52 rfl (w.heap.size + 5) 43 i0 _ 6 32 Try.underlying52 hi hz0 hz1' hz2 rfl (by decide) _ _ _ rfl (hown.alloc _) ⟨V2.heap.size, 0, none⟩ 1 1 (pkCells ⟨k, f, t, e, s, b⟩) rfl rfl (World.news_of_block (heap_alloc_new V2 _)) (by intro u hu; simp [pkCells] at hu; rcases hu with rfl | rfl | rfl | rfl | rfl | rfl <;> rfl) (by unfold maxLen; omega) (by omega) (by simp; omega) ?_; intro v' w5 hown' hgrow5 hnil5; (have bv := box_grown (u := v) (T := 0) hv hown (by omega) hgrow5); (have be := box_grown (u := v) (T := 0) he hown (by omega) hgrow5); (have bl := box_grown (u := v) (T := 0) hl2 hown (by omega) hgrow5); (have bd := box_grown (u := v) (T := 0) hd2 hown (by omega) hgrow5); (have d0 := cell_box bv); (have d1 := cell_box be); (have df0 := frozen_box bv); (have df1 := frozen_box be); (obtain ⟨a5, n5, c5', rfl⟩ := own_slice hown'))
      have bb := hx2'
      have hb5 : Below w.heap.size V2 w5 := Below.grown ((Below.refl _ _).alloc (by omega) _) hgrow5 (by simp; omega) (fun q hq => by have := (hown.lt q hq).1; omega)
      have hz5 := hb5.size
      have b2 : w5.heap[w.heap.size + 2]? = V.heap[w.heap.size + 2]? := by
        rw [hgrow5.block _ (by simp; omega) (fun e => by have := (hown.lt _ e.symm).1; omega), Below.heap_alloc _ _ _ (by omega)]; exact bb
      have hn : (encLen pre : Int) + (19 + (b.size : Int)) = (encLen (pre ++ [⟨k, f, t, e, s, b⟩]) : Nat) := by rw [encLen_snoc]; simp only; omega
      rw [hn]
      have oth : ∀ q, q ≠ w.heap.size → q ≠ w.heap.size + 1 → ((w5.setCell ⟨w.heap.size, 0, none⟩ (.slice a5 n5 c5')).setCell ⟨w.heap.size + 1, 0, none⟩ (.int .i64 (encLen (pre ++ [⟨k, f, t, e, s, b⟩]) : Nat))).heap[q]? = w5.heap[q]? := fun q h1 h2 => by
        rw [heap_setCell_other _ _ _ _ h2, heap_setCell_other _ _ _ _ h1]
      have hAX : AI w (pre ++ [⟨k, f, t, e, s, b⟩]) ((w5.setCell ⟨w.heap.size, 0, none⟩ (.slice a5 n5 c5')).setCell ⟨w.heap.size + 1, 0, none⟩ (.int .i64 (encLen (pre ++ [⟨k, f, t, e, s, b⟩]) : Nat))) := by
        refine ⟨((hB2.trans hb5).setCell (Nat.le_refl _) _).setCell (Nat.le_succ _) _, by simp [World.setCell]; omega, ⟨_, by rw [heap_setCell_other _ _ _ _ (by simp)]; exact heap_setBox _ bv, ?_⟩, heap_setBox (v := .int .i64 (encLen pre)) _ (by rw [heap_setCell_other _ _ _ _ (by simp)]; exact be)⟩
        have := ownsRow_setCell_below (ownsRow_setCell_below hown' (a := ⟨w.heap.size, 0, none⟩) (by simp only; omega) (.slice a5 n5 c5')) (a := ⟨w.heap.size + 1, 0, none⟩) (by simp only; omega) (.int .i64 (encLen (pre ++ [⟨k, f, t, e, s, b⟩]) : Nat))
        simpa using this
      have hbX : Below w.heap.size V ((w5.setCell ⟨w.heap.size, 0, none⟩ (.slice a5 n5 c5')).setCell ⟨w.heap.size + 1, 0, none⟩ (.int .i64 (encLen (pre ++ [⟨k, f, t, e, s, b⟩]) : Nat))) := ((hbV.trans hb5).setCell (Nat.le_refl _) _).setCell (Nat.le_succ _) _
      refine ⟨by rw [oth _ (by omega) (by omega)]; exact bl, hAX.ag (Ag.put _ _ _ (by omega) _), ⟨World.putObj_heap_same (by simp [World.setCell]; omega), by rw [World.putObj_heap_other (by omega), oth _ (by omega) (by omega)]; exact bd⟩, by rw [World.putObj_heap_other (by omega), oth _ (by omega) (by omega)]; exact b2, hbX.trans ⟨rfl, rfl, rfl, by simp, fun q hq => World.putObj_heap_other (by omega)⟩⟩
    · rintro e V ⟨he, ps, r, hC, hN, hA, hJ⟩
      exact ⟨he, hJ.1, hJ.2, ps, r, hC, hN, hA⟩
  · rintro W' o ⟨ps, r, hC, hN, hA⟩ hD hl
    rw [hsz] at hD hl ⊢
    have hA2 := hA.ag (Ag.put (w.heap.size + 2) W' (w.heap.size + 3 + 1) (by omega) o)
    have hD2 : (W'.putObj (w.heap.size + 3 + 1) o).heap[w.heap.size + 3]? = some (.deferred (some [])) := (World.putObj_heap_other (by omega)).trans hD
    generalize W'.putObj (w.heap.size + 3 + 1) o = W2 at *
    obtain ⟨hB2, hz2, ⟨v, hv, hown⟩, he⟩ := hA2
    have c0 := cell_box hv
    have c1 := cell_box he
    gi_wp2_with fail
    gi_region
    gi_wp2
    have hB3 : Below w.heap.size w (W2.drew.putObj (w.heap.size + 3) (.deferred none)) := (Below.drew hB2).trans ⟨rfl, rfl, rfl, by simp, fun q hq => World.putObj_heap_other (by omega)⟩
    have hO3 : (W2.drew.putObj (w.heap.size + 3) (.deferred none)).ownsRow w.heap.size 43 6 v ps.length (ps.flatMap pkCells) := by
      refine own_mono (base := w.heap.size + 5) ⟨hown.1, ?_⟩ (by omega)
      rcases hown.2 with h | ⟨q, cap', cur, e1, e2, e3, e4⟩
      · exact .inl h
      · exact .inr ⟨q, cap', cur, e1, e2, by rw [World.putObj_heap_other (by omega)]; exact e3, e4⟩
    refine ⟨by simp, .inl ⟨_, _, rfl, run_takeDeferred (w := W2.drew) hD2, ?_⟩⟩
    exact ⟨.tuple #[v, .int .i64 (encLen ps)], by simp [results, Try.results18, go_sem], ps, r, v, hC, hN, rfl, hO3, hB3⟩
end Go.Proofs.Yteimegacnmakaac
