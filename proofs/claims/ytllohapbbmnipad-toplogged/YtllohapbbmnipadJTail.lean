/-
  tail of the package journal: how many groups an area has, and the first sector behind them.
-/
import Derived.Test.YtllohapbbmnipadJIter
namespace Go.Proofs.Ytllohapbbmnipad
open Go.RowKit Go.ChangeShapes Go.WideShapes Go.ChangeAt Go.Maps Go.Shelf
attribute [local go_sem] Oper.semAt_some
set_option linter.unusedVariables false
set_option linter.unusedSimpArgs false
set_option maxHeartbeats 400000 in
theorem groups_c (j : Nat) (k t st en : Int) (w : World) :
    Calls Try.prog 16 #[pB j, .agg #[.int .i64 k, .int .u32 t, .int .i64 st, .int .i64 en]] w fun e w' => e = .returned (.func (.func 33) #[] #[.pointer (some ⟨w.heap.size, 0, none⟩), .pointer (some ⟨w.heap.size + 1, 0, none⟩)]) ∧ w' = (w.alloc (.cells #[pB j] 24)).alloc (.cells #[.int .i64 k, .int .u32 t, .int .i64 st, .int .i64 en] 60) := by
  go_enter Try.func16, Try.ntmps16
  go_wp2
  go_ret
  exact ⟨rfl, rfl⟩
def sumN (gs : List Jo.Gr) : Nat := (gs.map Jo.needF).sum
theorem sumN_snoc (gs : List Jo.Gr) (g : Jo.Gr) : sumN (gs ++ [g]) = sumN gs + Jo.needF g := by unfold sumN; simp
theorem need_le (g : Jo.Gr) : Jo.needF g ≤ 5000 := by
  unfold Jo.needF
  split
  · rename_i h; have := (Jo.ok_load h).2; unfold Jo.secsOf Jo.many; omega
  · omega
theorem sumN_le (gs : List Jo.Gr) : sumN gs ≤ 5000 * gs.length := by
  induction gs with
  | nil => simp [sumN]
  | cons g gs ih => have := need_le g; unfold sumN at *; simp; omega
theorem alloc5 (w : World) (o0 o1 o2 o3 o4 : Obj) : (((((w.alloc o0).alloc o1).alloc o2).alloc o3).alloc o4).heap.size = w.heap.size + 5 ∧ Below w.heap.size w (((((w.alloc o0).alloc o1).alloc o2).alloc o3).alloc o4) ∧
    (((((w.alloc o0).alloc o1).alloc o2).alloc o3).alloc o4).heap[w.heap.size]? = some o0 ∧ (((((w.alloc o0).alloc o1).alloc o2).alloc o3).alloc o4).heap[w.heap.size + 1]? = some o1 ∧ (((((w.alloc o0).alloc o1).alloc o2).alloc o3).alloc o4).heap[w.heap.size + 2]? = some o2 ∧
    (((((w.alloc o0).alloc o1).alloc o2).alloc o3).alloc o4).heap[w.heap.size + 3]? = some o3 ∧ (((((w.alloc o0).alloc o1).alloc o2).alloc o3).alloc o4).heap[w.heap.size + 4]? = some o4 := by
  have n0 := heap_alloc_new w o0
  have A0 := alloc_facts w o0
  generalize w.alloc o0 = a at *
  have n1 := heap_alloc_new a o1
  have A1 := alloc_facts a o1
  generalize a.alloc o1 = b at *
  have n2 := heap_alloc_new b o2
  have A2 := alloc_facts b o2
  generalize b.alloc o2 = c at *
  have n3 := heap_alloc_new c o3
  have A3 := alloc_facts c o3
  generalize c.alloc o3 = d at *
  have n4 := heap_alloc_new d o4
  have A4 := alloc_facts d o4
  generalize d.alloc o4 = e at *
  have s0 := A0.1
  have s1 := A1.1
  have s2 := A2.1
  have s3 := A3.1
  have s4 := A4.1
  rw [s0] at n1
  rw [s1, s0] at n2
  rw [s2, s1, s0] at n3
  rw [s3, s2, s1, s0] at n4
  refine ⟨by omega, (((((alloc_below A0 (Nat.le_refl _))).trans (alloc_below A1 (by omega))).trans (alloc_below A2 (by omega))).trans (alloc_below A3 (by omega))).trans (alloc_below A4 (by omega)), ?_, ?_, ?_, ?_, n4⟩
  · rw [A4.2.1 _ (by omega), A3.2.1 _ (by omega), A2.2.1 _ (by omega), A1.2.1 _ (by omega)]; exact n0
  · rw [A4.2.1 _ (by omega), A3.2.1 _ (by omega), A2.2.1 _ (by omega)]; exact n1
  · rw [A4.2.1 _ (by omega), A3.2.1 _ (by omega)]; exact n2
  · rw [A4.2.1 _ (by omega)]; exact n3
/-- Rows of sectors stay. -/
def KS (V W' : World) : Prop := ∀ (q : Nat) (cur : Array Value) (fr : Nat × Nat), V.heap[q]? = some (Obj.cells cur 90 fr) → W'.heap[q]? = V.heap[q]?
/-- What tail has counted so far. -/
def TI (w : World) (j : Nat) (k t : Int) (st en : Nat) (R : Obj) (gs : List Jo.Gr) (V : World) : Prop :=
  Below w.heap.size w V ∧ w.heap.size + 7 ≤ V.heap.size ∧ V.heap[w.heap.size + 1]? = some (.cells #[.int .u32 (gs.length : Nat)] 39 (0, 0)) ∧ V.heap[w.heap.size + 2]? = some (.cells #[.int .i64 ((st + sumN gs : Nat) : Int)] 3 (0, 0)) ∧
  V.heap[w.heap.size + 3]? = some (.cells #[pB j] 24 (0, 0)) ∧ V.heap[w.heap.size + 4]? = some (.cells #[.int .i64 k, .int .u32 t, .int .i64 st, .int .i64 en] 60 (0, 0)) ∧
  V.heap[w.heap.size + 5]? = some (.deferred (some [])) ∧ V.heap[w.heap.size + 6]? = some R
theorem TI.later {w V V' : World} {j : Nat} {k t : Int} {st en : Nat} {R : Obj} {gs : List Jo.Gr} (h : TI w j k t st en R gs V) (hb : Below V.heap.size V V') : TI w j k t st en R gs V' := by
  obtain ⟨h1, h2, h3, h4, h5, h6, h7, h8⟩ := h
  refine ⟨h1.trans (hb.mono (by omega)), Nat.le_trans h2 hb.size, ?_, ?_, ?_, ?_, ?_, ?_⟩
  all_goals (rw [hb.block _ (by omega)]; assumption)
theorem TI.next {w V : World} {j : Nat} {k t : Int} {st en : Nat} {r : Loop} {Rb : Obj} {gs : List Jo.Gr} {g : Jo.Gr} {u v : Int} (h : TI w j k t st en (.loop r) gs V) (hu : u = ((gs ++ [g]).length : Nat)) (hv : v = ((st + sumN (gs ++ [g]) : Nat) : Int)) :
    (((V.putObj (w.heap.size + 6) Rb).setCell ⟨w.heap.size + 1, 0, none⟩ (.int .u32 u)).setCell ⟨w.heap.size + 2, 0, none⟩ (.int .i64 v)).heap[w.heap.size + 6]? = some Rb ∧
    TI w j k t st en (.loop r) (gs ++ [g]) ((((V.putObj (w.heap.size + 6) Rb).setCell ⟨w.heap.size + 1, 0, none⟩ (.int .u32 u)).setCell ⟨w.heap.size + 2, 0, none⟩ (.int .i64 v)).putObj (w.heap.size + 6) (.loop r)) ∧
    V.heap.size ≤ ((((V.putObj (w.heap.size + 6) Rb).setCell ⟨w.heap.size + 1, 0, none⟩ (.int .u32 u)).setCell ⟨w.heap.size + 2, 0, none⟩ (.int .i64 v)).putObj (w.heap.size + 6) (.loop r)).heap.size ∧
    ∀ (q : Nat) (cur : Array Value) (fr : Nat × Nat), V.heap[q]? = some (Obj.cells cur 90 fr) → ((((V.putObj (w.heap.size + 6) Rb).setCell ⟨w.heap.size + 1, 0, none⟩ (.int .u32 u)).setCell ⟨w.heap.size + 2, 0, none⟩ (.int .i64 v)).putObj (w.heap.size + 6) (.loop r)).heap[q]? = V.heap[q]? := by
  obtain ⟨h1, h2, h3, h4, h5, h6, h7, h8⟩ := h
  subst hu
  subst hv
  have oth : ∀ q, q ≠ w.heap.size + 1 → q ≠ w.heap.size + 2 → q ≠ w.heap.size + 6 → ((((V.putObj (w.heap.size + 6) Rb).setCell ⟨w.heap.size + 1, 0, none⟩ (.int .u32 ((gs ++ [g]).length : Nat))).setCell ⟨w.heap.size + 2, 0, none⟩ (.int .i64 ((st + sumN (gs ++ [g]) : Nat) : Int))).putObj (w.heap.size + 6) (.loop r)).heap[q]? = V.heap[q]? := fun q a1 a2 a3 => by
    rw [World.putObj_heap_other a3, heap_setCell_other _ _ _ _ a2, heap_setCell_other _ _ _ _ a1, World.putObj_heap_other a3]
  refine ⟨?_, ⟨⟨h1.os, h1.tape, h1.output, by simp [World.setCell]; omega, fun q hq => by rw [oth q (by omega) (by omega) (by omega)]; exact h1.block q hq⟩, by simp [World.setCell]; omega, ?_, ?_, ?_, ?_, ?_, World.putObj_heap_same (by simp [World.setCell]; omega)⟩, by simp [World.setCell], ?_⟩
  · rw [heap_setCell_other _ _ _ _ (by simp), heap_setCell_other _ _ _ _ (by simp)]; exact World.putObj_heap_same (by omega)
  · rw [World.putObj_heap_other (by omega), heap_setCell_other _ _ _ _ (by simp)]; exact heap_setBox _ (by rw [World.putObj_heap_other (by omega)]; exact h3)
  · rw [World.putObj_heap_other (by omega)]; exact heap_setBox _ (by rw [heap_setCell_other _ _ _ _ (by simp), World.putObj_heap_other (by omega)]; exact h4)
  · rw [oth _ (by omega) (by omega) (by omega)]; exact h5
  · rw [oth _ (by omega) (by omega) (by omega)]; exact h6
  · rw [oth _ (by omega) (by omega) (by omega)]; exact h7
  · intro q cur fr hq
    refine oth q ?_ ?_ ?_
    · rintro rfl; rw [h3] at hq; have := Option.some.inj hq; injection this with a b c; exact absurd b (by decide)
    · rintro rfl; rw [h4] at hq; have := Option.some.inj hq; injection this with a b c; exact absurd b (by decide)
    · rintro rfl; rw [h8] at hq; cases hq
set_option maxRecDepth 20000 in
set_option maxHeartbeats 4000000 in
theorem tail_c {w : World} {j d b1 b2 N : Nat} {on : Int → Sec} {c : Int → Option Sec} (h : IsJ w j d b1 b2 N on c) (k t : Int) (st en : Nat) (hse : st ≤ en) (hen : en ≤ N) (ht : 0 ≤ t ∧ t < 4294967296) :
    Calls Try.prog 40 #[pB j, arV k t st en] w fun e w' => e = .returned (.tuple #[.int .u32 ((allG t (secs (vw on c) st (en - st))).length : Nat), .int .i64 ((st + sumN (allG t (secs (vw on c) st (en - st))) : Nat) : Int)]) ∧ Below w.heap.size w w' := by
  unfold arV
  have hN := h.2.1.two
  have H := hid h
  clear h
  refine (callsIn_wide (n := 3)).1 ?_
  refine callsIn_of_wp_marks Try.func40 rfl trivial ?_ rfl
  simp only [Try.ntmps40, List.size_toArray, List.length_cons, List.length_nil, Nat.reduceAdd, Nat.reduceSub, Array.replicate_succ, Array.replicate_zero, List.push_toArray, List.append_toArray, List.nil_append, List.cons_append]
  gi_wp2_with fail
  refine ⟨trivial, (callsIn_wide.2 (groups_c j k t st en _)).mono ?_⟩
  rintro _ _ ⟨rfl, rfl⟩
  gi_wp2_with fail
  obtain ⟨hsz, hA0, x0, x1, x2, x3, x4⟩ := alloc5 w (.cells #[.int .i64 k, .int .u32 t, .int .i64 st, .int .i64 en] 60) (.cells #[.int .u32 0] 39) (.cells #[.int .i64 st] 3) (.cells #[pB j] 24) (.cells #[.int .i64 k, .int .u32 t, .int .i64 st, .int .i64 en] 60)
  generalize (((((w.alloc (.cells #[.int .i64 k, .int .u32 t, .int .i64 st, .int .i64 en] 60)).alloc (.cells #[.int .u32 0] 39)).alloc (.cells #[.int .i64 st] 3)).alloc (.cells #[pB j] 24)).alloc (.cells #[.int .i64 k, .int .u32 t, .int .i64 st, .int .i64 en] 60)) = W0 at *
  refine Rg.range_go (gf := 33) (lb := #[.pointer (some ⟨w.heap.size + 3, 0, none⟩), .pointer (some ⟨w.heap.size + 4, 0, none⟩)]) (by first | rfl | simp) (enters_of Try.func33 (by kernel_rfl) rfl) (fun W' => ∃ R, TI w j k t st en R (allG t (secs (vw on c) st (en - st))) W') ?_ ?_
  · intro fn
    generalize hR : Rg.recOf fn _ _ _ _ _ = R
    have h6 : W0.heap.size + 1 = w.heap.size + 6 := by omega
    have hD1 : ((W0.alloc (.deferred (some []))).alloc (.loop (R .ready))).heap[w.heap.size + 5]? = some (.deferred (some [])) := by
      rw [Below.heap_alloc _ _ _ (by simp; omega), ← hsz]; exact heap_alloc_new W0 _
    have hL1 : ((W0.alloc (.deferred (some []))).alloc (.loop (R .ready))).heap[w.heap.size + 6]? = some (.loop (R .ready)) := by
      have := heap_alloc_new (W0.alloc (.deferred (some []))) (.loop (R .ready)); rw [World.size_alloc, h6] at this; exact this
    have hB1 : Below W0.heap.size W0 ((W0.alloc (.deferred (some []))).alloc (.loop (R .ready))) := ((Below.refl _ _).alloc (Nat.le_refl _) _).alloc (by simp) _
    have hz1 : w.heap.size + 7 ≤ ((W0.alloc (.deferred (some []))).alloc (.loop (R .ready))).heap.size := by simp; omega
    generalize ((W0.alloc (.deferred (some []))).alloc (.loop (R .ready))) = W1 at *
    have hBW : Below w.heap.size w W1 := hA0.trans (hB1.mono (by omega))
    have t3 : W1.heap[w.heap.size + 3]? = some (.cells #[pB j] 24 (0, 0)) := by rw [hB1.block _ (by omega)]; exact x3
    have t4 : W1.heap[w.heap.size + 4]? = some (.cells #[.int .i64 k, .int .u32 t, .int .i64 st, .int .i64 en] 60 (0, 0)) := by rw [hB1.block _ (by omega)]; exact x4
    rw [hsz, show w.heap.size + 5 + 1 = w.heap.size + 6 from rfl]
    refine (groups1_in (w.heap.size + 6) (w.heap.size + 3) (w.heap.size + 4) j d b1 b2 N on c k t st en hse hen ht W1 (TI w j k t st en (.loop (R .ready))) (H.out.later hBW) t3 t4 (fun gs V V' h hb => h.later hb) (fun gs V h => h.2.2.2.2.2.1) ?_ ?_).mono ?_
    · intro gs g v V hT hVz hP hgl
      rw [hsz] at hR
      subst hR
      have hn5 := need_le g
      have hs5 := sumN_le gs
      have hsn := sumN_snoc gs g
      have NX := fun (Rb : Obj) (u v : Int) hu hv => TI.next (g := g) (Rb := Rb) (u := u) (v := v) hT hu hv
      refine Rg.round_go (R := fun W' => TI w j k t st en _ (gs ++ [g]) W' ∧ W1.heap.size ≤ W'.heap.size ∧ KS V W') hT.2.2.2.2.2.2.2 (by rfl) ?_
      gi_wp2
      refine ⟨hT.2.2.2.2.2.2.2, ?_⟩
      generalize Obj.loop (Rg.recOf fn _ _ _ _ (w.heap.size + 5) LoopState.busy) = Rb at *
      have b1 : (V.putObj (w.heap.size + 6) Rb).heap[w.heap.size + 1]? = some (.cells #[.int .u32 (gs.length : Nat)] 39 (0, 0)) := by rw [World.putObj_heap_other (by omega)]; exact hT.2.2.1
      have b2 : (V.putObj (w.heap.size + 6) Rb).heap[w.heap.size + 2]? = some (.cells #[.int .i64 ((st + sumN gs : Nat) : Int)] 3 (0, 0)) := by rw [World.putObj_heap_other (by omega)]; exact hT.2.2.2.1
      have c1 := cell_box b1
      have c2 := cell_box b2
      have f1 := frozen_box b1
      have f2 := frozen_box b2
      have NX1 := hid (NX Rb ((gs.length : Int) + 1) (((st + sumN gs : Nat) : Int) + (Jo.needF g : Nat)) (by simp) (by rw [hsn]; push_cast; omega))
      have hVz2 := hid hVz
      clear NX b1 b2 hsn hP
      generalize Jo.needF g = ng at *
      generalize hq : st + sumN gs = q at *
      have hqb : q ≤ 20000000 := by omega
      clear hq
      generalize V.putObj (w.heap.size + 6) Rb = V1 at *
      gi_wp2
      exact ⟨NX1.out.1, NX1.out.2.1, by have a := hVz2.out; have b := NX1.out.2.2.1; simp [World.setCell] at b ⊢; omega, NX1.out.2.2.2⟩
    · exact ⟨hBW, hz1, by rw [hB1.block _ (by omega)]; exact x1, by rw [hB1.block _ (by omega)]; simpa [sumN] using x2, t3, t4, hD1, hL1⟩
    · rintro e V ⟨he, hG⟩
      exact ⟨he, hG.2.2.2.2.2.2.2, hG.2.2.2.2.2.2.1, _, hG⟩
  · rintro W' o ⟨R, hG⟩ hD hl
    rw [hsz] at hD hl ⊢
    have hG2 : ∀ q, q ≠ w.heap.size + 6 → (W'.putObj (w.heap.size + 5 + 1) o).heap[q]? = W'.heap[q]? := fun q hq => World.putObj_heap_other (by omega)
    have z1 : (W'.putObj (w.heap.size + 5 + 1) o).heap[w.heap.size + 1]? = some (.cells #[.int .u32 ((allG t (secs (vw on c) st (en - st))).length : Nat)] 39 (0, 0)) := by rw [hG2 _ (by omega)]; exact hG.2.2.1
    have z2 : (W'.putObj (w.heap.size + 5 + 1) o).heap[w.heap.size + 2]? = some (.cells #[.int .i64 ((st + sumN (allG t (secs (vw on c) st (en - st))) : Nat) : Int)] 3 (0, 0)) := by rw [hG2 _ (by omega)]; exact hG.2.2.2.1
    have z5 : (W'.putObj (w.heap.size + 5 + 1) o).heap[w.heap.size + 5]? = some (.deferred (some [])) := by rw [hG2 _ (by omega)]; exact hD
    have hBB : Below w.heap.size w (W'.putObj (w.heap.size + 5 + 1) o) := hG.1.trans ⟨rfl, rfl, rfl, by simp, fun q hq => hG2 q (by omega)⟩
    clear hG hG2 hD hl
    generalize W'.putObj (w.heap.size + 5 + 1) o = W2 at *
    obtain ⟨A, hA⟩ : ∃ A, A = (allG t (secs (vw on c) st (en - st))).length := ⟨_, rfl⟩
    obtain ⟨B, hBe⟩ : ∃ B, B = st + sumN (allG t (secs (vw on c) st (en - st))) := ⟨_, rfl⟩
    rw [← hA] at z1
    rw [← hBe] at z2
    have HA := hid hA
    have HBe := hid hBe
    have Z1 := hid z1
    have Z2 := hid z2
    clear hA hBe
    have c1 := cell_box z1
    have c2 := cell_box z2
    have f1 := frozen_box z1
    have f2 := frozen_box z2
    gi_wp2_with fail
    gi_region
    all_goals
      gi_wp2
    all_goals
      have y0 : ((W2.setCell ⟨w.heap.size + 1, 0, none⟩ (.int .u32 (A : Nat))).setCell ⟨w.heap.size + 1 + 1, 0, none⟩ (.int .i64 (B : Nat))).drew.heap[w.heap.size + 5]? = some (.deferred (some [])) := by
        show ((W2.setCell ⟨w.heap.size + 1, 0, none⟩ (.int .u32 (A : Nat))).setCell ⟨w.heap.size + 1 + 1, 0, none⟩ (.int .i64 (B : Nat))).heap[w.heap.size + 5]? = _
        rw [heap_setCell_other _ _ _ _ (by simp only; omega), heap_setCell_other _ _ _ _ (by simp only; omega)]; exact z5
      have y1 : (((W2.setCell ⟨w.heap.size + 1, 0, none⟩ (.int .u32 (A : Nat))).setCell ⟨w.heap.size + 1 + 1, 0, none⟩ (.int .i64 (B : Nat))).drew.putObj (w.heap.size + 5) (.deferred none)).cell? ⟨w.heap.size + 1, 0, none⟩ = some (.int .u32 (A : Nat)) := by
        refine cell_box (T := 39) ?_
        rw [World.putObj_heap_other (by omega)]
        show ((W2.setCell ⟨w.heap.size + 1, 0, none⟩ (.int .u32 (A : Nat))).setCell ⟨w.heap.size + 1 + 1, 0, none⟩ (.int .i64 (B : Nat))).heap[w.heap.size + 1]? = _
        rw [heap_setCell_other _ _ _ _ (by simp only; omega)]; exact heap_setBox _ Z1.out
      have y2 : (((W2.setCell ⟨w.heap.size + 1, 0, none⟩ (.int .u32 (A : Nat))).setCell ⟨w.heap.size + 1 + 1, 0, none⟩ (.int .i64 (B : Nat))).drew.putObj (w.heap.size + 5) (.deferred none)).cell? ⟨w.heap.size + 1 + 1, 0, none⟩ = some (.int .i64 (B : Nat)) := by
        refine cell_box (T := 3) ?_
        rw [World.putObj_heap_other (by omega)]
        show ((W2.setCell ⟨w.heap.size + 1, 0, none⟩ (.int .u32 (A : Nat))).setCell ⟨w.heap.size + 1 + 1, 0, none⟩ (.int .i64 (B : Nat))).heap[w.heap.size + 1 + 1]? = _
        exact heap_setBox _ (by rw [heap_setCell_other _ _ _ _ (by simp only; omega)]; exact Z2.out)
      have y3 : Below w.heap.size w (((W2.setCell ⟨w.heap.size + 1, 0, none⟩ (.int .u32 (A : Nat))).setCell ⟨w.heap.size + 1 + 1, 0, none⟩ (.int .i64 (B : Nat))).drew.putObj (w.heap.size + 5) (.deferred none)) :=
        (Below.drew ((hBB.setCell (p := ⟨w.heap.size + 1, 0, none⟩) (by simp only; omega) _).setCell (p := ⟨w.heap.size + 1 + 1, 0, none⟩) (by simp only; omega) _)).trans ⟨rfl, rfl, rfl, by simp, fun q hq => World.putObj_heap_other (by omega)⟩
      refine ⟨by simp, .inl ⟨_, _, rfl, run_takeDeferred y0, ?_⟩⟩
      refine ⟨.tuple #[.int .u32 (A : Nat), .int .i64 (B : Nat)], ?_, by rw [HA.out, HBe.out], y3⟩
      simp [results, Try.results40, go_sem, y1, y2]
end Go.Proofs.Ytllohapbbmnipad
