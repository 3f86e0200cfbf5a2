/-
  Calls of a cache that turn it.
-/
import Derived.Test.YtilcbkejmpfnfabCBs
namespace Go.Proofs.Ytilcbkejmpfnfab
open Go.RowKit Go.ChangeShapes Go.WideShapes Go.ChangeAt Go.Maps
set_option linter.unusedVariables false
set_option linter.unusedSimpArgs false
set_option maxRecDepth 100000
theorem IsFm.drew {α : Type} {E : Enc α} {w : World} {b m : Nat} {f : Int → Option α} (h : IsFm E w b m f) : IsFm E w.drew b m f := h
theorem IsCa.drew {w : World} {g b1 b2 : Nat} {c : Ca} (h : IsCa w g b1 b2 c) : IsCa w.drew g b1 b2 c := h
theorem row_set {w : World} {g : Nat} {arr : Array Value} {T : TypeId} (o : Nat) (v : Value) (h : w.heap[g]? = some (.cells arr T (0, 0))) : (w.setCell ⟨g, o, none⟩ v).heap[g]? = some (.cells (arr.setIfInBounds o v) T (0, 0)) := by
  rw [heap_setCell_same w g o arr T v h]
/-- Behind a use, a mark, a drop; a hoarding. -/
def Ca.useS (c : Ca) (i : Int) : Ca := ⟨c.most, c.uses + 1, addN c.f i c.m, updF c.f i (some (c.uses + 1, c.dirtyB i)), c.k, c.d⟩
def Ca.markS (c : Ca) (i : Int) (dd : Bool) : Ca := ⟨c.most, c.uses, addN c.f i c.m, updF c.f i (some (c.usedAt i, dd)), c.k, c.d⟩
def Ca.dropS (c : Ca) (i : Int) : Ca := ⟨c.most, c.uses, delN c.f i c.m, updF c.f i none, c.k, c.d⟩
def Ca.dearS (c : Ca) (i : Int) (n : Int) : Ca := ⟨c.most, c.uses, c.m, c.f, addN c.d i c.k, updF c.d i (some n)⟩
def Ca.coldS (c : Ca) (i : Int) : Ca := ⟨c.most, c.uses, c.m, c.f, delN c.d i c.k, updF c.d i none⟩
theorem IsCa.turn1 {w w' : World} {g b1 b2 : Nat} {c : Ca} (h : IsCa w g b1 b2 c) {m : Nat} {f : Int → Option Ob} (hm : IsFm obE w' b1 m f) (ht : w.mapTurned w' b1) : IsCa w' g b1 b2 ⟨c.most, c.uses, m, f, c.k, c.d⟩ := by
  have ho : Ou (fun k => k = b1) w w' := Ou.turned ht rfl
  obtain ⟨_, _, _, _, _, _, _, _, n1, n2, n3⟩ := h.cells
  obtain ⟨e, m1, m2, ne⟩ := h
  exact ⟨by rw [ho.block g (lt_blkC e) n1]; exact e, hm, m2.out ho (fun e => ne e.symm), ne⟩
theorem IsCa.turn2 {w w' : World} {g b1 b2 : Nat} {c : Ca} (h : IsCa w g b1 b2 c) {m : Nat} {f : Int → Option Int} (hm : IsFm numE w' b2 m f) (ht : w.mapTurned w' b2) : IsCa w' g b1 b2 ⟨c.most, c.uses, c.m, c.f, m, f⟩ := by
  have ho : Ou (fun k => k = b2) w w' := Ou.turned ht rfl
  obtain ⟨_, _, _, _, _, _, _, _, n1, n2, n3⟩ := h.cells
  obtain ⟨e, m1, m2, ne⟩ := h
  exact ⟨by rw [ho.block g (lt_blkC e) n2]; exact e, m1.out ho ne, hm, ne⟩
set_option maxHeartbeats 1000000 in
theorem new_c (n : Int) (h0 : 1 ≤ n) (h1 : n ≤ 40) (w : World) : Calls Try.prog 4 #[.int .i64 n] w fun e w' => e = .returned (pA (w.heap.size + 2)) ∧ IsCa w' (w.heap.size + 2) w.heap.size (w.heap.size + 1) ⟨n, 0, 0, fun _ => none, 0, fun _ => none⟩ ∧ Below w.heap.size w w' := by
  have g1 : ¬ n < 1 := by omega
  have g2 : ¬ 40 < n := by omega
  have d1 : decide (n < 1) = false := decide_eq_false g1
  have d2 : decide (40 < n) = false := decide_eq_false g2
  have hmm := @run_makeMap Try.prog
  go_enter Try.func4, Try.ntmps4
  go_wp2
  go_ret
  have b1 : Below w.heap.size w (w.alloc (.map #[] 0)) := (Below.refl _ _).alloc (Nat.le_refl _) _
  have e1 : (w.alloc (.map #[] 0)).heap.size = w.heap.size + 1 := by simp
  have b2 : Below (w.heap.size + 1) (w.alloc (.map #[] 0)) ((w.alloc (.map #[] 0)).alloc (.map #[] 0)) := by
    have := (Below.refl (w.alloc (.map #[] 0)).heap.size (w.alloc (.map #[] 0))).alloc (Nat.le_refl _) (.map #[] 0)
    rwa [e1] at this
  have e2 : ((w.alloc (.map #[] 0)).alloc (.map #[] 0)).heap.size = w.heap.size + 2 := by simp
  have b3 : Below (w.heap.size + 2) ((w.alloc (.map #[] 0)).alloc (.map #[] 0)) (((w.alloc (.map #[] 0)).alloc (.map #[] 0)).alloc (.cells #[.int .i64 n, .int .u64 0, .map (some w.heap.size), .map (some (w.heap.size + 1))] 39)) := by
    have := (Below.refl ((w.alloc (.map #[] 0)).alloc (.map #[] 0)).heap.size ((w.alloc (.map #[] 0)).alloc (.map #[] 0))).alloc (Nat.le_refl _) (.cells #[.int .i64 n, .int .u64 0, .map (some w.heap.size), .map (some (w.heap.size + 1))] 39)
    rwa [e2] at this
  refine ⟨rfl, ⟨?_, ?_, ?_, by omega⟩, b1.trans ((b2.mono (by omega)).trans (b3.mono (by omega)))⟩
  · have := heap_alloc_new ((w.alloc (.map #[] 0)).alloc (.map #[] 0)) (.cells #[.int .i64 n, .int .u64 0, .map (some w.heap.size), .map (some (w.heap.size + 1))] 39)
    rwa [e2] at this
  · exact ((IsFm.made obE w).out (S := fun _ => False) (Ou.of (by rw [e1]; exact b2)) id).out (S := fun _ => False) (Ou.of (by rw [e2]; exact b3)) id
  · have := IsFm.made numE (w.alloc (.map #[] 0))
    rw [e1] at this
    exact this.out (S := fun _ => False) (Ou.of (by rw [e2]; exact b3)) id
set_option maxHeartbeats 1000000 in
theorem new_no (n : Int) (h0 : n < 1 ∨ 40 < n) (w : World) : Calls Try.prog 4 #[.int .i64 n] w fun e w' => e = .returned (.pointer none) ∧ w' = w := by
  by_cases g1 : n < 1
  · have d1 : decide (n < 1) = true := decide_eq_true g1
    clear h0
    go_enter Try.func4, Try.ntmps4
    go_wp2
    go_ret
    exact ⟨rfl, rfl⟩
  · have d1 : decide (n < 1) = false := decide_eq_false g1
    have g2 : 40 < n := by omega
    have d2 : decide (40 < n) = true := decide_eq_true g2
    clear h0
    go_enter Try.func4, Try.ntmps4
    go_wp2
    go_ret
    exact ⟨rfl, rfl⟩
set_option maxHeartbeats 2000000 in
theorem use_c {w : World} {g b1 b2 : Nat} {c : Ca} (h : IsCa w g b1 b2 c) (hu0 : 0 ≤ c.uses) (hu : c.uses < 1000000) (hm : c.m < 1000) {i : Int} (h0 : 0 ≤ i) (h1 : i < 4294967296) :
    Calls Try.prog 17 #[pA g, .int .u32 i] w fun e w' => e = .returned (.tuple #[]) ∧ IsCa w' g b1 b2 (c.useS i) ∧ Ou (Tri g b1 b2) w w' := by
  obtain ⟨c0, c1, c2, c3, cf, l0, l1, l2, n1, n2, n3⟩ := h.cells
  have f1 := cf 1
  have o1 : Ou (fun k => k = g) w (w.setCell ⟨g, 1, none⟩ (.int .u64 (c.uses + 1))) := (Ou.refl _ _).set rfl
  have H1 : IsCa (w.setCell ⟨g, 1, none⟩ (.int .u64 (c.uses + 1))) g b1 b2 ⟨c.most, c.uses + 1, c.m, c.f, c.k, c.d⟩ := ⟨row_set 1 _ h.1, h.2.1.out o1 (fun e => n1 e.symm), h.2.2.1.out o1 (fun e => n2 e.symm), n3⟩
  have O1 := hid (o1.mono (T := Tri g b1 b2) fun k e => .inl e)
  have H2 := H1.drew
  obtain ⟨e0, e1, e2, e3, ef, _⟩ := H2.cells
  have LK := H2.2.1.look ht1 zeroOb h0 h1
  rw [show obE.enc (((⟨c.most, c.uses + 1, c.m, c.f, c.k, c.d⟩ : Ca).f i).getD zOb) = .agg #[.int .u64 (c.usedAt i), .bool (c.dirtyB i)] from rfl] at LK
  obtain ⟨w3, SR, IM, MT⟩ := H2.2.1.store hm ht1 h0 h1 (c.uses + 1, c.dirtyB i)
  rw [show obE.enc (c.uses + 1, c.dirtyB i) = .agg #[.int .u64 (c.uses + 1), .bool (c.dirtyB i)] from rfl] at SR
  have R3 : Hid (IsCa w3 g b1 b2 (c.useS i)) := hid (H2.turn1 IM MT)
  have O3 := hid (O1.out.drew.trans ((Ou.turned (S := Tri g b1 b2) MT (.inr (.inl rfl)))))
  have FD := fieldD (c.usedAt i) (c.dirtyB i) (w.setCell ⟨g, 1, none⟩ (.int .u64 (c.uses + 1))).drew
  clear h H1 H2 o1 O1 cf ef IM MT
  generalize hun : c.uses + 1 = un at *
  generalize c.usedAt i = ua at *
  generalize c.dirtyB i = dd at *
  have huw : IntKind.u64.wrap (c.uses + 1) = un := by rw [IntKind.wrap_u64]; omega
  go_enter Try.func17, Try.ntmps17
  go_wp2_with fail
  go_region
  go_wp2
  exact body_endF (by kernel_rfl) rfl ⟨rfl, R3.out, O3.out⟩
end Go.Proofs.Ytilcbkejmpfnfab
