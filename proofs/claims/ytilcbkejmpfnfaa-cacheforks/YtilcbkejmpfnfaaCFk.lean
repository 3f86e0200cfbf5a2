/-
  What Fork of a cache does.
-/
import Derived.Test.YtilcbkejmpfnfaaCAf
import Derived.Test.YtilcbkejmpfnfaaClo
namespace Go.Proofs.Ytilcbkejmpfnfaa
open Go.RowKit Go.ChangeShapes Go.WideShapes Go.ChangeAt Go.Maps Go.Shelf
set_option linter.unusedVariables false
set_option linter.unusedSimpArgs false
set_option maxRecDepth 100000
theorem cloneOb_c {w : World} {b m : Nat} {f : Int → Option Ob} (h : IsFm obE w b m f) : Calls Try.prog 36 #[.map (some b)] w fun e w' => e = .returned (.map (some w.heap.size)) ∧ IsFm obE w' w.heap.size m f ∧ Below w.heap.size w w' ∧ w'.heap.size = w.heap.size + 1 := by
  obtain ⟨D, ⟨es, clock, hb, F, hs, hD⟩, hf⟩ := h
  refine (AnyW.maps_Clone Try.cloneA b es clock w hb).mono fun e w' ⟨he, hw⟩ => ?_
  subst hw
  exact ⟨he, ⟨D, ⟨es, clock, (MapKept.heap_alloc w _).1, F, hs, hD⟩, hf⟩, (Below.refl _ w).alloc (Nat.le_refl _) _, by simp⟩
theorem cloneNu_c {w : World} {b m : Nat} {f : Int → Option Int} (h : IsFm numE w b m f) : Calls Try.prog 37 #[.map (some b)] w fun e w' => e = .returned (.map (some w.heap.size)) ∧ IsFm numE w' w.heap.size m f ∧ Below w.heap.size w w' ∧ w'.heap.size = w.heap.size + 1 := by
  obtain ⟨D, ⟨es, clock, hb, F, hs, hD⟩, hf⟩ := h
  refine (AnyW.maps_Clone Try.cloneB b es clock w hb).mono fun e w' ⟨he, hw⟩ => ?_
  subst hw
  exact ⟨he, ⟨D, ⟨es, clock, (MapKept.heap_alloc w _).1, F, hs, hD⟩, hf⟩, (Below.refl _ w).alloc (Nat.le_refl _) _, by simp⟩
set_option maxHeartbeats 4000000 in
theorem cafork_c {w : World} {g b1 b2 : Nat} {c : Ca} (h : IsCa w g b1 b2 c) :
    Calls Try.prog 15 #[pA g] w fun e w' => ∃ g' p1 p2, e = .returned (pA g') ∧ IsCa w' g' p1 p2 c ∧ (w.heap.size ≤ g' ∧ w.heap.size ≤ p1 ∧ w.heap.size ≤ p2) ∧ Below w.heap.size w w' := by
  obtain ⟨c0, c1, c2, c3, cf, l0, l1, l2, n1, n2, n3⟩ := h.cells
  have CO : Hid (∀ W, Below w.heap.size w W → Calls Try.prog 36 #[.map (some b1)] W fun e w' => e = .returned (.map (some W.heap.size)) ∧ IsFm obE w' W.heap.size c.m c.f ∧ Below w.heap.size w w' ∧ Below W.heap.size W w' ∧ w'.heap.size = W.heap.size + 1) := hid (fun W hb => (cloneOb_c (h.later hb).2.1).mono fun e w' q => ⟨q.1, q.2.1, hb.trans (q.2.2.1.mono hb.size), q.2.2.1, q.2.2.2⟩)
  have CN : Hid (∀ W, Below w.heap.size w W → Calls Try.prog 37 #[.map (some b2)] W fun e w' => e = .returned (.map (some W.heap.size)) ∧ IsFm numE w' W.heap.size c.k c.d ∧ Below w.heap.size w w' ∧ Below W.heap.size W w' ∧ w'.heap.size = W.heap.size + 1) := hid (fun W hb => (cloneNu_c (h.later hb).2.2.1).mono fun e w' q => ⟨q.1, q.2.1, hb.trans (q.2.2.1.mono hb.size), q.2.2.1, q.2.2.2⟩)
  have KS : Hid (∀ W, Below w.heap.size w W → W.cell? ⟨g, 0, none⟩ = some (.int .i64 c.most) ∧ W.cell? ⟨g, 1, none⟩ = some (.int .u64 c.uses) ∧ W.cell? ⟨g, 2, none⟩ = some (.map (some b1)) ∧ W.cell? ⟨g, 3, none⟩ = some (.map (some b2))) := hid (fun W hb => by
    obtain ⟨e0, e1, e2, e3, _⟩ := (h.later hb).cells
    exact ⟨e0, e1, e2, e3⟩)
  have D0 : Hid (Below w.heap.size w w.drew) := hid (Below.refl _ w).drew
  clear h cf l1 l2 n1 n2 n3
  go_enter Try.func15, Try.ntmps15
  go_wp2
  go_region_held3 (fun w' => w'.cell? ⟨g, 0, none⟩ = some (.int .i64 c.most) ∧ w'.cell? ⟨g, 1, none⟩ = some (.int .u64 c.uses) ∧ w'.cell? ⟨g, 2, none⟩ = some (.map (some b1)) ∧ w'.cell? ⟨g, 3, none⟩ = some (.map (some b2))) (first | (with_reducible exact KS.out _ B2.out) | (with_reducible exact KS.out _ B1.out) | go_keep)
    (first
      | (have _q := T1.out; clear _q; go_at_call 37; with_reducible refine (CN.out _ B1.out).mono ?_; rintro _ w2 ⟨rfl, k2, hb2, hc2, hs2⟩; have K2 := hid k2; have B2 := hid hb2; have C2 := hid hc2; have Z2 := hid hs2; clear k2 hb2 hs2 hc2)
      | (have _q := T2.out; clear _q; go_at_call 36; with_reducible refine (CO.out _ B1.out).mono ?_; rintro _ w2 ⟨rfl, k2, hb2, hc2, hs2⟩; have K2 := hid k2; have B2 := hid hb2; have C2 := hid hc2; have Z2 := hid hs2; clear k2 hb2 hs2 hc2)
      | (go_at_call 36; with_reducible refine (CO.out _ D0.out).mono ?_; rintro _ w1 ⟨rfl, k1, hb1, hc1, hs1⟩; have K1 := hid k1; have B1 := hid hb1; have T1 := hid hs1; have Z1 := hid hs1; clear k1 hb1 hs1 hc1)
      | (go_at_call 37; with_reducible refine (CN.out _ D0.out).mono ?_; rintro _ w1 ⟨rfl, k1, hb1, hc1, hs1⟩; have K1 := hid k1; have B1 := hid hb1; have T2 := hid hs1; have Z1 := hid hs1; clear k1 hb1 hs1 hc1)
      | fail)
  go_wp2
  go_ret
  have z1 : w1.heap.size = w.heap.size + 1 := Z1.out
  have q1 : IsFm obE w2 w.heap.size c.m c.f := K1.out.out (Ou.of (S := fun _ => False) C2.out) id
  have hn := heap_alloc_new w2 (.cells #[.int .i64 c.most, .int .u64 c.uses, .map (some w.heap.size), .map (some w1.heap.size)] 64 (0, 0))
  have ho : Ou (fun _ => False) w2 (w2.alloc (.cells #[.int .i64 c.most, .int .u64 c.uses, .map (some w.heap.size), .map (some w1.heap.size)] 64 (0, 0))) := (Ou.refl _ _).alloc _
  exact ⟨_, _, _, rfl, ⟨hn, q1.out ho id, K2.out.out ho id, by omega⟩, ⟨B2.out.size, by omega, by omega⟩, B2.out.alloc B2.out.size _⟩
end Go.Proofs.Ytilcbkejmpfnfaa
