/-
  What is at hand, as a row.
-/
import Derived.Test.YtilcbkejmpfnfabCPu
namespace Go.Proofs.Ytilcbkejmpfnfab
open Go.RowKit Go.ChangeShapes Go.WideShapes Go.ChangeAt Go.Maps Go.Shelf
attribute [local go_sem] Oper.semAt_some
set_option linter.unusedVariables false
set_option linter.unusedSimpArgs false
set_option maxRecDepth 100000
theorem Ou.grew {S : Nat → Prop} {w w' : World} {r : Option Nat} (h : w.grownBy w' r) (hS : ∀ k, r = some k → S k) : Ou S w w' := ⟨h.os, h.tape, h.output, h.size, fun k hk hn => h.block k hk (fun e => hn (hS k e.symm))⟩
/-- Between two rounds of List. -/
structure LiJ (A0 : World) (B l : Nat) (Lr : Obj) (pre : List Int) (V : World) : Prop where
  box : ∃ v, V.heap[B]? = some (.cells #[v] 29 (0, 0)) ∧ V.ownsRow A0.heap.size 28 1 v pre.length (pre.map encF)
  L : V.heap[l]? = some Lr
/-- What List answers. -/
def ListPost (ss : List Int) (w : World) (e : Ending) (w' : World) : Prop := ∃ v, e = .returned v ∧ w'.ownsRow w.heap.size 28 1 v ss.length (ss.map encF) ∧ Below w.heap.size w w'
theorem own_baseF {w : World} {base base' : Nat} {e size n : Nat} {v : Value} {xs : List Value} (h : w.ownsRow base e size v n xs) (hb : base' ≤ base) : w.ownsRow base' e size v n xs := by
  refine ⟨h.1, ?_⟩
  rcases h.2 with h | ⟨q, cap, cur, e1, e2, e3⟩
  · exact .inl h
  · exact .inr ⟨q, cap, cur, e1, Nat.le_trans hb e2, e3⟩
theorem own_ne_lt {W : World} {base : Nat} {e : TypeId} {size : Nat} {v : Value} {k : Nat} {xs : List Value} (h : W.ownsRow base e size v k xs) {j : Nat} (hj : j < base) : v.ownBlock = none ∨ v.ownBlock ≠ some j := by
  cases hv : v.ownBlock with
  | none => exact .inl rfl
  | some q => exact .inr (fun e => by have := (h.lt q hv).1; cases e; omega)
set_option maxHeartbeats 2000000 in
theorem list_c {w : World} {g b1 b2 : Nat} {c : Ca} (h : IsCa w g b1 b2 c) (hm : c.m ≤ 12) {ss : List Int} (hr : RiseF c.f ss) :
    Calls Try.prog 9 #[pA g] w (ListPost ss w) := by
  obtain ⟨_, _, _, _, _, hg, hb1, hb2, _⟩ := h.cells
  have H := hid h
  clear h
  refine (callsIn_wide (n := 3)).1 ?_
  refine callsIn_of_wp_marks Try.func9 rfl trivial ?_ rfl
  simp only [Try.ntmps9, List.size_toArray, List.length_cons, List.length_nil, Nat.reduceAdd, Nat.reduceSub, Array.replicate_succ, Array.replicate_zero, List.push_toArray, List.append_toArray, List.nil_append, List.cons_append]
  gi_wp2_with fail
  refine ⟨trivial, (callsIn_wide.2 (inOrder_c g _)).mono ?_⟩
  rintro _ _ ⟨rfl, rfl⟩
  gi_wp2_with fail
  have hsz : ((w.alloc (.cells #[.slice none 0 0] 29)).alloc (.cells #[pA g] 23)).heap.size = w.heap.size + 2 := by simp
  have hA0 : Below w.heap.size w ((w.alloc (.cells #[.slice none 0 0] 29)).alloc (.cells #[pA g] 23)) := ((Below.refl _ _).alloc (Nat.le_refl _) _).alloc (by simp) _
  have hx0 : ((w.alloc (.cells #[.slice none 0 0] 29)).alloc (.cells #[pA g] 23)).heap[w.heap.size]? = some (.cells #[.slice none 0 0] 29 (0, 0)) := by
    rw [Below.heap_alloc _ _ _ (by simp)]; exact heap_alloc_new w _
  have hx1 : ((w.alloc (.cells #[.slice none 0 0] 29)).alloc (.cells #[pA g] 23)).heap[w.heap.size + 1]? = some (.cells #[pA g] 23 (0, 0)) := by
    have := heap_alloc_new (w.alloc (.cells #[.slice none 0 0] 29)) (.cells #[pA g] 23); simpa using this
  generalize ((w.alloc (.cells #[.slice none 0 0] 29)).alloc (.cells #[pA g] 23)) = W at *
  refine Rg.range_go (gf := 24) (lb := #[.pointer (some ⟨w.heap.size + 1, 0, none⟩)]) rfl (enters_of Try.func24 (by kernel_rfl) rfl) (fun W' => ∃ v, W'.heap[w.heap.size]? = some (.cells #[v] 29 (0, 0)) ∧ W'.ownsRow (w.heap.size + 4) 28 1 v ss.length (ss.map encF) ∧ Below w.heap.size w W') ?_ ?_
  · intro fn
    generalize hR : Rg.recOf fn _ _ _ _ _ = R
    have h4 : W.heap.size + 1 = w.heap.size + 3 := by omega
    have hD1 : ((W.alloc (.deferred (some []))).alloc (.loop (R .ready))).heap[w.heap.size + 2]? = some (.deferred (some [])) := by
      rw [Below.heap_alloc _ _ _ (by simp; omega), ← hsz]; exact heap_alloc_new W _
    have hL1 : ((W.alloc (.deferred (some []))).alloc (.loop (R .ready))).heap[w.heap.size + 3]? = some (.loop (R .ready)) := by
      have := heap_alloc_new (W.alloc (.deferred (some []))) (.loop (R .ready)); rw [World.size_alloc, h4] at this; exact this
    have hB1 : Below W.heap.size W ((W.alloc (.deferred (some []))).alloc (.loop (R .ready))) := ((Below.refl _ _).alloc (Nat.le_refl _) _).alloc (by simp) _
    have hz1 : w.heap.size + 4 ≤ ((W.alloc (.deferred (some []))).alloc (.loop (R .ready))).heap.size := by simp; omega
    generalize ((W.alloc (.deferred (some []))).alloc (.loop (R .ready))) = W1 at *
    rw [hsz, show w.heap.size + 2 + 1 = w.heap.size + 3 from rfl]
    have hbW1 : Below w.heap.size w W1 := hA0.trans (hB1.mono hA0.size)
    have y0 : W1.heap[w.heap.size]? = some (.cells #[.slice none 0 0] 29 (0, 0)) := by rw [hB1.block _ (by omega)]; exact hx0
    have y1 : W1.heap[w.heap.size + 1]? = some (.cells #[pA g] 23 (0, 0)) := by rw [hB1.block _ (by omega)]; exact hx1
    refine (inOrder1_in W1 (w.heap.size + 1) g b1 b2 c y1 (H.out.later hbW1) hm (w.heap.size + 3) (fun k => k = w.heap.size ∨ k = w.heap.size + 3) (fun k hk => by omega)
      (fun ss' V => (∃ v, V.heap[w.heap.size]? = some (.cells #[v] 29 (0, 0)) ∧ V.ownsRow (w.heap.size + 4) 28 1 v ss'.length (ss'.map encF)) ∧ V.heap[w.heap.size + 3]? = some (.loop (R .ready)) ∧ V.heap[w.heap.size + 2]? = some (.deferred (some [])) ∧ Below w.heap.size w V) ?_).mono ?_
    · intro A0 hA
      have hzA := hA.size
      refine ⟨fun pre V => LiJ A0 w.heap.size (w.heap.size + 3) (.loop (R .ready)) pre V, ⟨⟨_, by rw [hA.block _ (by omega)]; exact y0, World.ownsRow_nil _ _ _ _⟩, by rw [hA.block _ (by omega)]; exact hL1⟩, ?_, ?_⟩
      · intro pre x V hJ hO hC hx hlen
        have rl := hJ.L
        obtain ⟨v, rx, hrow⟩ := hJ.box
        have hVz : A0.heap.size ≤ V.heap.size := hO.size
        clear hJ
        rw [hsz] at hR
        subst hR
        refine Rg.round_go rl (by rfl) ?_
        gi_wp2
        generalize hRr : Obj.loop (Rg.recOf fn _ _ _ _ (w.heap.size + 2) LoopState.ready) = Rr at *
        generalize hRb : Obj.loop (Rg.recOf fn _ _ _ _ (w.heap.size + 2) LoopState.busy) = Rb at *
        clear hRr hRb
        refine ⟨rl, ?_⟩
        have o2 : Ou (Rnd (fun k => k = w.heap.size ∨ k = w.heap.size + 3) A0) V (V.putObj (w.heap.size + 3) Rb) := Ou.putO (.inl (.inr rfl))
        have hv2 : (V.putObj (w.heap.size + 3) Rb).heap[w.heap.size]? = some (.cells #[v] 29 (0, 0)) := (World.putObj_heap_other (by omega)).trans rx
        have hL2 : (V.putObj (w.heap.size + 3) Rb).heap[w.heap.size + 3]? = some Rb := World.putObj_heap_same (by omega)
        have hrow2 : (V.putObj (w.heap.size + 3) Rb).ownsRow A0.heap.size 28 1 v pre.length (pre.map encF) := hrow.kept (grownBy_putObj_a _ _ _) (own_ne_lt hrow (by omega))
        have hz2 : A0.heap.size ≤ (V.putObj (w.heap.size + 3) Rb).heap.size := by simp; omega
        generalize (V.putObj (w.heap.size + 3) Rb) = V2 at *
        obtain ⟨hc2, hf2⟩ := cell_of_box_a hv2
        obtain ⟨i0, hi, hz0, hz1', hz2'⟩ := info_fid
        have ne_of : ∀ j, j < A0.heap.size → some j ≠ v.ownBlock := fun j hj => by
          rcases own_ne_lt hrow2 hj with e | e
          · rw [e]; simp
          · exact fun e' => e e'.symm
        gi_wp2_with (first
          | (gi_at_builtin; refine wpListIn_append_own _ rfl _ _ 29 rfl A0.heap.size 28 i0 (.int .u32 0) 1 4 Try.underlying29 hi hz0 hz1' hz2' rfl (by decide) _ _ _ rfl (hrow2.alloc _) ⟨V2.heap.size, 0, none⟩ 1 1 [.int .u32 x] rfl rfl (cell_one_new _ _ _) (by simp [Value.oneCell']) (by unfold maxLen; omega) (by omega) (by simp; omega) ?_
             intro v' w3 hown' hg3 hnil3
             have hv3 : w3.heap[w.heap.size]? = some (.cells #[v] 29 (0, 0)) := (hg3.block _ (by simp; omega) (ne_of _ (by omega))).trans ((Below.heap_alloc _ _ _ (by omega)).trans hv2)
             obtain ⟨hc3, hf3⟩ := cell_of_box_a hv3
             obtain ⟨a5, n5, c5, rfl⟩ := own_sliceF hown'
             go_frame)
          | gi_round_op_a)
        have o3 : Ou (Rnd (fun k => k = w.heap.size ∨ k = w.heap.size + 3) A0) V2 w3 := (Ou.refl _ _).alloc _ |>.trans (Ou.grew hg3 (fun k e => .inr (hrow2.lt k e).1))
        have hL3 : w3.heap[w.heap.size + 3]? = some Rb := (hg3.block _ (by simp; omega) (ne_of _ (by omega))).trans ((Below.heap_alloc _ _ _ (by omega)).trans hL2)
        have o4 : Ou (Rnd (fun k => k = w.heap.size ∨ k = w.heap.size + 3) A0) w3 (w3.setCell ⟨w.heap.size, 0, none⟩ (.slice a5 n5 c5)) := (Ou.refl _ _).set (.inl (.inl rfl))
        have hg4 : w3.grownBy (w3.setCell ⟨w.heap.size, 0, none⟩ (.slice a5 n5 c5)) (some w.heap.size) := grownBy_setCell0_a _ _ _
        have hv4 := heap_setCell_box_a (.slice a5 n5 c5) hv3
        generalize w3.setCell ⟨w.heap.size, 0, none⟩ (.slice a5 n5 c5) = w4 at *
        have hL4 : w4.heap[w.heap.size + 3]? = some Rb := (hg4.block _ (lt_blkC hL3) (fun e => by simp at e)).trans hL3
        have hrow4 := hown'.kept hg4 (own_ne_lt hown' (by omega))
        have hrow5 := hrow4.kept (grownBy_putObj_a w4 (w.heap.size + 3) Rr) (own_ne_lt hrow4 (by omega))
        refine ⟨hL4, ⟨⟨_, (World.putObj_heap_other (by omega)).trans hv4, ?_⟩, World.putObj_heap_same (lt_blkC hL4)⟩, ((o2.trans o3).trans o4).trans (Ou.putO (.inl (.inr rfl)))⟩
        simpa [encF] using hrow5
      · intro ss' V hr' hJ hO
        obtain ⟨v, rx, hrow⟩ := hJ.box
        refine ⟨⟨v, rx, own_baseF hrow (by omega)⟩, hJ.L, ?_, hbW1.trans ((hA.mono hbW1.size).trans (hO.below (by omega) (fun k hk => by rcases hk with (hk | hk) | hk <;> omega)))⟩
        rw [hO.block _ (by omega) (fun e => by rcases e with (e | e) | e <;> omega), hA.block _ (by omega)]; exact hD1
    · rintro e V ⟨he, ss', hr', ⟨v, h1, h1'⟩, h2, h3, h4⟩
      rw [rise_eq hr' hr] at h1'
      exact ⟨he, h2, h3, v, h1, h1', h4⟩
  · rintro W' o ⟨v, hv, hown, hbel⟩ hD hl
    rw [hsz] at hD hl ⊢
    have hD2 : (W'.putObj (w.heap.size + 2 + 1) o).heap[w.heap.size + 2]? = some (.deferred (some [])) := (World.putObj_heap_other (by omega)).trans hD
    have hv2 : (W'.putObj (w.heap.size + 2 + 1) o).heap[w.heap.size]? = some (.cells #[v] 29 (0, 0)) := (World.putObj_heap_other (by omega)).trans hv
    have hb2' : Below w.heap.size w (W'.putObj (w.heap.size + 2 + 1) o) := hbel.grown (grownBy_putObj_a _ _ _) hbel.size (fun k e => by cases e; omega)
    have hown2 : (W'.putObj (w.heap.size + 2 + 1) o).ownsRow (w.heap.size + 4) 28 1 v ss.length (ss.map encF) := hown.kept (grownBy_putObj_a W' (w.heap.size + 2 + 1) o) (own_ne_lt hown (by omega))
    generalize W'.putObj (w.heap.size + 2 + 1) o = W2 at *
    obtain ⟨c0, f0⟩ := cell_of_box_a hv2
    gi_wp2_with fail
    have hO3 : (W2.putObj (w.heap.size + 2) (.deferred none)).ownsRow w.heap.size 28 1 v ss.length (ss.map encF) := own_baseF (hown2.kept (grownBy_putObj_a W2 (w.heap.size + 2) _) (own_ne_lt hown2 (by omega))) (by omega)
    have hB3 : Below w.heap.size w (W2.putObj (w.heap.size + 2) (.deferred none)) := hb2'.grown (grownBy_putObj_a _ _ _) hb2'.size (fun k e => by cases e; omega)
    refine ⟨by simp, .inl ⟨_, _, rfl, run_takeDeferred (w := W2) hD2, ?_⟩⟩
    exact ⟨v, by simp [results, Try.results9, go_sem], v, rfl, hO3, hB3⟩
end Go.Proofs.Ytilcbkejmpfnfab
