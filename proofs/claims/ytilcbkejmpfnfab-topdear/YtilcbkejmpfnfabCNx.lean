/-
  The object that would go.
-/
import Derived.Test.YtilcbkejmpfnfabCOr
import Derived.BigGuardPartIn
namespace Go.Proofs.Ytilcbkejmpfnfab
open Go.RowKit Go.ChangeShapes Go.WideShapes Go.ChangeAt Go.Maps Go.Shelf
attribute [local go_sem] Oper.semAt_some
set_option linter.unusedVariables false
set_option linter.unusedSimpArgs false
set_option maxRecDepth 100000
/-- One step on the way to the one that would go. -/
def Ca.step (c : Ca) (nx x : Int) : Int := if c.dirtyB x = false ∧ (nx = 0 ∨ c.first x nx = true) then x else nx
/-- The one that would go, of those that have come. -/
def Ca.nextOf (c : Ca) (ss : List Int) : Int := ss.foldl c.step 0
theorem Ca.nextOf_snoc (c : Ca) (ss : List Int) (x : Int) : c.nextOf (ss ++ [x]) = c.step (c.nextOf ss) x := by unfold Ca.nextOf; rw [List.foldl_append]; rfl
theorem step_dirty {c : Ca} {nx x : Int} (h : c.dirtyB x = true) : c.step nx x = nx := by unfold Ca.step; rw [if_neg (by simp [h])]
theorem step_none {c : Ca} {nx x : Int} (h : c.dirtyB x = false) (h0 : nx = 0) : c.step nx x = x := by unfold Ca.step; rw [if_pos ⟨h, .inl h0⟩]
theorem step_first {c : Ca} {nx x : Int} (h : c.dirtyB x = false) (h0 : c.first x nx = true) : c.step nx x = x := by unfold Ca.step; rw [if_pos ⟨h, .inr h0⟩]
theorem step_last {c : Ca} {nx x : Int} (h0 : nx ≠ 0) (h1 : c.first x nx = false) : c.step nx x = nx := by unfold Ca.step; rw [if_neg (by simp [h0, h1])]
theorem Ou.putO {S : Nat → Prop} {w : World} {k : Nat} {o : Obj} (h : S k) : Ou S w (w.putObj k o) := ⟨rfl, rfl, rfl, by simp, fun j _ hj => World.putObj_heap_other (fun e => hj (e ▸ h))⟩
/-- Between two rounds of Next. -/
structure NxJ (c : Ca) (B l : Nat) (Lr : Obj) (pre : List Int) (V : World) : Prop where
  box : V.heap[B]? = some (.cells #[.int .u32 (c.nextOf pre)] 28 (0, 0))
  L : V.heap[l]? = some Lr
  lo : 0 ≤ c.nextOf pre
  hi : c.nextOf pre < 4294967296
/-- The same, behind one more. -/
def NxJ' (c : Ca) (nx x : Int) (B l : Nat) (Lr : Obj) (V : World) : Prop := V.heap[B]? = some (.cells #[.int .u32 (c.step nx x)] 28 (0, 0)) ∧ V.heap[l]? = some Lr ∧ 0 ≤ c.step nx x ∧ c.step nx x < 4294967296
theorem nxj_iff {c : Ca} {B l : Nat} {Lr : Obj} {pre : List Int} {x : Int} {V : World} : NxJ c B l Lr (pre ++ [x]) V ↔ NxJ' c (c.nextOf pre) x B l Lr V := by
  unfold NxJ'
  constructor
  · rintro ⟨a, b, d, e⟩; rw [c.nextOf_snoc] at a d e; exact ⟨a, b, d, e⟩
  · rintro ⟨a, b, d, e⟩; exact ⟨by rw [c.nextOf_snoc]; exact a, b, by rw [c.nextOf_snoc]; exact d, by rw [c.nextOf_snoc]; exact e⟩
/-- What Next answers. -/
def NextPost (c : Ca) (w : World) (e : Ending) (w' : World) : Prop := ∃ ss, RiseF c.f ss ∧ e = .returned (.tuple #[.int .u32 (c.nextOf ss), .bool (c.nextOf ss != 0)]) ∧ Below w.heap.size w w'
set_option maxHeartbeats 2000000 in
theorem next_c {w : World} {g b1 b2 : Nat} {c : Ca} (h : IsCa w g b1 b2 c) (hm : c.m ≤ 12) :
    Calls Try.prog 23 #[pA g] w (NextPost c w) := by
  obtain ⟨_, _, _, _, _, hg, hb1, hb2, _⟩ := h.cells
  have H := hid h
  clear h
  refine (callsIn_wide (n := 3)).1 ?_
  refine callsIn_of_wp_marks Try.func23 rfl trivial ?_ rfl
  simp only [Try.ntmps23, List.size_toArray, List.length_cons, List.length_nil, Nat.reduceAdd, Nat.reduceSub, Array.replicate_succ, Array.replicate_zero, List.push_toArray, List.append_toArray, List.nil_append, List.cons_append]
  gi_wp2_with fail
  refine ⟨trivial, (callsIn_wide.2 (inOrder_c g _)).mono ?_⟩
  rintro _ _ ⟨rfl, rfl⟩
  gi_wp2_with fail
  have hsz : (((w.alloc (.cells #[pA g] 23)).alloc (.cells #[.int .u32 0] 28)).alloc (.cells #[pA g] 23)).heap.size = w.heap.size + 3 := by simp
  have hA0 : Below w.heap.size w (((w.alloc (.cells #[pA g] 23)).alloc (.cells #[.int .u32 0] 28)).alloc (.cells #[pA g] 23)) := (((Below.refl _ _).alloc (Nat.le_refl _) _).alloc (by simp) _).alloc (by simp; omega) _
  have hx0 : (((w.alloc (.cells #[pA g] 23)).alloc (.cells #[.int .u32 0] 28)).alloc (.cells #[pA g] 23)).heap[w.heap.size]? = some (.cells #[pA g] 23 (0, 0)) := by
    rw [Below.heap_alloc _ _ _ (by simp; omega), Below.heap_alloc _ _ _ (by simp)]; exact heap_alloc_new w _
  have hx1 : (((w.alloc (.cells #[pA g] 23)).alloc (.cells #[.int .u32 0] 28)).alloc (.cells #[pA g] 23)).heap[w.heap.size + 1]? = some (.cells #[.int .u32 0] 28 (0, 0)) := by
    rw [Below.heap_alloc _ _ _ (by simp)]; have := heap_alloc_new (w.alloc (.cells #[pA g] 23)) (.cells #[.int .u32 0] 28); rwa [World.size_alloc] at this
  have hx2 : (((w.alloc (.cells #[pA g] 23)).alloc (.cells #[.int .u32 0] 28)).alloc (.cells #[pA g] 23)).heap[w.heap.size + 2]? = some (.cells #[pA g] 23 (0, 0)) := by
    have := heap_alloc_new ((w.alloc (.cells #[pA g] 23)).alloc (.cells #[.int .u32 0] 28)) (.cells #[pA g] 23); simpa using this
  generalize (((w.alloc (.cells #[pA g] 23)).alloc (.cells #[.int .u32 0] 28)).alloc (.cells #[pA g] 23)) = W at *
  refine Rg.range_go (gf := 24) (lb := #[.pointer (some ⟨w.heap.size + 2, 0, none⟩)]) rfl (enters_of Try.func24 (by kernel_rfl) rfl) (fun W' => ∃ ss, RiseF c.f ss ∧ W'.heap[w.heap.size + 1]? = some (.cells #[.int .u32 (c.nextOf ss)] 28 (0, 0)) ∧ Below w.heap.size w W') ?_ ?_
  · intro fn
    generalize hR : Rg.recOf fn _ _ _ _ _ = R
    have h4 : W.heap.size + 1 = w.heap.size + 4 := by omega
    have hD1 : ((W.alloc (.deferred (some []))).alloc (.loop (R .ready))).heap[w.heap.size + 3]? = some (.deferred (some [])) := by
      rw [Below.heap_alloc _ _ _ (by simp; omega), ← hsz]; exact heap_alloc_new W _
    have hL1 : ((W.alloc (.deferred (some []))).alloc (.loop (R .ready))).heap[w.heap.size + 4]? = some (.loop (R .ready)) := by
      have := heap_alloc_new (W.alloc (.deferred (some []))) (.loop (R .ready)); rw [World.size_alloc, h4] at this; exact this
    have hB1 : Below W.heap.size W ((W.alloc (.deferred (some []))).alloc (.loop (R .ready))) := ((Below.refl _ _).alloc (Nat.le_refl _) _).alloc (by simp) _
    have hz1 : w.heap.size + 5 ≤ ((W.alloc (.deferred (some []))).alloc (.loop (R .ready))).heap.size := by simp; omega
    generalize ((W.alloc (.deferred (some []))).alloc (.loop (R .ready))) = W1 at *
    rw [hsz, show w.heap.size + 3 + 1 = w.heap.size + 4 from rfl]
    have hbW1 : Below w.heap.size w W1 := hA0.trans (hB1.mono hA0.size)
    have y0 : W1.heap[w.heap.size]? = some (.cells #[pA g] 23 (0, 0)) := by rw [hB1.block _ (by omega)]; exact hx0
    have y1 : W1.heap[w.heap.size + 1]? = some (.cells #[.int .u32 0] 28 (0, 0)) := by rw [hB1.block _ (by omega)]; exact hx1
    have y2 : W1.heap[w.heap.size + 2]? = some (.cells #[pA g] 23 (0, 0)) := by rw [hB1.block _ (by omega)]; exact hx2
    refine (inOrder1_in W1 (w.heap.size + 2) g b1 b2 c y2 (H.out.later hbW1) hm (w.heap.size + 4) (fun k => k = w.heap.size + 1 ∨ k = w.heap.size + 4) (fun k hk => by omega)
      (fun ss V => V.heap[w.heap.size + 1]? = some (.cells #[.int .u32 (c.nextOf ss)] 28 (0, 0)) ∧ V.heap[w.heap.size + 4]? = some (.loop (R .ready)) ∧ V.heap[w.heap.size + 3]? = some (.deferred (some [])) ∧ Below w.heap.size w V) ?_).mono ?_
    · intro A0 hA
      have hzA := hA.size
      refine ⟨NxJ c (w.heap.size + 1) (w.heap.size + 4) (.loop (R .ready)), ⟨by rw [hA.block _ (by omega)]; exact y1, by rw [hA.block _ (by omega)]; exact hL1, by simp [Ca.nextOf], by simp [Ca.nextOf]⟩, ?_, ?_⟩
      · intro pre x V hJ hO hC hx _
        have rx := hJ.box
        have rl := hJ.L
        have lo := hJ.lo
        have hi := hJ.hi
        obtain ⟨ob, eob⟩ := Option.isSome_iff_exists.1 hx
        obtain ⟨k0, k1⟩ := hC.2.1.keys eob
        have rb : V.heap[w.heap.size]? = some (.cells #[pA g] 23 (0, 0)) := by
          rw [hO.block _ (by omega) (fun e => by rcases e with (e | e) | e <;> omega), hA.block _ (by omega)]; exact y0
        have hVz : A0.heap.size ≤ V.heap.size := hO.size
        rw [show @NxJ c (w.heap.size + 1) (w.heap.size + 4) (.loop (R .ready)) (pre ++ [x]) = NxJ' c (c.nextOf pre) x (w.heap.size + 1) (w.heap.size + 4) (.loop (R .ready)) from funext fun _ => propext nxj_iff]
        generalize c.nextOf pre = nx at *
        clear hJ eob
        rw [hsz] at hR
        subst hR
        refine Rg.round_go rl (by rfl) ?_
        gi_wp2
        have rl2 : (V.alloc (.cells #[.int .u64 (c.usedAt x), .bool (c.dirtyB x)] 47)).heap[w.heap.size + 4]? = V.heap[w.heap.size + 4]? := Below.heap_alloc _ _ _ (by omega)
        refine ⟨rl2.trans rl, ?_⟩
        generalize Obj.loop (Rg.recOf fn _ _ _ _ (w.heap.size + 3) LoopState.ready) = Rr at *
        generalize Obj.loop (Rg.recOf fn _ _ _ _ (w.heap.size + 3) LoopState.busy) = Rb at *
        have o2 : Ou (Rnd (fun k => k = w.heap.size + 1 ∨ k = w.heap.size + 4) A0) V ((V.alloc (.cells #[.int .u64 (c.usedAt x), .bool (c.dirtyB x)] 47)).putObj (w.heap.size + 4) Rb) := ((Ou.refl _ _).alloc _).trans (Ou.putO (.inl (.inr rfl)))
        have q0 : ((V.alloc (.cells #[.int .u64 (c.usedAt x), .bool (c.dirtyB x)] 47)).putObj (w.heap.size + 4) Rb).heap[V.heap.size]? = some (.cells #[.int .u64 (c.usedAt x), .bool (c.dirtyB x)] 47 (0, 0)) := by
          rw [World.putObj_heap_other (by omega)]; exact heap_alloc_new V _
        have q1 : ((V.alloc (.cells #[.int .u64 (c.usedAt x), .bool (c.dirtyB x)] 47)).putObj (w.heap.size + 4) Rb).heap[w.heap.size + 1]? = some (.cells #[.int .u32 nx] 28 (0, 0)) := by
          rw [World.putObj_heap_other (by omega), Below.heap_alloc _ _ _ (by omega)]; exact rx
        have q2 : ((V.alloc (.cells #[.int .u64 (c.usedAt x), .bool (c.dirtyB x)] 47)).putObj (w.heap.size + 4) Rb).heap[w.heap.size]? = some (.cells #[pA g] 23 (0, 0)) := by
          rw [World.putObj_heap_other (by omega), Below.heap_alloc _ _ _ (by omega)]; exact rb
        have q3 : ((V.alloc (.cells #[.int .u64 (c.usedAt x), .bool (c.dirtyB x)] 47)).putObj (w.heap.size + 4) Rb).heap[w.heap.size + 4]? = some Rb := World.putObj_heap_same (by simp; omega)
        have HC2 := hid (hC.out o2 (fun e => by rcases e with (e | e) | e <;> omega) (fun e => by rcases e with (e | e) | e <;> omega) (fun e => by rcases e with (e | e) | e <;> omega))
        generalize ((V.alloc (.cells #[.int .u64 (c.usedAt x), .bool (c.dirtyB x)] 47)).putObj (w.heap.size + 4) Rb) = V2 at *
        obtain ⟨z1, z2⟩ := cell_of_box_a q1
        obtain ⟨z3, z4⟩ := cell_of_box_a q2
        have z5 : V2.cell? ⟨V.heap.size, 1, none⟩ = some (.bool (c.dirtyB x)) := by simp [World.cell?, q0]
        have fin : Hid (∀ V3, Ou (Rnd (fun k => k = w.heap.size + 1 ∨ k = w.heap.size + 4) A0) V2 V3 → V3.heap[w.heap.size + 4]? = some Rb → V3.heap[w.heap.size + 1]? = some (.cells #[.int .u32 (c.step nx x)] 28 (0, 0)) → (0 ≤ c.step nx x ∧ c.step nx x < 4294967296) →
          V3.heap[w.heap.size + 4]? = some Rb ∧ NxJ' c nx x (w.heap.size + 1) (w.heap.size + 4) Rr (V3.putObj (w.heap.size + 4) Rr) ∧ Ou (Rnd (fun k => k = w.heap.size + 1 ∨ k = w.heap.size + 4) A0) V (V3.putObj (w.heap.size + 4) Rr)) := hid (fun V3 o3 t1 t2 t3 =>
            ⟨t1, ⟨(World.putObj_heap_other (by omega)).trans t2, World.putObj_heap_same (lt_blkC t1), t3.1, t3.2⟩, (o2.trans o3).trans (Ou.putO (.inl (.inr rfl)))⟩)
        have hV2 : w.heap.size + 4 < V2.heap.size := lt_blkC q3
        clear hC hx o2 rl2 rl rx rb
        cases hd : c.dirtyB x with
        | true =>
          rw [hd] at z5
          gi_wp2_with fail
          case h_1.isFalse => rename_i e _; first | cases e | (simp [undef] at e)
          all_goals (refine ⟨trivial, ?_⟩; gi_wp2_with fail)
          all_goals have F := fin.out V2 (Ou.refl _ _) q3 (by rw [step_dirty hd]; exact q1) (by rw [step_dirty hd]; exact ⟨lo, hi⟩)
          all_goals first | exact F | exact F.2 | exact ⟨(Array.getElem?_eq_some_iff.1 F.1).2, F.2⟩
        | false =>
          rw [hd] at z5
          by_cases hn : nx = 0
          · have hs := step_none hd hn
            have FI := hid fin.out
            subst hn
            gi_wp2_with fail
            refine ⟨trivial, ?_⟩
            gi_wp2_with fail
            have F := FI.out (V2.setCell ⟨w.heap.size + 1, 0, none⟩ (.int .u32 x)) ((Ou.refl _ _).set (.inl (.inl rfl))) (by rw [heap_setCell_other _ _ _ _ (by simp)]; exact q3) (by rw [hs]; exact heap_setCell_box_a _ q1) (by rw [hs]; exact ⟨k0, k1⟩)
            first | exact F | exact F.2 | exact ⟨(Array.getElem?_eq_some_iff.1 F.1).2, F.2⟩
          · have GF := hid (goesFirst_c HC2.out k0 k1 lo hi)
            have hs1 := fun e => step_first (c := c) (nx := nx) hd e
            have hs2 := fun e => step_last (c := c) (x := x) hn e
            gi_wp2_with fail
            refine ⟨trivial, (CallsIn.inRound _ (callsIn_wide.2 GF.out)).mono ?_⟩
            rintro _ V3 ⟨rfl, hb3⟩
            have q1' : V3.heap[w.heap.size + 1]? = some (.cells #[.int .u32 nx] 28 (0, 0)) := by rw [hb3.block _ (by omega)]; exact q1
            have q3' : V3.heap[w.heap.size + 4]? = some Rb := by rw [hb3.block _ (by omega)]; exact q3
            obtain ⟨z6, z7⟩ := cell_of_box_a q1'
            cases hf : c.first x nx with
            | true =>
              gi_wp2_with fail
              have F := fin.out (V3.setCell ⟨w.heap.size + 1, 0, none⟩ (.int .u32 x)) ((Ou.of hb3).set (.inl (.inl rfl))) (by rw [heap_setCell_other _ _ _ _ (by simp)]; exact q3') (by rw [hs1 hf]; exact heap_setCell_box_a _ q1') (by rw [hs1 hf]; exact ⟨k0, k1⟩)
              first | exact F | exact F.2 | exact ⟨(Array.getElem?_eq_some_iff.1 F.1).2, F.2⟩
            | false =>
              gi_wp2_with fail
              have F := fin.out _ (Ou.of hb3) q3' (by rw [hs2 hf]; exact q1') (by rw [hs2 hf]; exact ⟨lo, hi⟩)
              first | exact F | exact F.2 | exact ⟨(Array.getElem?_eq_some_iff.1 F.1).2, F.2⟩
      · intro ss V hr hJ hO
        refine ⟨hJ.box, hJ.L, ?_, hbW1.trans ((hA.mono hbW1.size).trans (hO.below (by omega) (fun k hk => by rcases hk with (hk | hk) | hk <;> omega)))⟩
        rw [hO.block _ (by omega) (fun e => by rcases e with (e | e) | e <;> omega), hA.block _ (by omega)]; exact hD1
    · rintro e V ⟨he, ss, hr, h1, h2, h3, h4⟩
      exact ⟨he, h2, h3, ss, hr, h1, h4⟩
  · rintro W' o ⟨ss, hr, hv, hbel⟩ hD hl
    rw [hsz] at hD hl ⊢
    have hD2 : (W'.putObj (w.heap.size + 3 + 1) o).heap[w.heap.size + 3]? = some (.deferred (some [])) := (World.putObj_heap_other (by omega)).trans hD
    have hv2 : (W'.putObj (w.heap.size + 3 + 1) o).heap[w.heap.size + 1]? = some (.cells #[.int .u32 (c.nextOf ss)] 28 (0, 0)) := (World.putObj_heap_other (by omega)).trans hv
    have hb2 : Below w.heap.size w (W'.putObj (w.heap.size + 3 + 1) o) := hbel.grown (grownBy_putObj_a _ _ _) hbel.size (fun k e => by cases e; omega)
    generalize W'.putObj (w.heap.size + 3 + 1) o = W2 at *
    obtain ⟨c0, f0⟩ := cell_of_box_a hv2
    gi_wp2_with fail
    gi_region
    gi_wp2
    have hB3 : Below w.heap.size w (W2.drew.putObj (w.heap.size + 3) (.deferred none)) := (Below.drew hb2).trans ⟨rfl, rfl, rfl, by simp, fun q hq => World.putObj_heap_other (by omega)⟩
    refine ⟨by simp, .inl ⟨_, _, rfl, run_takeDeferred (w := W2.drew) hD2, ?_⟩⟩
    exact ⟨.tuple #[.int .u32 (c.nextOf ss), .bool (c.nextOf ss != 0)], by simp [results, Try.results23, go_sem], ss, hr, rfl, hB3⟩
end Go.Proofs.Ytilcbkejmpfnfab
