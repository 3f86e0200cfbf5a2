/-
  
-/
import Derived.Test.YtpolbbdaippclaaGreatNsAc
import Derived.RangeFuncSeq
import Derived.RangeFuncGives
import Derived.Sort.MapsRangeIn
import Derived.Shelf.AbstractIn
import Derived.Shelf.Abstract
import Derived.Shelf.RegionOpen
import Derived.OwnWalkIn
import Derived.TacticsInMore
import Derived.RegionIn
import Derived.LoopNIn
import Derived.LoopIn
import Derived.Maps.AppendAt
import Derived.Test.YtpolbbdaippclaaGreatNsAg
import Derived.Shelf.SlIter.Collect
import Derived.Test.YtpolbbdaippclaaGreatNsBt
namespace Go.Proofs.YtpolbbdaippclaaGreat
open Go.RowKit Go.ChangeShapes Go.WideShapes Go.ChangeAt Go.Maps Go.Shelf
set_option linter.unusedVariables false
set_option linter.unusedSimpArgs false
set_option maxRecDepth 100000
def encF (x : Int) : Value := .int .u32 x
theorem keyF_inv {key : Value} {kl : Lit} (h : keyOf Tryz.prog 33 key = some kl) : ∃ x, key = encF x ∧ kl = kyF x := by
 obtain ⟨i, e1, e2, _⟩ := Maps.keyOf_int_inv Tryz.underlying33 h
 exact ⟨i, e1, e2⟩
section
variable {α : Type}
def Col (D : DataW α) (left : Lit → Bool) (ss : List Int) : Prop :=
 ss.Nodup ∧ (∀ i, i ∈ ss → Maps.has D (kyF i) = true ∧ left (kyF i) = false) ∧ ∀ i, Maps.has D (kyF i) = true → left (kyF i) = false → i ∈ ss
theorem Col.start (D : DataW α) : Col D (Maps.has D) [] := ⟨List.nodup_nil, fun i h => by simp at h, fun i h1 h2 => by rw [h1] at h2; cases h2⟩
theorem Col.step {D : DataW α} {left : Lit → Bool} {ss : List Int} (h : Col D left ss) {x : Int} (hl : left (kyF x) = true) (hh : Maps.has D (kyF x) = true) : Col D (fun z => left z && !z.sameKey (kyF x)) (ss ++ [x]) := by
 obtain ⟨h1, h2, h3⟩ := h
 have hx : x ∉ ss := fun e => by have := (h2 x e).2; rw [hl] at this; cases this
 refine ⟨?_, fun i hi => ?_, fun i a b => ?_⟩
 · rw [List.nodup_append]
   exact ⟨h1, by simp, fun a ha b hb => by simp at hb; subst hb; exact fun e => hx (e ▸ ha)⟩
 · rw [List.mem_append] at hi
   rcases hi with hi | hi
   · exact ⟨(h2 i hi).1, by simp [(h2 i hi).2]⟩
   · simp at hi
     subst hi
     exact ⟨hh, by simp [same_kyF]⟩
 · rw [List.mem_append]
   cases hli : left (kyF i) with
   | false => exact .inl (h3 i a hli)
   | true =>
     simp [hli, same_kyF] at b
     subst b
     exact .inr (by simp)
theorem Col.all {D : DataW α} {left : Lit → Bool} {ss : List Int} (h : Col D left ss) (hl : ∀ kl, left kl = false) : ss.Nodup ∧ ∀ i, i ∈ ss ↔ Maps.has D (kyF i) = true :=
 ⟨h.1, fun i => ⟨fun hi => (h.2.1 i hi).1, fun hi => h.2.2 i hi (hl _)⟩⟩
end
def AllF {α : Type} (f : Int → Option α) (ss : List Int) : Prop := ss.Nodup ∧ ∀ i, i ∈ ss ↔ (f i).isSome = true
end Go.Proofs.YtpolbbdaippclaaGreat
namespace Go.Proofs.YtpolbbdaippclaaGreat
open Go.RowKit Go.ChangeShapes Go.WideShapes Go.ChangeAt Go.Maps Go.Shelf
attribute [local go_sem] Oper.semAt_some
set_option linter.unusedVariables false
set_option linter.unusedSimpArgs false
set_option maxRecDepth 100000
theorem info_fidJ : ∃ i : TypeInfo, Tryz.prog.info? 33 = some i ∧ i.zero = some (.int .u32 0) ∧ i.size = 1 ∧ i.bytes = 4 := by
 have h : (Tryz.prog.info? 33).map (fun i => (i.zero, i.size, i.bytes)) = some (some (.int .u32 0), 1, 4) := by kernel_rfl
 cases hi : Tryz.prog.info? 33 with
 | none => rw [hi] at h; cases h
 | some i =>
   rw [hi] at h
   simp at h
   exact ⟨i, rfl, h.1, h.2.1, h.2.2⟩
theorem own_sliceF {w : World} {base : Nat} {e size n : Nat} {v : Value} {xs : List Value} (h : w.ownsRow base e size v n xs) : ∃ a m c, v = .slice a m c := by
 rcases h.2 with ⟨rfl, _⟩ | ⟨g, cap, cur, rfl, _⟩
 · exact ⟨_, _, _, rfl⟩
 · exact ⟨_, _, _, rfl⟩
structure ApF (B Bs l D : Nat) (w0 : World) (Lr : Obj) (ss : List Int) (W : World) : Prop where
 box : ∃ v, W.heap[Bs]? = some (.cells #[v] 281 (0, 0)) ∧ W.ownsRow B 33 1 v ss.length (ss.map encF)
 L : W.heap[l]? = some Lr
 K : W.heap[D]? = some (.deferred (some []))
 below : Below B w0 W
 size : l < W.heap.size
theorem ApF.abides {B Bs l D : Nat} {w0 : World} {Lr : Obj} (hLr : Lr.isWalk = false) (B' : Nat) (hB : B ≤ B') (h0 : B ≤ w0.heap.size) : AbidesFrom B' (ApF B Bs l D w0 Lr) := fun s W W' row h hg hrow => by
 have hrow' : ∀ r, row = some r → ∃ o : Obj, W.heap[r]? = some o ∧ o.isWalk = true := fun r e => (hrow r e).2
 obtain ⟨v, hv, hr⟩ := h.box
 exact ⟨⟨v, (grownBy_keeps hg hrow' hv rfl).trans hv, ownsRow_abides_a hr hg hrow'⟩, (grownBy_keeps hg hrow' h.L hLr).trans h.L, (grownBy_keeps hg hrow' h.K rfl).trans h.K,
   h.below.grown hg (Nat.le_trans h0 h.below.size) (fun k e => Nat.le_trans hB (hrow k e).1), Nat.lt_of_lt_of_le h.size hg.size⟩
def ColPost (S : List Int → Prop) (w : World) (e : Ending) (w' : World) : Prop :=
 ∃ (v : Value) (ss : List Int), e = .returned v ∧ S ss ∧ w'.ownsRow w.heap.size 33 1 v ss.length (ss.map encF) ∧ Below w.heap.size w w'
set_option maxHeartbeats 2000000 in
theorem appendF_in (g : Nat) (lb : Array Value) (eg : ∀ args w, (callFunc g args).run Tryz.prog w = .ok (.enter g args) w) (S : List Int → Prop) (N : Nat) (hN : N ≤ 1000000) (w : World) (hseq : SeqGives Fence.wide 2 Tryz.prog g lb encF S N w) :
   CallsIn Fence.wide 3 Tryz.prog 228 #[.slice none 0 0, .func (.func g) #[] lb] w (ColPost S w) := by
 refine callsIn_of_wp_marks Tryz.func228 rfl trivial ?_ rfl
 simp only [Tryz.ntmps228, List.size_toArray, List.length_cons, List.length_nil, Nat.reduceAdd, Nat.reduceSub, Array.replicate_succ, Array.replicate_zero, List.push_toArray, List.append_toArray, List.nil_append, List.cons_append]
 gi_wp2
 have hx0 : (w.alloc (.cells #[.slice none 0 0] 281)).heap[w.heap.size]? = some (.cells #[.slice none 0 0] 281 (0, 0)) := heap_alloc_new w _
 have hA0 : Below w.heap.size w (w.alloc (.cells #[.slice none 0 0] 281)) := (Below.refl _ _).alloc (Nat.le_refl _) _
 have hsz : (w.alloc (.cells #[.slice none 0 0] 281)).heap.size = w.heap.size + 1 := by simp
 generalize (w.alloc (.cells #[.slice none 0 0] 281)) = W at *
 refine Rg.range_go (gf := g) (lb := lb) rfl eg (fun W' => ∃ ss v, S ss ∧ W'.heap[w.heap.size]? = some (.cells #[v] 281 (0, 0)) ∧ W'.ownsRow w.heap.size 33 1 v ss.length (ss.map encF) ∧ Below w.heap.size w W' ∧ ∃ lr : Loop, W'.heap[w.heap.size + 2]? = some (.loop lr)) ?_ ?_
 · intro fn
   generalize hR : Rg.recOf fn _ _ _ _ _ = R
   have h4 : W.heap.size + 1 = w.heap.size + 2 := by omega
   have hD1 : ((W.alloc (.deferred (some []))).alloc (.loop (R .ready))).heap[w.heap.size + 1]? = some (.deferred (some [])) := by
     rw [Below.heap_alloc _ _ _ (by simp; omega), ← hsz]; exact heap_alloc_new W _
   have hL1 : ((W.alloc (.deferred (some []))).alloc (.loop (R .ready))).heap[w.heap.size + 2]? = some (.loop (R .ready)) := by
     have := heap_alloc_new (W.alloc (.deferred (some []))) (.loop (R .ready)); rw [World.size_alloc, h4] at this; exact this
   have hB1 : Below W.heap.size W ((W.alloc (.deferred (some []))).alloc (.loop (R .ready))) := ((Below.refl _ _).alloc (Nat.le_refl _) _).alloc (by simp) _
   have hz1 : w.heap.size + 2 < ((W.alloc (.deferred (some []))).alloc (.loop (R .ready))).heap.size := by simp; omega
   generalize ((W.alloc (.deferred (some []))).alloc (.loop (R .ready))) = W1 at *
   rw [hsz, show w.heap.size + 1 + 1 = w.heap.size + 2 from rfl]
   have hbW1 : Below w.heap.size w W1 := hA0.trans (hB1.mono hA0.size)
   refine (hseq (w.heap.size + 2) (ApF w.heap.size w.heap.size (w.heap.size + 2) (w.heap.size + 1) w (.loop (R .ready))) W1 hbW1 (ApF.abides rfl _ hbW1.size (Nat.le_refl _)) ?_
     ⟨⟨_, by rw [hB1.block _ (by omega)]; exact hx0, ⟨rfl, .inl ⟨rfl, rfl⟩⟩⟩, hL1, hD1, hbW1, hz1⟩).mono ?_
   · intro pre x V hJ hlen
     rw [hsz] at hR
     subst hR
     refine Rg.round_go hJ.L (by rfl) ?_
     rw [show encF x = .int .u32 x from rfl]
     gi_wp2
     have hLV := hJ.L
     have hVz := hJ.size
     obtain ⟨v, hv, hrow⟩ := hJ.box
     have hKV := hJ.K
     have hbV := hJ.below
     clear hJ
     generalize hRr : Obj.loop (Rg.recOf fn _ _ _ _ (w.heap.size + 1) LoopState.ready) = Rr at *
     have kRr : Rr.isWalk = false := by rw [← hRr]; rfl
     generalize hRb : Obj.loop (Rg.recOf fn _ _ _ _ (w.heap.size + 1) LoopState.busy) = Rb at *
     have kRb : Rb.isWalk = false := by rw [← hRb]; rfl
     have nRb : ∀ cur T m, Rb ≠ .cells cur T m := by rw [← hRb]; intro cur T m e; cases e
     have nRr : ∀ cur T m, Rr ≠ .cells cur T m := by rw [← hRr]; intro cur T m e; cases e
     clear hRr hRb
     refine ⟨hLV, ?_⟩
     have hg2 : V.grownBy (V.putObj (w.heap.size + 2) Rb) (some (w.heap.size + 2)) := grownBy_putObj_a _ _ _
     have hk2 : KeepsWalks V (V.putObj (w.heap.size + 2) Rb) := KeepsWalks.putObj _ hLV kRr
     have hv2 : (V.putObj (w.heap.size + 2) Rb).heap[w.heap.size]? = some (.cells #[v] 281 (0, 0)) := (World.putObj_heap_other (by omega)).trans hv
     have hK2 : (V.putObj (w.heap.size + 2) Rb).heap[w.heap.size + 1]? = some (.deferred (some [])) := (World.putObj_heap_other (by omega)).trans hKV
     have hL2 : (V.putObj (w.heap.size + 2) Rb).heap[w.heap.size + 2]? = some Rb := World.putObj_heap_same hVz
     have hrow2 : (V.putObj (w.heap.size + 2) Rb).ownsRow w.heap.size 33 1 v pre.length (pre.map encF) := hrow.kept hg2 (ownsRow_ne_a hrow hLV (fun cur e => nRr _ _ _ e))
     have hb2 : Below w.heap.size w (V.putObj (w.heap.size + 2) Rb) := hbV.grown hg2 hbV.size (fun k e => by cases e; omega)
     generalize V.putObj (w.heap.size + 2) Rb = V2 at *
     obtain ⟨hc2, hf2⟩ := cell_of_box_a hv2
     have hl2 := lt_blkC hL2
     obtain ⟨i0, hi, hz0, hz1', hz2⟩ := info_fidJ
     have ne_of : ∀ {j : Nat} {o : Obj}, V2.heap[j]? = some o → (∀ cur, o ≠ .cells cur 33 (0, 0)) → some j ≠ v.ownBlock := fun hj hno => by
       rcases ownsRow_ne_a hrow2 hj hno with e | e
       · rw [e]; simp
       · exact fun e' => e e'.symm
     gi_wp2_with (first
       | (gi_at_builtin; refine wpListIn_append_own _ rfl _ _ 281 rfl w.heap.size 33 i0 (.int .u32 0) 1 4 Tryz.underlying281 hi hz0 hz1' hz2 rfl (by decide) _ _ _ rfl (hrow2.alloc _) ⟨V2.heap.size, 0, none⟩ 1 1 [.int .u32 x] rfl rfl (cell_one_new _ _ _) (by simp [Value.oneCell']) (by unfold maxLen; omega) (by omega) (by have := hb2.size; simp; omega) ?_
          intro v' w3 hown' hg3 hnil3
          have hv3 : w3.heap[w.heap.size]? = some (.cells #[v] 281 (0, 0)) := (hg3.block _ (by simp; omega) (ne_of hv2 (fun cur e => by have := (Obj.cells.inj e).2.1; revert this; decide))).trans ((Below.heap_alloc _ _ _ (by omega)).trans hv2)
          obtain ⟨hc3, hf3⟩ := cell_of_box_a hv3
          obtain ⟨a5, n5, c5, rfl⟩ := own_sliceF hown'
          go_frame)
       | gi_round_op_a)
     have hL3 : w3.heap[w.heap.size + 2]? = some Rb := (hg3.block _ (by simp; omega) (ne_of hL2 (fun cur e => nRb _ _ _ e))).trans ((Below.heap_alloc _ _ _ (by omega)).trans hL2)
     have hK3 : w3.heap[w.heap.size + 1]? = some (.deferred (some [])) := (hg3.block _ (by simp; omega) (ne_of hK2 (fun cur e => by cases e))).trans ((Below.heap_alloc _ _ _ (by omega)).trans hK2)
     have hg4 : w3.grownBy (w3.setCell ⟨w.heap.size, 0, none⟩ (.slice a5 n5 c5)) (some w.heap.size) := grownBy_setCell0_a _ _ _
     have hv4 := heap_setCell_box_a (.slice a5 n5 c5) hv3
     have hk34 : KeepsWalks w3 (w3.setCell ⟨w.heap.size, 0, none⟩ (.slice a5 n5 c5)) := KeepsWalks.setCell _ _ _
     generalize w3.setCell ⟨w.heap.size, 0, none⟩ (.slice a5 n5 c5) = w4 at *
     have hL4 : w4.heap[w.heap.size + 2]? = some Rb := (hg4.block _ (lt_blkC hL3) (fun e => by simp at e)).trans hL3
     have hK4 : w4.heap[w.heap.size + 1]? = some (.deferred (some [])) := (hg4.block _ (lt_blkC hK3) (fun e => by simp at e)).trans hK3
     have hrow4 := hown'.kept hg4 (ownsRow_ne_a hown' hv3 (fun cur e => by have := (Obj.cells.inj e).2.1; revert this; decide))
     have hb3 : Below w.heap.size w w3 := (hb2.alloc hb2.size _).grown hg3 (by have := hb2.size; simp; omega) (fun k e => (hrow2.lt k e).1)
     have hb4 : Below w.heap.size w w4 := hb3.grown hg4 hb3.size (fun k e => by cases e; exact Nat.le_refl _)
     have hk4 : KeepsWalks V w4 := ((hk2.trans (KeepsWalks.alloc _ _)).trans (KeepsWalks.of_grownBy hg3 (ownsRow_not_walk_a (hrow2.alloc _)))).trans hk34
     have hrow5 := hrow4.kept (grownBy_putObj_a w4 (w.heap.size + 2) Rr) (ownsRow_ne_a hrow4 hL4 (fun cur e => nRb _ _ _ e))
     refine ⟨hL4, ⟨⟨_, (World.putObj_heap_other (by omega)).trans hv4, ?_⟩, World.putObj_heap_same (lt_blkC hL4), (World.putObj_heap_other (by omega)).trans hK4, hb4.grown (grownBy_putObj_a _ _ _) hb4.size (fun k e => by cases e; omega), by simp; exact lt_blkC hL4⟩, hk4.trans (KeepsWalks.putObj _ hL4 kRb)⟩
     simpa [encF] using hrow5
   · rintro e V ⟨he, ss, hS, hA⟩
     obtain ⟨v, hv, hown⟩ := hA.box
     exact ⟨he, hA.L, hA.K, ss, v, hS, hv, hown, hA.below, _, hA.L⟩
 · rintro W' o ⟨ss, v, hS, hv, hown, hbel, lr, hlr⟩ hD hl
   rw [hsz] at hD hl ⊢
   have hD2 : (W'.putObj (w.heap.size + 1 + 1) o).heap[w.heap.size + 1]? = some (.deferred (some [])) := (World.putObj_heap_other (by omega)).trans hD
   have hv2 : (W'.putObj (w.heap.size + 1 + 1) o).heap[w.heap.size]? = some (.cells #[v] 281 (0, 0)) := (World.putObj_heap_other (by omega)).trans hv
   have hown2 : (W'.putObj (w.heap.size + 1 + 1) o).ownsRow w.heap.size 33 1 v ss.length (ss.map encF) := hown.kept (grownBy_putObj_a W' (w.heap.size + 1 + 1) o) (ownsRow_ne_a hown hlr (fun cur e => by cases e))
   have hb2 : Below w.heap.size w (W'.putObj (w.heap.size + 1 + 1) o) := hbel.grown (grownBy_putObj_a _ _ _) hbel.size (fun k e => by cases e; omega)
   generalize (W'.putObj (w.heap.size + 1 + 1) o) = W2 at *
   obtain ⟨hc2, hf2⟩ := cell_of_box_a hv2
   gi_wp2_with fail
   have hO3 : (W2.putObj (w.heap.size + 1) (.deferred none)).ownsRow w.heap.size 33 1 v ss.length (ss.map encF) := hown2.kept (grownBy_putObj_a W2 (w.heap.size + 1) _) (ownsRow_ne_a hown2 hD2 (fun cur e => by cases e))
   have hB3 : Below w.heap.size w (W2.putObj (w.heap.size + 1) (.deferred none)) := hb2.grown (grownBy_putObj_a _ _ _) hb2.size (fun k e => by cases e; omega)
   refine ⟨by simp, .inl ⟨_, _, rfl, run_takeDeferred (w := W2) hD2, ?_⟩⟩
   exact ⟨v, by simp [results, Tryz.results228, go_sem], v, ss, rfl, hS, hO3, hB3⟩
set_option maxHeartbeats 1000000 in
theorem collectF_in (g : Nat) (lb : Array Value) (eg : ∀ args w, (callFunc g args).run Tryz.prog w = .ok (.enter g args) w) (S : List Int → Prop) (N : Nat) (hN : N ≤ 1000000) (w : World) (hseq : SeqGives Fence.wide 2 Tryz.prog g lb encF S N w) :
   Calls Tryz.prog 212 #[.func (.func g) #[] lb] w (ColPost S w) := by
 go_enter Tryz.func212, Tryz.ntmps212
 go_wp2_with fail
 refine (callsIn_wide.1 (appendF_in g lb eg S N hN w hseq)).mono ?_
 rintro _ w' ⟨v, ss, rfl, h1, h2, h3⟩
 obtain ⟨a5, n5, c5, rfl⟩ := own_sliceF h2
 go_wp2_with fail
 go_ret
 exact ⟨_, ss, rfl, h1, h2, h3⟩
def SortPost (S : List Int → Prop) (w : World) (e : Ending) (w' : World) : Prop :=
 ∃ (a : Option Addr) (n cap : Nat) (f : Nat → Int), e = .returned (.slice a n cap) ∧ n ≤ cap ∧ (0 < n → ∃ g, a = some ⟨g, 0, none⟩ ∧ w.heap.size ≤ g ∧ FidsAt w' g n f) ∧ Below w.heap.size w w' ∧ UpF n f ∧ (∀ i j, i < n → j < n → f i = f j → i = j) ∧ ∃ ss, S ss ∧ ss.length = n ∧ ∀ x, x ∈ ss ↔ ∃ k, k < n ∧ f k = x
theorem getD_atJ {ss : List Int} {k : Nat} (h : k < ss.length) : ss.getD k 0 = ss[k] := by simp [List.getD, List.getElem?_eq_getElem h]
theorem own_fids {w : World} {base : Nat} {a : Option Addr} {n cap : Nat} {m : Nat} {ss : List Int} (h : w.ownsRow base 33 1 (.slice a n cap) m (ss.map encF)) (hm : m = ss.length) : n = m ∧ n ≤ cap ∧ (0 < n → ∃ g, a = some ⟨g, 0, none⟩ ∧ base ≤ g ∧ FidsAt w g n (fun k => ss.getD k 0)) := by
 rcases h.2 with ⟨e, e0⟩ | ⟨g, cap', cur, e, hb, hg, h1, h2, h3, h4⟩
 · cases e
   exact ⟨by omega, Nat.le_refl _, fun h => by omega⟩
 · cases e
   refine ⟨rfl, h1, fun _ => ⟨g, rfl, hb, cur, hg, by omega, fun j hj => ?_⟩⟩
   have hx : (cur.toList.take (n * 1))[j]? = (ss.map encF)[j]? := by rw [h4]
   rw [List.getElem?_take_of_lt (by omega), List.getElem?_map] at hx
   rw [← Array.getElem?_toList, hx, List.getElem?_eq_getElem (by omega)]
   simp [encF, List.getD, List.getElem?_eq_getElem (show j < ss.length by omega)]
end Go.Proofs.YtpolbbdaippclaaGreat
namespace Go.Proofs.YtpolbbdaippclaaGreat
open Go.RowKit Go.ChangeShapes Go.WideShapes Go.ChangeAt Go.Maps Go.Shelf
set_option linter.unusedVariables false
set_option linter.unusedSimpArgs false
set_option maxRecDepth 100000
attribute [local go_sem] Oper.semAt_some
def SortOK : Prop := ∀ (g n cap : Nat) (f0 : Nat → Int) (w : World), FidsAt w g n f0 → (∀ a b, a < n → b < n → f0 a = f0 b → a = b) → n ≤ 12 → n ≤ cap → Calls Tryz.prog 213 #[.slice (some ⟨g, 0, none⟩) n cap] w (SortedTo w g n f0)
set_option maxHeartbeats 1000000 in
theorem keysT_gives (n : Nat) (hn : 1 ≤ n) (Bm b m : Nat) (f : Int → Option (Option Addr)) (w : World) (hBm : Bm < w.heap.size) (hm : w.cell? ⟨Bm, 0, none⟩ = some (.map (some b))) (hf : IsFm ptE w b m f) :
   SeqGives Fence.wide n Tryz.prog 214 #[.pointer (some ⟨Bm, 0, none⟩)] encF (fun ss => AllF f ss ∧ ss.length ≤ m) m w := by
 intro l J W hW hJ hY h0
 have hfW : IsFm ptE W b m f := hf.out (S := fun _ => False) (Ou.of hW) id
 have hmW : W.cell? ⟨Bm, 0, none⟩ = some (.map (some b)) := (hW.cell (p := ⟨Bm, 0, none⟩) hBm).trans hm
 obtain ⟨D, hown, hs, hfD⟩ := hfW
 have HF : Hid (∀ ss, (ss.Nodup ∧ ∀ i, i ∈ ss ↔ Maps.has D (kyF i) = true) → AllF f ss) := hid (fun ss h => ⟨h.1, fun i => by rw [h.2, Maps.has_eq_look_of (E := ptE) hown i, hfD i]⟩)
 have HS := hid hs
 clear hf hm hfD hW hBm hs
 refine callsIn_of_wp Tryz.func214 rfl trivial ?_ rfl
 simp only [Tryz.ntmps214, List.size_toArray, List.length_cons, List.length_nil, Nat.reduceAdd, Nat.reduceSub, Array.replicate_succ, Array.replicate_zero, List.push_toArray, List.append_toArray, List.nil_append, List.cons_append]
 gi_wp2_with (first
   | (gi_at_range; refine wpListIn_range_own _ rfl _ 247 rfl 33 264 lawF Tryz.underlying247 _ b m _ rfl hown ?_; intro w0 hrg0 hg0 hs0)
   | gi_in)
 go_frame
 gi_loopw [3] (fun _ wr => ∃ (left : Lit → Bool) (cnt : Nat) (ss : List Int), wr.ranges Tryz.prog 33 ptE.rd b W.heap.size m D left cnt ∧ ss.length + cnt ≤ m ∧ Col D left ss ∧ J ss wr) (fun _ wr => wr.rangeLeft b W.heap.size)
 case atStart => exact ⟨_, _, [], hrg0, by simp [HS.out], Col.start D, hJ [] W w0 none h0 hg0 (fun r e => by cases e)⟩
 case round =>
   obtain ⟨left, cnt, ss, hrg, hcs, hC, hJs⟩ := hrel
   gi_wp2_with (first
     | (gi_at_next; refine wpListIn_next_ranges _ rfl _ rfl 33 lawF ptE.rd encF id (fun key kl hk => by obtain ⟨x, hx, _⟩ := keyF_inv hk; exact ⟨x, hx⟩) (fun v _ _ => ⟨v, rfl⟩) b W.heap.size m _ _ _ rfl hrg ?_ ?_)
     | gi_in)
   · intro hc0 hl0
     gi_wp2
     exact body_endF (by kernel_rfl) rfl ⟨⟨_, rfl⟩, ss, ⟨HF.out ss (hC.all hl0), by omega⟩, hJs⟩
   · intro x c kl yd yp w2 cnt2 hkey hlk hv hat hrg2 hlt hg2 hs2 hen
     obtain ⟨x', ex, rfl⟩ := keyF_inv hkey
     obtain rfl : x = x' := by unfold encF at ex; cases ex; rfl
     have hJ2 : J ss w2 := hJ ss wr w2 (some W.heap.size) hJs hg2 (fun r e => by cases e; exact ⟨Nat.le_refl _, hrg.iter_walk⟩)
     obtain ⟨fn, tmps, assign, body, hy, hR⟩ := hY ss x w2 hJ2 (by omega)
     have hh : Maps.has D (kyF x) = true := Maps.has_true_of_atKey hat
     clear hs2
     gi_wp2
     refine hR.mono ?_
     rintro e W3 ⟨rfl, hJ3, hk3⟩
     gi_wp2
     have hrg3 := hrg2.of_walks hk3
     go_roundw
     case rel => exact ⟨_, cnt2, ss ++ [x], hrg3, by simp; omega, hC.step hlk hh, hJ3⟩
     case measure => rw [hrg3.left_eq, hrg.left_eq]; exact hlt
set_option maxHeartbeats 1000000 in
theorem sortedT_in (SO : SortOK) (g : Nat) (lb : Array Value) (eg : ∀ args w, (callFunc g args).run Tryz.prog w = .ok (.enter g args) w) (S : List Int → Prop) (N : Nat) (hN : N ≤ 1000000) (w : World) (hseq : SeqGives Fence.wide 2 Tryz.prog g lb encF S N w) (hnd : ∀ ss, S ss → ss.Nodup ∧ ss.length ≤ 12) :
   Calls Tryz.prog 186 #[.func (.func g) #[] lb] w (SortPost S w) := by
 go_enter Tryz.func186, Tryz.ntmps186
 go_wp2_with fail
 refine (collectF_in g lb eg S N hN w hseq).mono ?_
 rintro _ w1 ⟨v, ss, rfl, h1, h2, h3⟩
 obtain ⟨a, n, cap, rfl⟩ := own_sliceF h2
 obtain ⟨e1, hcap, hat⟩ := own_fids h2 rfl
 obtain ⟨hd, hl⟩ := hnd ss h1
 have E1 := hid e1
 clear e1 h2
 rcases Nat.eq_zero_or_pos n with h0 | h0
 · subst h0
   go_wp2_with fail
   refine (sortF_nil _ _ _).mono ?_
   rintro _ _ ⟨rfl, rfl⟩
   go_wp2_with fail
   go_ret
   refine ⟨_, _, _, fun _ => 0, rfl, hcap, fun h => by omega, h3, fun i j a b => by omega, fun i j a => by omega, ss, h1, E1.out.symm, fun x => ?_⟩
   have : ss = [] := List.eq_nil_of_length_eq_zero E1.out.symm
   subst this
   simp
 · obtain ⟨gg, rfl, hgg, hF⟩ := hat h0
   have hinj : ∀ i j, i < n → j < n → ss.getD i 0 = ss.getD j 0 → i = j := fun i j hi hj e => by
     have e1 := E1.out
     rw [getD_atJ (by omega), getD_atJ (by omega)] at e
     exact (List.getElem_inj hd).1 e
   have hn12 : n ≤ 12 := by have := E1.out; omega
   have HI := hid hinj
   have HF := hid hF
   clear hinj hF hat
   go_wp2_with fail
   refine (SO gg n cap _ w1 HF.out HI.out hn12 hcap).mono ?_
   rintro _ w2 ⟨rfl, f, hf, hs, hu, ho⟩
   go_wp2_with fail
   go_ret
   refine ⟨_, _, _, f, rfl, hcap, fun _ => ⟨gg, rfl, hgg, hf⟩, h3.trans (ho.below h3.size (fun k e => by subst e; exact hgg)), hu, hs.2, ss, h1, E1.out.symm, fun x => ?_⟩
   have e1 := E1.out
   rw [← hs.1 x]
   constructor
   · intro hx
     obtain ⟨k, hk, e⟩ := List.getElem_of_mem hx
     exact ⟨k, by omega, by show ss.getD k 0 = x; rw [getD_atJ hk]; exact e⟩
   · rintro ⟨k, hk, rfl⟩
     show ss.getD k 0 ∈ ss
     rw [getD_atJ (by omega)]
     exact List.getElem_mem _
set_option maxHeartbeats 400000 in
theorem keysT_c (b : Nat) (w : World) : Calls Tryz.prog 187 #[.map (some b)] w fun e w' => e = .returned (.func (.func 214) #[] #[.pointer (some ⟨w.heap.size, 0, none⟩)]) ∧ w' = w.alloc (.cells #[.map (some b)] 247) := by
 go_enter Tryz.func187, Tryz.ntmps187
 go_wp2
 go_ret
 exact ⟨rfl, rfl⟩
def atF (N : Tab) (f : Nat → Int) (k : Nat) : Nd := ((N (f k)).map (fun z => z.2.er)).getD Nd.no
theorem atF_all {N : Tab} {l : List Nd} {n : Nat} {f : Nat → Int} (hR : Rel N l) (hs : Srt l) (hfd : ∀ g p x, N g = some (p, x) → x.fid = g) (hup : UpF n f) (hinj : ∀ i j, i < n → j < n → f i = f j → i = j) (hm : ∀ x, (∃ k, k < n ∧ f k = x) ↔ (N x).isSome = true) : (List.range n).map (atF N f) = l := by
 have fd : ∀ k, k < n → (atF N f k).fid = f k := fun k hk => by
   have h := (hm (f k)).1 ⟨k, hk, rfl⟩
   unfold atF
   cases hN : N (f k) with
   | none => rw [hN] at h; cases h
   | some z =>
     obtain ⟨p, x⟩ := z
     exact hfd _ p x hN
 refine srt_ext ?_ hs (fun g => ?_)
 · show List.Pairwise _ _
   rw [List.pairwise_map]
   refine List.Pairwise.imp_of_mem ?_ List.pairwise_lt_range
   intro a b ha hb hab
   rw [List.mem_range] at ha hb
   have h1 := hup a b hab hb
   have h2 := hinj a b ha hb
   rw [fd a ha, fd b hb]
   unfold leI
   exact decide_eq_false (by omega)
 · rw [← hR g]
   cases hN : N g with
   | none =>
     unfold getF
     rw [List.find?_eq_none.2]
     · rfl
     · intro x hx
       obtain ⟨k, hk, rfl⟩ := List.mem_map.1 hx
       rw [List.mem_range] at hk
       rw [fd k hk]
       intro e
       have e2 : f k = g := by simpa using e
       have := (hm g).1 ⟨k, hk, e2⟩
       rw [hN] at this
       cases this
   | some z =>
     obtain ⟨k, hk, e⟩ := (hm g).2 (by rw [hN]; rfl)
     have hin : atF N f k ∈ (List.range n).map (atF N f) := List.mem_map.2 ⟨k, List.mem_range.2 hk, rfl⟩
     have hz : atF N f k = z.2.er := by unfold atF; rw [e, hN]; rfl
     cases hg : getF ((List.range n).map (atF N f)) g with
     | none =>
       unfold getF at hg
       rw [List.find?_eq_none] at hg
       exact absurd (by simp [fd k hk, e]) (hg _ hin)
     | some y =>
       obtain ⟨hy, hyg⟩ := getF_mem hg
       obtain ⟨k2, hk2, rfl⟩ := List.mem_map.1 hy
       rw [List.mem_range] at hk2
       rw [fd k2 hk2] at hyg
       have := hinj k2 k hk2 hk (by rw [hyg, e])
       subst this
       rw [hz]
       rfl
theorem FidsAt.grown {w w' : World} {b g n sz m : Nat} {f : Nat → Int} {e : TypeId} {v : Value} {xs : List Value} (h : FidsAt w g n f) (hown : w.ownsRow b e sz v m xs) (hne : 33 ≠ e) (hg : w.grownBy w' v.ownBlock) : FidsAt w' g n f := by
 obtain ⟨cs, h3, h4, h5⟩ := h
 refine ⟨cs, (hg.block g (lt_blkR h3) (fun q => ?_)).trans h3, h4, h5⟩
 rcases hown.2 with ⟨rfl, _⟩ | ⟨g', cap, cur, rfl, _, hg', _⟩
 · cases q
 · cases q
   rw [hg'] at h3
   cases h3
   exact hne rfl
theorem FidsAt.later {w w' : World} {g n : Nat} {f : Nat → Int} (h : FidsAt w g n f) (hb : Below w.heap.size w w') : FidsAt w' g n f := by
 obtain ⟨cs, h3, h4, h5⟩ := h
 exact ⟨cs, (hb.block g (lt_blkR h3)).trans h3, h4, h5⟩
set_option maxHeartbeats 4000000 in
theorem tlist_c (SO : SortOK) {w : World} {base tb : Nat} {N : Tab} {l : List Nd} (h : MT w base tb l.length N) (hR : Rel N l) (hs : Srt l) (hl40 : l.length ≤ 12) :
   Calls Tryz.prog 152 #[.map (some tb)] w fun e w' => ∃ v L, e = .returned v ∧ OwN w' w.heap.size v L ∧ L.map Nd.er = l ∧ (∀ x ∈ L, NdW w' base x) ∧ Below w.heap.size w w' := by
 obtain ⟨i0, hi, hz0, hz1, hz2⟩ := info_nd
 have H := hid h
 have LN : ∀ ty, (Builtin.len_ #[247] ty #[.map (some tb)]).run Tryz.prog w = .ok (.int .i64 (l.length : Int)) w := fun ty => h.map.len ht_tab ty
 have ATA : Hid (∀ n f, UpF n f → (∀ i j, i < n → j < n → f i = f j → i = j) → (∀ x, (∃ k, k < n ∧ f k = x) ↔ (N x).isSome = true) → (List.range n).map (atF N f) = l) := hid (fun n f h1 h2 h3 => atF_all hR hs (fun g p x e => (h.nd g p x e).2.2.2) h1 h2 h3)
 have SC : Hid (∀ (W : World) (B : Nat), Below w.heap.size w W → W.heap[B]? = some (.cells #[.map (some tb)] 247) → Calls Tryz.prog 186 #[.func (.func 214) #[] #[.pointer (some ⟨B, 0, none⟩)]] W (SortPost (fun ss => AllF N.ptr ss ∧ ss.length ≤ l.length) W)) := hid (fun W B hW hB =>
   sortedT_in SO 214 _ (enters_of Tryz.func214 (by kernel_rfl) rfl) _ l.length (by omega) W (keysT_gives 2 (by omega) B tb l.length N.ptr W (lt_blkR hB) (cell_of_box_a hB).1 (h.later hW).map) (fun ss hss => ⟨hss.1.1, by have := hss.2; omega⟩))
 clear h hR hs
 generalize l.length = n0 at *
 go_enter Tryz.func152, Tryz.ntmps152
 go_upto_region 2 with (at_make; refine wpList_make_own _ rfl _ _ 41 rfl w.heap.size 52 i0 _ 6 Tryz.underlying41 hi hz0 hz1 _ _ _ n0 rfl rfl (by omega) (by rw [hz2]; omega) (by unfold maxLen; omega) (Nat.le_refl _) ?_; intro w1 hown0 hgr0)
 have O0 : Hid (OwN w1 w.heap.size (.slice (some ⟨w.heap.size, 0, none⟩) 0 n0) []) := hid hown0
 have B0 : Hid (Below w.heap.size w w1) := hid ((Below.refl _ _).grown hgr0 (Nat.le_refl _) (fun k hk => by cases hk))
 clear hown0 hgr0 LN
 go_upto_region 3 with (first
   | (go_at_call 186; refine S2.out.mono ?_; rintro _ A0 ⟨a, n, cap, f, rfl, hcap, hat, hb12, hup, hinj, ss, hss, hlen, hmem⟩
      have hn40 : n ≤ n0 := by have := hss.2; omega
      have BA := hid (B2.out.trans (hb12.mono B2.out.size))
      have OA := hid (O2.out.later hb12)
      have HM : Hid (∀ x, (∃ k, k < n ∧ f k = x) ↔ (N x).isSome = true) := hid (fun x => by rw [← hmem x, hss.1.2 x]; unfold Tab.ptr; cases N x <;> rfl)
      have LE := hid (ATA.out n f hup hinj HM.out)
      have HAT := hid hat
      clear hat hup hinj hss hlen hmem hb12)
   | (go_at_call 187; refine (keysT_c tb _).mono ?_; rintro _ w2 ⟨rfl, e2⟩
      have hb2 : Below w1.heap.size w1 w2 := by rw [e2]; exact below_1 w1 _
      have B2 := hid (B0.out.trans (hb2.mono B0.out.size))
      have S2 := hid (SC.out w2 w1.heap.size B2.out (by rw [e2]; exact heap_alloc_new w1 _))
      have O2 := hid (O0.out.later hb2)
      clear e2 hb2))
 go_loopg [3, 13] n (fun gk v j wr => ∃ (m : Nat) (L : List Nd), m + gk = n ∧ Hid (L.length = m) ∧ j = .int .i64 m ∧ Hid (OwN wr w.heap.size v L) ∧ Hid (L.map Nd.er = (List.range m).map (atF N f)) ∧ Hid (∀ x ∈ L, NdW wr base x) ∧ Hid (0 < n → ∃ g, a = some ⟨g, 0, none⟩ ∧ FidsAt wr g n f) ∧ Hid (Below w.heap.size w wr))
 case atStart => exact ⟨0, [], by omega, hid rfl, rfl, OA, hid rfl, hid (fun x hx => by cases hx), hid (fun h => by obtain ⟨g, e, _, hF⟩ := HAT.out h; exact ⟨g, e, hF⟩), BA⟩
 case round =>
   obtain ⟨m, L, hm2, HL, rfl, HO, HE, HR, HF, HB⟩ := hrel
   obtain ⟨va, vc, rfl⟩ := HO.out.shape
   by_cases hlt : m < n
   · have hltI : (m : Int) < n := by omega
     have hL1000 : L.length ≤ 1000 := by have := HL.out; omega
     obtain ⟨gg, rfl, hF⟩ := HF.out (by omega)
     have r1 := (hF.cell hlt).1
     have hI := H.out.later HB.out
     obtain ⟨z, hz⟩ := Option.isSome_iff_exists.1 ((HM.out (f m)).1 ⟨m, hlt, rfl⟩)
     obtain ⟨p, y⟩ := z
     obtain ⟨hbp, hli, hw, hfd⟩ := hI.nd _ p y hz
     have hsp := hli.1
     have hk := hw.1.1
     rw [hfd] at hk
     have LK := hI.look hk.1 hk.2
     rw [hz] at LK
     have TK : Hid ((List.range (m + 1)).map (atF N f) = (List.range m).map (atF N f) ++ [y.er]) := hid (by
       rw [List.range_succ, List.map_append]
       simp [atF, hz])
     obtain ⟨y0, y1, y2, y3, y4, y5⟩ := hli.ndc.all
     obtain ⟨pb, po, ps⟩ := p
     simp only at hsp y0 y1 y2 y3 y4 y5 LK
     subst hsp
     have W8 := hid hw
     have HF1 := hid hF
     have mB : (0 : Int) ≤ m := by omega
     have b8 := below_1 wr (.cells y.cells.toArray 52)
     have N8 := hid (heap_alloc_new wr (.cells y.cells.toArray 52))
     have O8 := hid (HO.out.later b8)
     have B8 := hid (HB.out.trans (b8.mono HB.out.size))
     have C8 := hid b8
     clear hI hli hw hF b8 hz hbp hk hfd
     obtain ⟨yf, yk, ym, yl, yda, ydc, yzs, yka, ykc, yks⟩ := y
     simp only [Option.map_some] at *
     generalize f m = fm at *
     go_wp2_with (at_builtin; refine wpList_appNd _ rfl _ _ rfl w.heap.size _ L rfl O8.out wr.heap.size _ ⟨yf, yk, ym, yl, yda, ydc, yzs, yka, ykc, yks⟩ rfl N8.out (by omega) B8.out.size ?_; intro v9 w9 hown9 hgrow9)
     have HB9 := hid (below_grownN B8.out O8.out (Nat.le_refl _) B8.out.size hgrow9)
     have HO9 := hid hown9
     have HR9 : Hid (∀ x ∈ L ++ [⟨yf, yk, ym, yl, yda, ydc, yzs, yka, ykc, yks⟩], NdW w9 base x) := hid (fun x hx => by
       rcases List.mem_append.1 hx with hx | hx
       · exact ((HR.out x hx).later C8.out).grown O8.out hgrow9
       · rw [List.mem_singleton] at hx
         subst hx
         exact (W8.out.later C8.out).grown O8.out hgrow9)
     have HF9 := hid ((HF1.out.later C8.out).grown O8.out (by decide) hgrow9)
     have EL : Hid ((L ++ [(⟨yf, yk, ym, yl, yda, ydc, yzs, yka, ykc, yks⟩ : Nd)]).map Nd.er = (List.range (m + 1)).map (atF N f)) := hid (by rw [TK.out, List.map_append, HE.out]; rfl)
     clear hown9 hgrow9
     go_roundg (gk - 1)
     case measure => omega
     case rel => exact ⟨m + 1, _, by omega, hid (by rw [List.length_append, HL.out]; rfl), by go_num, HO9, EL, HR9, hid (fun _ => ⟨gg, rfl, HF9.out⟩), HB9⟩
   · have em : m = n := by omega
     subst em
     have hge : ¬ (m : Int) < m := by omega
     have EF : Hid (L.map Nd.er = l) := hid (by rw [HE.out]; exact LE.out)
     go_wp2
     go_ret
     exact ⟨_, rfl, L, HO.out, EF.out, HR.out, HB.out⟩
def Dis (L : List Nd) : Prop := ∀ i j, i < L.length → j < L.length → (L.getD i Nd.no).fid = (L.getD j Nd.no).fid → i = j
theorem dis_of {L l : List Nd} (he : L.map Nd.er = l) (hs : Srt l) : Dis L := fun i j hi hj e => by
 have hf : ∀ k (hk : k < L.length), (L.getD k Nd.no).fid = (l[k]'(by rw [← he]; simpa using hk)).fid := fun k hk => by
   subst he
   simp [List.getD, List.getElem?_eq_getElem hk]
   rfl
 have hlen : l.length = L.length := by rw [← he]; simp
 have hp := List.pairwise_iff_getElem.1 hs
 rw [hf i hi, hf j hj] at e
 rcases Nat.lt_trichotomy i j with h | h | h
 · have := hp i j (by omega) (by omega) h
   rw [e, leI_refl] at this
   cases this
 · exact h
 · have := hp j i (by omega) (by omega) h
   rw [e, leI_refl] at this
   cases this
theorem plN_all {L : List Nd} (hd : Dis L) : ∀ m, m ≤ L.length → plN L m = m
 | 0, _ => rfl
 | m + 1, hm => by
   unfold plN addN
   cases hp : plTo L m (L.getD m Nd.no).fid with
   | none => rw [plN_all hd m (by omega)]; rfl
   | some i =>
     obtain ⟨h1, h2⟩ := plTo_lt L m hp
     have := hd i m (by omega) (by omega) h2
     omega
theorem plTo_at {L : List Nd} (hd : Dis L) {i : Nat} : ∀ m, i < m → m ≤ L.length → plTo L m (L.getD i Nd.no).fid = some i
 | 0, h, _ => by omega
 | m + 1, h, hm => by
   unfold plTo updF
   by_cases e : (L.getD i Nd.no).fid = (L.getD m Nd.no).fid
   · have := hd i m (by omega) (by omega) e
     subst this
     rw [if_pos rfl]
   · rw [if_neg e]
     have : i ≠ m := fun e2 => e (by rw [e2])
     exact plTo_at hd m (by omega) (by omega)
theorem ndF_rel {L l : List Nd} (a : Option Addr) (he : L.map Nd.er = l) (hd : Dis L) : Rel (ndF a L L.length) l := fun f => by
 unfold ndF
 cases hp : plTo L L.length f with
 | none =>
   show none = _
   symm
   unfold getF
   rw [List.find?_eq_none]
   intro x hx
   rw [← he] at hx
   obtain ⟨y, hy, rfl⟩ := List.mem_map.1 hx
   obtain ⟨i, hi, rfl⟩ := List.getElem_of_mem hy
   intro e
   have e3 : L[i].er.fid = f := by simpa using e
   have e2 : (L.getD i Nd.no).fid = f := by rw [show L.getD i Nd.no = L[i] by simp [List.getD, List.getElem?_eq_getElem hi]]; exact e3
   have := plTo_at hd L.length hi (Nat.le_refl _)
   rw [e2, hp] at this
   cases this
 | some i =>
   obtain ⟨hi, hf⟩ := plTo_lt L _ hp
   show some (L.getD i Nd.no).er = _
   have hin : (L.getD i Nd.no).er ∈ l := by
     rw [← he]
     exact List.mem_map.2 ⟨_, getD_mem L Nd.no hi, rfl⟩
   cases hg : getF l f with
   | none =>
     unfold getF at hg
     rw [List.find?_eq_none] at hg
     exact absurd (by show ((L.getD i Nd.no).fid == f) = true; simpa using hf) (hg _ hin)
   | some y =>
     obtain ⟨hy, hyf⟩ := getF_mem hg
     rw [← he] at hy
     obtain ⟨z, hz, rfl⟩ := List.mem_map.1 hy
     obtain ⟨j, hj, rfl⟩ := List.getElem_of_mem hz
     have e1 : L.getD j Nd.no = L[j] := by simp [List.getD, List.getElem?_eq_getElem hj]
     have e2 : (L.getD j Nd.no).fid = f := by rw [e1]; exact hyf
     have := hd i j hi hj (by rw [hf, e2])
     subst this
     rw [e1]
theorem mt_of {w w' : World} {base : Nat} {a : Option Addr} {c : Nat} {L : List Nd} (ho : OwN w base (.slice a L.length c) L) (hn : ∀ x ∈ L, NdW w base x) (hk : KAp L) (hd : Dis L) (hz : base ≤ w.heap.size) (hb : Below w.heap.size w w')
   (ht : IsTab w' w.heap.size (plN L L.length) (ndF a L L.length)) : MT w' base w.heap.size L.length (ndF a L L.length) := by
 have hp := ht.1
 rw [plN_all hd _ (Nat.le_refl _)] at hp
 have ix : ∀ f p x, ndF a L L.length f = some (p, x) → ∃ i, i < L.length ∧ x = L.getD i Nd.no ∧ x.fid = f ∧ ∃ g cur, a = some ⟨g, 0, none⟩ ∧ p = ⟨g, i * 6, none⟩ ∧ base ≤ g ∧ w.heap[g]? = some (.cells cur 52 (0, 0)) ∧ ∀ j v, (L.getD i Nd.no).cells[j]? = some v → cur[i * 6 + j]? = some v := fun f p x e => by
   unfold ndF at e
   cases hq : plTo L L.length f with
   | none => rw [hq] at e; cases e
   | some i =>
     rw [hq] at e
     simp only [Option.map_some, Option.some.injEq, Prod.mk.injEq] at e
     obtain ⟨rfl, rfl⟩ := e
     obtain ⟨h1, h2⟩ := plTo_lt L _ hq
     rcases ho.2 with ⟨e, _⟩ | ⟨g, cap, cur, e, hbg, hg, _, _, _, h4⟩
     · injection e with _ e2 _
       omega
     · injection e with e1 _ _
       subst e1
       refine ⟨i, h1, rfl, h2, g, cur, rfl, by simp, hbg, hg, fun j v hv => ?_⟩
       have hj : j < 6 := (List.getElem?_eq_some_iff.1 hv).1
       rw [← Array.getElem?_toList, ← List.getElem?_take_of_lt (show i * 6 + j < L.length * 6 by omega), h4, ncells_get L i j h1 hj]
       exact hv
 refine ⟨hp, hz, fun f p x e => ?_, fun f g p q x y e1 e2 hne => ?_, fun f g p q x y e1 e2 hne b hb1 => ?_⟩
 · obtain ⟨i, hi, rfl, hf, g, cur, _, rfl, h1, h2, h3⟩ := ix f p x e
   exact ⟨h1, ⟨rfl, cur, (hb.block g (lt_blkR h2)).trans h2, h3⟩, (hn _ (getD_mem L Nd.no hi)).later hb, hf⟩
 · obtain ⟨i, hi, rfl, hf, g1, c1, ea, rfl, _, _, _⟩ := ix f p x e1
   obtain ⟨j, hj, rfl, hf2, g2, c2, ea2, rfl, _, _, _⟩ := ix g q y e2
   have : i ≠ j := fun e => hne (by rw [← hf, ← hf2, e])
   right
   simp only
   omega
 · obtain ⟨i, hi, rfl, hf, _⟩ := ix f p x e1
   obtain ⟨j, hj, rfl, hf2, _⟩ := ix g q y e2
   have hij : i ≠ j := fun e => hne (by rw [← hf, ← hf2, e])
   have hg : ∀ k (hk : k < L.length), L.getD k Nd.no = L[k] := fun k hk => by simp [List.getD, List.getElem?_eq_getElem hk]
   rw [hg i hi] at hb1
   rw [hg j hj]
   have hp := List.pairwise_iff_getElem.1 hk
   rcases Nat.lt_trichotomy i j with h | h | h
   · exact hp i j hi hj h b hb1
   · exact absurd h hij
   · intro hb2
     exact hp j i hj hi h b hb2 hb1
set_option maxHeartbeats 4000000 in
theorem tApply_c (SO : SortOK) (a : Option Addr) (cap : Nat) (l : List Nd) (o : Rec) (w : World) (h : Tr w a l) (hm : l.length ≤ 900) (ho : o.Wf) (hL : (ApplyL (l.map Nd.er) o).2.length ≤ 12) (DO : ∀ (W : World) (base tb : Nat) (N : Tab), MT W base tb (l.map Nd.er).length N → Rel N (l.map Nd.er) → Rt (l.map Nd.er) → Calls Tryz.prog 185 #[.map (some tb), o.opV] W (DoP W base tb (ApplyL (l.map Nd.er) o))) :
   Calls Tryz.prog 108 #[.slice a l.length cap, o.opV] w (ResO w (ApplyL (l.map Nd.er) o)) := by
 obtain ⟨r, hr⟩ : ∃ r, r = ApplyL (l.map Nd.er) o := ⟨_, rfl⟩
 have gd := ApplyL_gd (l.map Nd.er) o
 have rt2 : r.1 = 0 → Rt r.2 := fun e => by rw [hr] at e ⊢; exact ApplyL_rt ho e
 have er3 : rightD l = false → r = (3, []) := fun e => by rw [hr]; unfold ApplyL; rw [rightD_er, e]; rfl
 have TRC : Hid (∀ (W : World) (base tb : Nat) (N : Tab) (m : Nat), m = (l.map Nd.er).length → MT W base tb m N → Rel N (l.map Nd.er) → rightD l = true → Calls Tryz.prog 151 #[.map (some tb), o.opV] W (TryP W base tb r)) := hid (fun W base tb N m hm2 hM hR e => by
   subst hm2
   rw [hr]
   exact ttry_c o hM hR (rightD_rt.1 (by rw [rightD_er]; exact e)) ho (fun W' hM' => DO W' base tb N hM' hR (rightD_rt.1 (by rw [rightD_er]; exact e))))
 clear DO
 rw [← hr] at hL
 have HL := hid hL
 clear hL
 rw [← hr]
 rw [← hr] at gd
 obtain ⟨k, fid, dir, nm, tof, nm2, md, dt, sn⟩ := o
 have b0 := below_1 w (.cells #[.int .u8 k, .int .u32 fid, .int .u32 dir, .string nm, .int .u32 tof, .string nm2, .int .u16 md, .string dt] 36)
 have h0 := heap_alloc_new w (.cells #[.int .u8 k, .int .u32 fid, .int .u32 dir, .string nm, .int .u32 tof, .string nm2, .int .u16 md, .string dt] 36)
 have B0 := hid b0
 have OPL : Hid (∀ W, Below (w.alloc (.cells #[.int .u8 k, .int .u32 fid, .int .u32 dir, .string nm, .int .u32 tof, .string nm2, .int .u16 md, .string dt] 36)).heap.size (w.alloc (.cells #[.int .u8 k, .int .u32 fid, .int .u32 dir, .string nm, .int .u32 tof, .string nm2, .int .u16 md, .string dt] 36)) W → W.heap[w.heap.size]? = some (.cells #[.int .u8 k, .int .u32 fid, .int .u32 dir, .string nm, .int .u32 tof, .string nm2, .int .u16 md, .string dt] 36)) := hid (fun W hW => (hW.block _ (lt_blkR h0)).trans h0)
 have RV := hid (right_c a cap l (w.alloc (.cells #[.int .u8 k, .int .u32 fid, .int .u32 dir, .string nm, .int .u32 tof, .string nm2, .int .u16 md, .string dt] 36)) (h.later b0).1 (by omega))
 have HT := hid h
 simp only [Rec.opV] at *
 clear b0 h0 h ho hr
 cases hb : rightD l with
 | false =>
   have RE : Hid (r = (3, [])) := hid (er3 hb)
   have HRP : Hid (¬ RightP l) := hid (fun e => by rw [rightD_iff, hb] at e; cases e)
   clear er3 rt2 gd TRC hb OPL
   go_enter Tryz.func108, Tryz.ntmps108
   go_upto_region 1 with fail
   generalize (w.alloc (.cells #[.int .u8 k, .int .u32 fid, .int .u32 dir, .string nm, .int .u32 tof, .string nm2, .int .u16 md, .string dt] 36)) = V at *
   go_wp2_with (go_at_call 122; refine RV.out.mono ?_; rintro _ w1 ⟨b1, rfl, hb1, hw1⟩; have eb : b1 = false := (by cases b1 with | false => rfl | true => exact absurd (hb1.1 rfl) HRP.out); subst eb; have B1 := hid hw1; clear hb1 hw1)
   exact bodyPost_ret (v := .tuple #[.slice none 0 0, .int .i64 3]) (by simp [results, Tryz.results108, go_sem]) rfl (ResO.err RE.out (B0.out.trans (B1.out.mono B0.out.size)))
 | true =>
   have HRP : Hid (RightP l) := hid (by rw [rightD_iff]; exact hb)
   have HRT : Hid (Rt (l.map Nd.er)) := hid (rightD_rt.1 (by rw [rightD_er]; exact hb))
   have TRC := hid (fun W base tb N m h0 h1 h2 => TRC.out W base tb N m h0 h1 h2 hb)
   obtain ⟨c, L⟩ := r
   clear er3 hb
   by_cases hc : c = 0
   · have HRT2 : Hid (Rt L) := hid (rt2 hc)
     have hcB : (c == 0) = true := by rw [hc]; rfl
     have HC := hid hc
     clear rt2 gd
     go_enter Tryz.func108, Tryz.ntmps108
     go_upto_region 1 with fail
     generalize (w.alloc (.cells #[.int .u8 k, .int .u32 fid, .int .u32 dir, .string nm, .int .u32 tof, .string nm2, .int .u16 md, .string dt] 36)) = V at *
     subst hc
     go_wp2_with (first
     | (go_at_call 152; refine LS.out.mono ?_; rintro _ w5 ⟨v5, L5, rfl, ho5, he5, hn5, hb5⟩
        have B5 := hid (B4.out.trans (hb5.mono B4.out.size))
        have NS5 : Hid (NsO w5 w.heap.size v5 L5) := hid ⟨own_low ho5 B4.out.size, fun x hx => ((hn5 x hx).low (Nat.le_trans B0.out.size B1.out.size)).r⟩
        obtain ⟨a5, c5, rfl⟩ := ho5.shape
        have E5 := hid he5
        clear ho5 he5 hn5 hb5)
     | (go_at_call 151; refine TC.out.mono ?_; rintro _ w4 ⟨rfl, h4⟩
        have h5 : (∃ N', MT w4 w1.heap.size w2.heap.size L.length N' ∧ Rel N' L) ∧ Below w1.heap.size w3 w4 := by
          rcases h4 with ⟨_, h6, h7⟩ | ⟨h6, _⟩
          · exact ⟨h6, h7⟩
          · exact absurd rfl h6
        obtain ⟨⟨N', hM4, hR4⟩, hb4⟩ := h5
        have B4 := hid ((B0.out.trans (B3.out.mono B0.out.size)).trans (hb4.mono (Nat.le_trans B0.out.size B1.out.size)))
        have LS := hid (tlist_c SO hM4 hR4 HRT2.out.srt HL.out)
        clear h4 hM4 hR4 hb4)
     | (go_at_call 149; refine TO1.out.mono ?_; rintro _ w3 ⟨rfl, ht3, hb3⟩
        have M3 := mt_of O2.out NW2.out KA2.out D2.out Z2.out hb3 ht3
        have B3 := hid (B2.out.trans (hb3.mono B2.out.size))
        have oh := OPL.out _ B3.out
        have u0 : w3.cell? ⟨w.heap.size, 0, none⟩ = some (.int .u8 k) := cell_of_row2 oh 0 rfl; have u1 : w3.cell? ⟨w.heap.size, 1, none⟩ = some (.int .u32 fid) := cell_of_row2 oh 1 rfl; have u2 : w3.cell? ⟨w.heap.size, 2, none⟩ = some (.int .u32 dir) := cell_of_row2 oh 2 rfl; have u3 : w3.cell? ⟨w.heap.size, 3, none⟩ = some (.string nm) := cell_of_row2 oh 3 rfl; have u4 : w3.cell? ⟨w.heap.size, 4, none⟩ = some (.int .u32 tof) := cell_of_row2 oh 4 rfl; have u5 : w3.cell? ⟨w.heap.size, 5, none⟩ = some (.string nm2) := cell_of_row2 oh 5 rfl; have u6 : w3.cell? ⟨w.heap.size, 6, none⟩ = some (.int .u16 md) := cell_of_row2 oh 6 rfl; have u7 : w3.cell? ⟨w.heap.size, 7, none⟩ = some (.string dt) := cell_of_row2 oh 7 rfl
        have TC := hid (TRC.out w3 w1.heap.size w2.heap.size _ _ LL2.out M3 (ndF_rel a2 ER2.out D2.out))
        have ZB3 := hid M3.size
        clear ht3 hb3 M3 oh)
     | (go_at_call 150; refine CP1.out.mono ?_; rintro _ w2 ⟨v2, L2, rfl, ho2, he2, hn2, hk2, hb2⟩
        obtain ⟨a2, c2, rfl⟩ := ho2.shape
        have hL2 : L2.length = l.length := by have := congrArg List.length he2; simpa using this
        have LL2 : Hid (L2.length = (l.map Nd.er).length) := hid (by rw [List.length_map]; exact hL2)
        have O2 := hid ho2
        have NW2 := hid hn2
        have KA2 := hid hk2
        have ER2 := hid he2
        have D2 := hid (dis_of he2 HRT.out.srt)
        have Z2 := hid hb2.size
        have B2 := hid (B1.out.trans (hb2.mono B1.out.size))
        have TO1 := hid (tableOf_c a2 c2 L2 w2 (by
          obtain ⟨a', c', e', h'⟩ := ho2.is (fun x hx => (hn2 x hx).r.ok) (by omega)
          cases e'
          exact h') (by have := HRT.out.few; rw [List.length_map] at this; omega))
        clear ho2 he2 hn2 hk2 hb2 hL2)
     | (go_at_call 122; refine RV.out.mono ?_; rintro _ w1 ⟨b1, rfl, hb1, hw1⟩
        have eb := hb1.2 HRP.out
        subst eb
        have B1 := hid hw1
        have CP1 := hid (copyAll_c a cap l w1 (HT.out.later (B0.out.trans (hw1.mono B0.out.size))) (by omega))
        clear hb1 hw1))
     exact bodyPost_ret (v := .tuple #[.slice a5 L5.length c5, .int .i64 0]) (by simp [results, Tryz.results108, go_sem]) rfl ⟨_, L5, rfl, NS5.out, E5.out, B5.out⟩
   · have hcB : (c == 0) = false := beq_eq_false_iff_ne.2 hc
     have RE : Hid ((c, L) = ((c, []) : Int × List Nd)) := hid (by rw [show L = [] from gd.1 hc])
     have HC := hid hc
     clear rt2 gd
     go_enter Tryz.func108, Tryz.ntmps108
     go_upto_region 1 with fail
     generalize (w.alloc (.cells #[.int .u8 k, .int .u32 fid, .int .u32 dir, .string nm, .int .u32 tof, .string nm2, .int .u16 md, .string dt] 36)) = V at *
     go_wp2_with (first
     | (go_at_call 151; refine TC.out.mono ?_; rintro _ w4 ⟨rfl, h4⟩
        have hb4 : Below w3.heap.size w3 w4 := by
          rcases h4 with ⟨h6, _, _⟩ | ⟨_, h7⟩
          · exact absurd h6 HC.out
          · exact h7
        have B4 := hid (B0.out.trans ((B3.out.trans (hb4.mono B3.out.size)).mono B0.out.size))
        clear h4 hb4)
     | (go_at_call 149; refine TO1.out.mono ?_; rintro _ w3 ⟨rfl, ht3, hb3⟩
        have M3 := mt_of O2.out NW2.out KA2.out D2.out Z2.out hb3 ht3
        have B3 := hid (B2.out.trans (hb3.mono B2.out.size))
        have oh := OPL.out _ B3.out
        have u0 : w3.cell? ⟨w.heap.size, 0, none⟩ = some (.int .u8 k) := cell_of_row2 oh 0 rfl; have u1 : w3.cell? ⟨w.heap.size, 1, none⟩ = some (.int .u32 fid) := cell_of_row2 oh 1 rfl; have u2 : w3.cell? ⟨w.heap.size, 2, none⟩ = some (.int .u32 dir) := cell_of_row2 oh 2 rfl; have u3 : w3.cell? ⟨w.heap.size, 3, none⟩ = some (.string nm) := cell_of_row2 oh 3 rfl; have u4 : w3.cell? ⟨w.heap.size, 4, none⟩ = some (.int .u32 tof) := cell_of_row2 oh 4 rfl; have u5 : w3.cell? ⟨w.heap.size, 5, none⟩ = some (.string nm2) := cell_of_row2 oh 5 rfl; have u6 : w3.cell? ⟨w.heap.size, 6, none⟩ = some (.int .u16 md) := cell_of_row2 oh 6 rfl; have u7 : w3.cell? ⟨w.heap.size, 7, none⟩ = some (.string dt) := cell_of_row2 oh 7 rfl
        have TC := hid (TRC.out w3 w1.heap.size w2.heap.size _ _ LL2.out M3 (ndF_rel a2 ER2.out D2.out))
        have ZB3 := hid M3.size
        clear ht3 hb3 M3 oh)
     | (go_at_call 150; refine CP1.out.mono ?_; rintro _ w2 ⟨v2, L2, rfl, ho2, he2, hn2, hk2, hb2⟩
        obtain ⟨a2, c2, rfl⟩ := ho2.shape
        have hL2 : L2.length = l.length := by have := congrArg List.length he2; simpa using this
        have LL2 : Hid (L2.length = (l.map Nd.er).length) := hid (by rw [List.length_map]; exact hL2)
        have O2 := hid ho2
        have NW2 := hid hn2
        have KA2 := hid hk2
        have ER2 := hid he2
        have D2 := hid (dis_of he2 HRT.out.srt)
        have Z2 := hid hb2.size
        have B2 := hid (B1.out.trans (hb2.mono B1.out.size))
        have TO1 := hid (tableOf_c a2 c2 L2 w2 (by
          obtain ⟨a', c', e', h'⟩ := ho2.is (fun x hx => (hn2 x hx).r.ok) (by omega)
          cases e'
          exact h') (by have := HRT.out.few; rw [List.length_map] at this; omega))
        clear ho2 he2 hn2 hk2 hb2 hL2)
     | (go_at_call 122; refine RV.out.mono ?_; rintro _ w1 ⟨b1, rfl, hb1, hw1⟩
        have eb := hb1.2 HRP.out
        subst eb
        have B1 := hid hw1
        have CP1 := hid (copyAll_c a cap l w1 (HT.out.later (B0.out.trans (hw1.mono B0.out.size))) (by omega))
        clear hb1 hw1))
     exact bodyPost_ret (v := .tuple #[.slice none 0 0, .int .i64 c]) (by simp [results, Tryz.results108, go_sem]) rfl (ResO.err RE.out B4.out)
end Go.Proofs.YtpolbbdaippclaaGreat
