/-
  A map's fids, as they come one by one.
  What a function that yields fids gives, gathered in a row.
  What is dirty, what is dear; which of two goes first.
  What is at hand, gone through by rising fids.
-/
import Derived.Test.YtfmghbennahlfaaGreatUnAd
import Derived.RangeFuncSeq
import Derived.RangeFuncGives
import Derived.Sort.MapsRangeIn
import Derived.Shelf.AbstractIn
import Derived.Shelf.Abstract
import Derived.Shelf.RegionOpen
import Derived.OwnWalkIn
import Derived.TacticsInMore
import Derived.RegionIn
import Derived.LoopNIn
import Derived.LoopIn
import Derived.Maps.AppendAt
import Derived.Test.YtfmghbennahlfaaGreatUnAg
import Derived.Shelf.SlIter.Collect
import Derived.Test.YtfmghbennahlfaaGreatUnBb
namespace Go.Proofs.YtfmghbennahlfaaGreat
open Go.RowKit Go.ChangeShapes Go.WideShapes Go.ChangeAt Go.Maps Go.Shelf
set_option linter.unusedVariables false
set_option linter.unusedSimpArgs false
set_option maxRecDepth 100000
def encF (x : Int) : Value := .int .u32 x
theorem keyF_inv {key : Value} {kl : Lit} (h : keyOf Tryz.prog 35 key = some kl) : ∃ x, key = encF x ∧ kl = kyF x := by
 obtain ⟨i, e1, e2, _⟩ := Maps.keyOf_int_inv Tryz.underlying35 h
 exact ⟨i, e1, e2⟩
section
variable {α : Type}
def Col (D : DataW α) (left : Lit → Bool) (ss : List Int) : Prop :=
 ss.Nodup ∧ (∀ i, i ∈ ss → Maps.has D (kyF i) = true ∧ left (kyF i) = false) ∧ ∀ i, Maps.has D (kyF i) = true → left (kyF i) = false → i ∈ ss
theorem Col.start (D : DataW α) : Col D (Maps.has D) [] := ⟨List.nodup_nil, fun i h => by simp at h, fun i h1 h2 => by rw [h1] at h2; cases h2⟩
theorem Col.step {D : DataW α} {left : Lit → Bool} {ss : List Int} (h : Col D left ss) {x : Int} (hl : left (kyF x) = true) (hh : Maps.has D (kyF x) = true) : Col D (fun z => left z && !z.sameKey (kyF x)) (ss ++ [x]) := by
 obtain ⟨h1, h2, h3⟩ := h
 have hx : x ∉ ss := fun e => by have := (h2 x e).2; rw [hl] at this; cases this
 refine ⟨?_, fun i hi => ?_, fun i a b => ?_⟩
 · rw [List.nodup_append]
   exact ⟨h1, by simp, fun a ha b hb => by simp at hb; subst hb; exact fun e => hx (e ▸ ha)⟩
 · rw [List.mem_append] at hi
   rcases hi with hi | hi
   · exact ⟨(h2 i hi).1, by simp [(h2 i hi).2]⟩
   · simp at hi
     subst hi
     exact ⟨hh, by simp [same_kyF]⟩
 · rw [List.mem_append]
   cases hli : left (kyF i) with
   | false => exact .inl (h3 i a hli)
   | true =>
     simp [hli, same_kyF] at b
     subst b
     exact .inr (by simp)
theorem Col.all {D : DataW α} {left : Lit → Bool} {ss : List Int} (h : Col D left ss) (hl : ∀ kl, left kl = false) : ss.Nodup ∧ ∀ i, i ∈ ss ↔ Maps.has D (kyF i) = true :=
 ⟨h.1, fun i => ⟨fun hi => (h.2.1 i hi).1, fun hi => h.2.2 i hi (hl _)⟩⟩
end
def AllF {α : Type} (f : Int → Option α) (ss : List Int) : Prop := ss.Nodup ∧ ∀ i, i ∈ ss ↔ (f i).isSome = true
set_option maxHeartbeats 1000000 in
theorem keysOb_gives (n : Nat) (hn : 1 ≤ n) (Bm b m : Nat) (f : Int → Option Ob) (w : World) (hBm : Bm < w.heap.size) (hm : w.cell? ⟨Bm, 0, none⟩ = some (.map (some b))) (hf : IsFm obE w b m f) :
   SeqGives Fence.wide n Tryz.prog 282 #[.pointer (some ⟨Bm, 0, none⟩)] encF (fun ss => AllF f ss ∧ ss.length ≤ m) m w := by
 intro l J W hW hJ hY h0
 have hfW : IsFm obE W b m f := hf.out (S := fun _ => False) (Ou.of hW) id
 have hmW : W.cell? ⟨Bm, 0, none⟩ = some (.map (some b)) := (hW.cell (p := ⟨Bm, 0, none⟩) hBm).trans hm
 obtain ⟨D, hown, hs, hfD⟩ := hfW
 have HF : Hid (∀ ss, (ss.Nodup ∧ ∀ i, i ∈ ss ↔ Maps.has D (kyF i) = true) → AllF f ss) := hid (fun ss h => ⟨h.1, fun i => by rw [h.2, Maps.has_eq_look_of (E := obE) hown i, hfD i]⟩)
 have HS := hid hs
 clear hf hm hfD hW hBm hs
 refine callsIn_of_wp Tryz.func282 rfl trivial ?_ rfl
 simp only [Tryz.ntmps282, List.size_toArray, List.length_cons, List.length_nil, Nat.reduceAdd, Nat.reduceSub, Array.replicate_succ, Array.replicate_zero, List.push_toArray, List.append_toArray, List.nil_append, List.cons_append]
 gi_wp2_with (first
   | (gi_at_range; refine wpListIn_range_own _ rfl _ 155 rfl 35 178 lawF Tryz.underlying155 _ b m _ rfl hown ?_; intro w0 hrg0 hg0 hs0)
   | gi_in)
 go_frame
 gi_loopw [3] (fun _ wr => ∃ (left : Lit → Bool) (cnt : Nat) (ss : List Int), wr.ranges Tryz.prog 35 obE.rd b W.heap.size m D left cnt ∧ ss.length + cnt ≤ m ∧ Col D left ss ∧ J ss wr) (fun _ wr => wr.rangeLeft b W.heap.size)
 case atStart => exact ⟨_, _, [], hrg0, by simp [HS.out], Col.start D, hJ [] W w0 none h0 hg0 (fun r e => by cases e)⟩
 case round =>
   obtain ⟨left, cnt, ss, hrg, hcs, hC, hJs⟩ := hrel
   gi_wp2_with (first
     | (gi_at_next; refine wpListIn_next_ranges _ rfl _ rfl 35 lawF obE.rd encF id (fun key kl hk => by obtain ⟨x, hx, _⟩ := keyF_inv hk; exact ⟨x, hx⟩) (fun v _ _ => ⟨v, rfl⟩) b W.heap.size m _ _ _ rfl hrg ?_ ?_)
     | gi_in)
   · intro hc0 hl0
     gi_wp2
     exact body_endF (by kernel_rfl) rfl ⟨⟨_, rfl⟩, ss, ⟨HF.out ss (hC.all hl0), by omega⟩, hJs⟩
   · intro x c kl yd yp w2 cnt2 hkey hlk hv hat hrg2 hlt hg2 hs2 hen
     obtain ⟨x', ex, rfl⟩ := keyF_inv hkey
     obtain rfl : x = x' := by unfold encF at ex; cases ex; rfl
     have hJ2 : J ss w2 := hJ ss wr w2 (some W.heap.size) hJs hg2 (fun r e => by cases e; exact ⟨Nat.le_refl _, hrg.iter_walk⟩)
     obtain ⟨fn, tmps, assign, body, hy, hR⟩ := hY ss x w2 hJ2 (by omega)
     have hh : Maps.has D (kyF x) = true := Maps.has_true_of_atKey hat
     clear hs2
     gi_wp2
     refine hR.mono ?_
     rintro e W3 ⟨rfl, hJ3, hk3⟩
     gi_wp2
     have hrg3 := hrg2.of_walks hk3
     go_roundw
     case rel => exact ⟨_, cnt2, ss ++ [x], hrg3, by simp; omega, hC.step hlk hh, hJ3⟩
     case measure => rw [hrg3.left_eq, hrg.left_eq]; exact hlt
end Go.Proofs.YtfmghbennahlfaaGreat
namespace Go.Proofs.YtfmghbennahlfaaGreat
open Go.RowKit Go.ChangeShapes Go.WideShapes Go.ChangeAt Go.Maps Go.Shelf
attribute [local go_sem] Oper.semAt_some
set_option linter.unusedVariables false
set_option linter.unusedSimpArgs false
set_option maxRecDepth 100000
theorem info_fidJ : ∃ i : TypeInfo, Tryz.prog.info? 35 = some i ∧ i.zero = some (.int .u32 0) ∧ i.size = 1 ∧ i.bytes = 4 := by
 have h : (Tryz.prog.info? 35).map (fun i => (i.zero, i.size, i.bytes)) = some (some (.int .u32 0), 1, 4) := by kernel_rfl
 cases hi : Tryz.prog.info? 35 with
 | none => rw [hi] at h; cases h
 | some i =>
   rw [hi] at h
   simp at h
   exact ⟨i, rfl, h.1, h.2.1, h.2.2⟩
theorem own_sliceF {w : World} {base : Nat} {e size n : Nat} {v : Value} {xs : List Value} (h : w.ownsRow base e size v n xs) : ∃ a m c, v = .slice a m c := by
 rcases h.2 with ⟨rfl, _⟩ | ⟨g, cap, cur, rfl, _⟩
 · exact ⟨_, _, _, rfl⟩
 · exact ⟨_, _, _, rfl⟩
structure ApF (B Bs l D : Nat) (w0 : World) (Lr : Obj) (ss : List Int) (W : World) : Prop where
 box : ∃ v, W.heap[Bs]? = some (.cells #[v] 149 (0, 0)) ∧ W.ownsRow B 35 1 v ss.length (ss.map encF)
 L : W.heap[l]? = some Lr
 K : W.heap[D]? = some (.deferred (some []))
 below : Below B w0 W
 size : l < W.heap.size
theorem ApF.abides {B Bs l D : Nat} {w0 : World} {Lr : Obj} (hLr : Lr.isWalk = false) (B' : Nat) (hB : B ≤ B') (h0 : B ≤ w0.heap.size) : AbidesFrom B' (ApF B Bs l D w0 Lr) := fun s W W' row h hg hrow => by
 have hrow' : ∀ r, row = some r → ∃ o : Obj, W.heap[r]? = some o ∧ o.isWalk = true := fun r e => (hrow r e).2
 obtain ⟨v, hv, hr⟩ := h.box
 exact ⟨⟨v, (grownBy_keeps hg hrow' hv rfl).trans hv, ownsRow_abides_a hr hg hrow'⟩, (grownBy_keeps hg hrow' h.L hLr).trans h.L, (grownBy_keeps hg hrow' h.K rfl).trans h.K,
   h.below.grown hg (Nat.le_trans h0 h.below.size) (fun k e => Nat.le_trans hB (hrow k e).1), Nat.lt_of_lt_of_le h.size hg.size⟩
def ColPost (S : List Int → Prop) (w : World) (e : Ending) (w' : World) : Prop :=
 ∃ (v : Value) (ss : List Int), e = .returned v ∧ S ss ∧ w'.ownsRow w.heap.size 35 1 v ss.length (ss.map encF) ∧ Below w.heap.size w w'
set_option maxHeartbeats 2000000 in
theorem appendF_in (g : Nat) (lb : Array Value) (eg : ∀ args w, (callFunc g args).run Tryz.prog w = .ok (.enter g args) w) (S : List Int → Prop) (N : Nat) (hN : N ≤ 1000000) (w : World) (hseq : SeqGives Fence.wide 2 Tryz.prog g lb encF S N w) :
   CallsIn Fence.wide 3 Tryz.prog 299 #[.slice none 0 0, .func (.func g) #[] lb] w (ColPost S w) := by
 refine callsIn_of_wp_marks Tryz.func299 rfl trivial ?_ rfl
 simp only [Tryz.ntmps299, List.size_toArray, List.length_cons, List.length_nil, Nat.reduceAdd, Nat.reduceSub, Array.replicate_succ, Array.replicate_zero, List.push_toArray, List.append_toArray, List.nil_append, List.cons_append]
 gi_wp2
 have hx0 : (w.alloc (.cells #[.slice none 0 0] 149)).heap[w.heap.size]? = some (.cells #[.slice none 0 0] 149 (0, 0)) := heap_alloc_new w _
 have hA0 : Below w.heap.size w (w.alloc (.cells #[.slice none 0 0] 149)) := (Below.refl _ _).alloc (Nat.le_refl _) _
 have hsz : (w.alloc (.cells #[.slice none 0 0] 149)).heap.size = w.heap.size + 1 := by simp
 generalize (w.alloc (.cells #[.slice none 0 0] 149)) = W at *
 refine Rg.range_go (gf := g) (lb := lb) rfl eg (fun W' => ∃ ss v, S ss ∧ W'.heap[w.heap.size]? = some (.cells #[v] 149 (0, 0)) ∧ W'.ownsRow w.heap.size 35 1 v ss.length (ss.map encF) ∧ Below w.heap.size w W' ∧ ∃ lr : Loop, W'.heap[w.heap.size + 2]? = some (.loop lr)) ?_ ?_
 · intro fn
   generalize hR : Rg.recOf fn _ _ _ _ _ = R
   have h4 : W.heap.size + 1 = w.heap.size + 2 := by omega
   have hD1 : ((W.alloc (.deferred (some []))).alloc (.loop (R .ready))).heap[w.heap.size + 1]? = some (.deferred (some [])) := by
     rw [Below.heap_alloc _ _ _ (by simp; omega), ← hsz]; exact heap_alloc_new W _
   have hL1 : ((W.alloc (.deferred (some []))).alloc (.loop (R .ready))).heap[w.heap.size + 2]? = some (.loop (R .ready)) := by
     have := heap_alloc_new (W.alloc (.deferred (some []))) (.loop (R .ready)); rw [World.size_alloc, h4] at this; exact this
   have hB1 : Below W.heap.size W ((W.alloc (.deferred (some []))).alloc (.loop (R .ready))) := ((Below.refl _ _).alloc (Nat.le_refl _) _).alloc (by simp) _
   have hz1 : w.heap.size + 2 < ((W.alloc (.deferred (some []))).alloc (.loop (R .ready))).heap.size := by simp; omega
   generalize ((W.alloc (.deferred (some []))).alloc (.loop (R .ready))) = W1 at *
   rw [hsz, show w.heap.size + 1 + 1 = w.heap.size + 2 from rfl]
   have hbW1 : Below w.heap.size w W1 := hA0.trans (hB1.mono hA0.size)
   refine (hseq (w.heap.size + 2) (ApF w.heap.size w.heap.size (w.heap.size + 2) (w.heap.size + 1) w (.loop (R .ready))) W1 hbW1 (ApF.abides rfl _ hbW1.size (Nat.le_refl _)) ?_
     ⟨⟨_, by rw [hB1.block _ (by omega)]; exact hx0, ⟨rfl, .inl ⟨rfl, rfl⟩⟩⟩, hL1, hD1, hbW1, hz1⟩).mono ?_
   · intro pre x V hJ hlen
     rw [hsz] at hR
     subst hR
     refine Rg.round_go hJ.L (by rfl) ?_
     rw [show encF x = .int .u32 x from rfl]
     gi_wp2
     have hLV := hJ.L
     have hVz := hJ.size
     obtain ⟨v, hv, hrow⟩ := hJ.box
     have hKV := hJ.K
     have hbV := hJ.below
     clear hJ
     generalize hRr : Obj.loop (Rg.recOf fn _ _ _ _ (w.heap.size + 1) LoopState.ready) = Rr at *
     have kRr : Rr.isWalk = false := by rw [← hRr]; rfl
     generalize hRb : Obj.loop (Rg.recOf fn _ _ _ _ (w.heap.size + 1) LoopState.busy) = Rb at *
     have kRb : Rb.isWalk = false := by rw [← hRb]; rfl
     have nRb : ∀ cur T m, Rb ≠ .cells cur T m := by rw [← hRb]; intro cur T m e; cases e
     have nRr : ∀ cur T m, Rr ≠ .cells cur T m := by rw [← hRr]; intro cur T m e; cases e
     clear hRr hRb
     refine ⟨hLV, ?_⟩
     have hg2 : V.grownBy (V.putObj (w.heap.size + 2) Rb) (some (w.heap.size + 2)) := grownBy_putObj_a _ _ _
     have hk2 : KeepsWalks V (V.putObj (w.heap.size + 2) Rb) := KeepsWalks.putObj _ hLV kRr
     have hv2 : (V.putObj (w.heap.size + 2) Rb).heap[w.heap.size]? = some (.cells #[v] 149 (0, 0)) := (World.putObj_heap_other (by omega)).trans hv
     have hK2 : (V.putObj (w.heap.size + 2) Rb).heap[w.heap.size + 1]? = some (.deferred (some [])) := (World.putObj_heap_other (by omega)).trans hKV
     have hL2 : (V.putObj (w.heap.size + 2) Rb).heap[w.heap.size + 2]? = some Rb := World.putObj_heap_same hVz
     have hrow2 : (V.putObj (w.heap.size + 2) Rb).ownsRow w.heap.size 35 1 v pre.length (pre.map encF) := hrow.kept hg2 (ownsRow_ne_a hrow hLV (fun cur e => nRr _ _ _ e))
     have hb2 : Below w.heap.size w (V.putObj (w.heap.size + 2) Rb) := hbV.grown hg2 hbV.size (fun k e => by cases e; omega)
     generalize V.putObj (w.heap.size + 2) Rb = V2 at *
     obtain ⟨hc2, hf2⟩ := cell_of_box_a hv2
     have hl2 := lt_blkC hL2
     obtain ⟨i0, hi, hz0, hz1', hz2⟩ := info_fidJ
     have ne_of : ∀ {j : Nat} {o : Obj}, V2.heap[j]? = some o → (∀ cur, o ≠ .cells cur 35 (0, 0)) → some j ≠ v.ownBlock := fun hj hno => by
       rcases ownsRow_ne_a hrow2 hj hno with e | e
       · rw [e]; simp
       · exact fun e' => e e'.symm
     gi_wp2_with (first
       | (gi_at_builtin; refine wpListIn_append_own _ rfl _ _ 149 rfl w.heap.size 35 i0 (.int .u32 0) 1 4 Tryz.underlying149 hi hz0 hz1' hz2 rfl (by decide) _ _ _ rfl (hrow2.alloc _) ⟨V2.heap.size, 0, none⟩ 1 1 [.int .u32 x] rfl rfl (cell_one_new _ _ _) (by simp [Value.oneCell']) (by unfold maxLen; omega) (by omega) (by have := hb2.size; simp; omega) ?_
          intro v' w3 hown' hg3 hnil3
          have hv3 : w3.heap[w.heap.size]? = some (.cells #[v] 149 (0, 0)) := (hg3.block _ (by simp; omega) (ne_of hv2 (fun cur e => by have := (Obj.cells.inj e).2.1; revert this; decide))).trans ((Below.heap_alloc _ _ _ (by omega)).trans hv2)
          obtain ⟨hc3, hf3⟩ := cell_of_box_a hv3
          obtain ⟨a5, n5, c5, rfl⟩ := own_sliceF hown'
          go_frame)
       | gi_round_op_a)
     have hL3 : w3.heap[w.heap.size + 2]? = some Rb := (hg3.block _ (by simp; omega) (ne_of hL2 (fun cur e => nRb _ _ _ e))).trans ((Below.heap_alloc _ _ _ (by omega)).trans hL2)
     have hK3 : w3.heap[w.heap.size + 1]? = some (.deferred (some [])) := (hg3.block _ (by simp; omega) (ne_of hK2 (fun cur e => by cases e))).trans ((Below.heap_alloc _ _ _ (by omega)).trans hK2)
     have hg4 : w3.grownBy (w3.setCell ⟨w.heap.size, 0, none⟩ (.slice a5 n5 c5)) (some w.heap.size) := grownBy_setCell0_a _ _ _
     have hv4 := heap_setCell_box_a (.slice a5 n5 c5) hv3
     have hk34 : KeepsWalks w3 (w3.setCell ⟨w.heap.size, 0, none⟩ (.slice a5 n5 c5)) := KeepsWalks.setCell _ _ _
     generalize w3.setCell ⟨w.heap.size, 0, none⟩ (.slice a5 n5 c5) = w4 at *
     have hL4 : w4.heap[w.heap.size + 2]? = some Rb := (hg4.block _ (lt_blkC hL3) (fun e => by simp at e)).trans hL3
     have hK4 : w4.heap[w.heap.size + 1]? = some (.deferred (some [])) := (hg4.block _ (lt_blkC hK3) (fun e => by simp at e)).trans hK3
     have hrow4 := hown'.kept hg4 (ownsRow_ne_a hown' hv3 (fun cur e => by have := (Obj.cells.inj e).2.1; revert this; decide))
     have hb3 : Below w.heap.size w w3 := (hb2.alloc hb2.size _).grown hg3 (by have := hb2.size; simp; omega) (fun k e => (hrow2.lt k e).1)
     have hb4 : Below w.heap.size w w4 := hb3.grown hg4 hb3.size (fun k e => by cases e; exact Nat.le_refl _)
     have hk4 : KeepsWalks V w4 := ((hk2.trans (KeepsWalks.alloc _ _)).trans (KeepsWalks.of_grownBy hg3 (ownsRow_not_walk_a (hrow2.alloc _)))).trans hk34
     have hrow5 := hrow4.kept (grownBy_putObj_a w4 (w.heap.size + 2) Rr) (ownsRow_ne_a hrow4 hL4 (fun cur e => nRb _ _ _ e))
     refine ⟨hL4, ⟨⟨_, (World.putObj_heap_other (by omega)).trans hv4, ?_⟩, World.putObj_heap_same (lt_blkC hL4), (World.putObj_heap_other (by omega)).trans hK4, hb4.grown (grownBy_putObj_a _ _ _) hb4.size (fun k e => by cases e; omega), by simp; exact lt_blkC hL4⟩, hk4.trans (KeepsWalks.putObj _ hL4 kRb)⟩
     simpa [encF] using hrow5
   · rintro e V ⟨he, ss, hS, hA⟩
     obtain ⟨v, hv, hown⟩ := hA.box
     exact ⟨he, hA.L, hA.K, ss, v, hS, hv, hown, hA.below, _, hA.L⟩
 · rintro W' o ⟨ss, v, hS, hv, hown, hbel, lr, hlr⟩ hD hl
   rw [hsz] at hD hl ⊢
   have hD2 : (W'.putObj (w.heap.size + 1 + 1) o).heap[w.heap.size + 1]? = some (.deferred (some [])) := (World.putObj_heap_other (by omega)).trans hD
   have hv2 : (W'.putObj (w.heap.size + 1 + 1) o).heap[w.heap.size]? = some (.cells #[v] 149 (0, 0)) := (World.putObj_heap_other (by omega)).trans hv
   have hown2 : (W'.putObj (w.heap.size + 1 + 1) o).ownsRow w.heap.size 35 1 v ss.length (ss.map encF) := hown.kept (grownBy_putObj_a W' (w.heap.size + 1 + 1) o) (ownsRow_ne_a hown hlr (fun cur e => by cases e))
   have hb2 : Below w.heap.size w (W'.putObj (w.heap.size + 1 + 1) o) := hbel.grown (grownBy_putObj_a _ _ _) hbel.size (fun k e => by cases e; omega)
   generalize (W'.putObj (w.heap.size + 1 + 1) o) = W2 at *
   obtain ⟨hc2, hf2⟩ := cell_of_box_a hv2
   gi_wp2_with fail
   have hO3 : (W2.putObj (w.heap.size + 1) (.deferred none)).ownsRow w.heap.size 35 1 v ss.length (ss.map encF) := hown2.kept (grownBy_putObj_a W2 (w.heap.size + 1) _) (ownsRow_ne_a hown2 hD2 (fun cur e => by cases e))
   have hB3 : Below w.heap.size w (W2.putObj (w.heap.size + 1) (.deferred none)) := hb2.grown (grownBy_putObj_a _ _ _) hb2.size (fun k e => by cases e; omega)
   refine ⟨by simp, .inl ⟨_, _, rfl, run_takeDeferred (w := W2) hD2, ?_⟩⟩
   exact ⟨v, by simp [results, Tryz.results299, go_sem], v, ss, rfl, hS, hO3, hB3⟩
set_option maxHeartbeats 1000000 in
theorem collectF_in (g : Nat) (lb : Array Value) (eg : ∀ args w, (callFunc g args).run Tryz.prog w = .ok (.enter g args) w) (S : List Int → Prop) (N : Nat) (hN : N ≤ 1000000) (w : World) (hseq : SeqGives Fence.wide 2 Tryz.prog g lb encF S N w) :
   Calls Tryz.prog 240 #[.func (.func g) #[] lb] w (ColPost S w) := by
 go_enter Tryz.func240, Tryz.ntmps240
 go_wp2_with fail
 refine (callsIn_wide.1 (appendF_in g lb eg S N hN w hseq)).mono ?_
 rintro _ w' ⟨v, ss, rfl, h1, h2, h3⟩
 obtain ⟨a5, n5, c5, rfl⟩ := own_sliceF h2
 go_wp2_with fail
 go_ret
 exact ⟨_, ss, rfl, h1, h2, h3⟩
def SortPost (S : List Int → Prop) (w : World) (e : Ending) (w' : World) : Prop :=
 ∃ (a : Option Addr) (n cap : Nat) (f : Nat → Int), e = .returned (.slice a n cap) ∧ n ≤ cap ∧ (0 < n → ∃ g, a = some ⟨g, 0, none⟩ ∧ w.heap.size ≤ g ∧ FidsAt w' g n f) ∧ Below w.heap.size w w' ∧ UpF n f ∧ (∀ i j, i < n → j < n → f i = f j → i = j) ∧ ∃ ss, S ss ∧ ss.length = n ∧ ∀ x, x ∈ ss ↔ ∃ k, k < n ∧ f k = x
theorem getD_atJ {ss : List Int} {k : Nat} (h : k < ss.length) : ss.getD k 0 = ss[k] := by simp [List.getD, List.getElem?_eq_getElem h]
theorem own_fids {w : World} {base : Nat} {a : Option Addr} {n cap : Nat} {m : Nat} {ss : List Int} (h : w.ownsRow base 35 1 (.slice a n cap) m (ss.map encF)) (hm : m = ss.length) : n = m ∧ n ≤ cap ∧ (0 < n → ∃ g, a = some ⟨g, 0, none⟩ ∧ base ≤ g ∧ FidsAt w g n (fun k => ss.getD k 0)) := by
 rcases h.2 with ⟨e, e0⟩ | ⟨g, cap', cur, e, hb, hg, h1, h2, h3, h4⟩
 · cases e
   exact ⟨by omega, Nat.le_refl _, fun h => by omega⟩
 · cases e
   refine ⟨rfl, h1, fun _ => ⟨g, rfl, hb, cur, hg, by omega, fun j hj => ?_⟩⟩
   have hx : (cur.toList.take (n * 1))[j]? = (ss.map encF)[j]? := by rw [h4]
   rw [List.getElem?_take_of_lt (by omega), List.getElem?_map] at hx
   rw [← Array.getElem?_toList, hx, List.getElem?_eq_getElem (by omega)]
   simp [encF, List.getD, List.getElem?_eq_getElem (show j < ss.length by omega)]
set_option maxHeartbeats 1000000 in
theorem sortedF_in (g : Nat) (lb : Array Value) (eg : ∀ args w, (callFunc g args).run Tryz.prog w = .ok (.enter g args) w) (S : List Int → Prop) (N : Nat) (hN : N ≤ 1000000) (w : World) (hseq : SeqGives Fence.wide 2 Tryz.prog g lb encF S N w) (hnd : ∀ ss, S ss → ss.Nodup ∧ ss.length ≤ 12) :
   Calls Tryz.prog 177 #[.func (.func g) #[] lb] w (SortPost S w) := by
 go_enter Tryz.func177, Tryz.ntmps177
 go_wp2_with fail
 refine (collectF_in g lb eg S N hN w hseq).mono ?_
 rintro _ w1 ⟨v, ss, rfl, h1, h2, h3⟩
 obtain ⟨a, n, cap, rfl⟩ := own_sliceF h2
 obtain ⟨e1, hcap, hat⟩ := own_fids h2 rfl
 obtain ⟨hd, hl⟩ := hnd ss h1
 have E1 := hid e1
 clear e1 h2
 rcases Nat.eq_zero_or_pos n with h0 | h0
 · subst h0
   go_wp2_with fail
   refine (sortF_nil _ _ _).mono ?_
   rintro _ _ ⟨rfl, rfl⟩
   go_wp2_with fail
   go_ret
   refine ⟨_, _, _, fun _ => 0, rfl, hcap, fun h => by omega, h3, fun i j a b => by omega, fun i j a => by omega, ss, h1, E1.out.symm, fun x => ?_⟩
   have : ss = [] := List.eq_nil_of_length_eq_zero E1.out.symm
   subst this
   simp
 · obtain ⟨gg, rfl, hgg, hF⟩ := hat h0
   have hinj : ∀ i j, i < n → j < n → ss.getD i 0 = ss.getD j 0 → i = j := fun i j hi hj e => by
     have e1 := E1.out
     rw [getD_atJ (by omega), getD_atJ (by omega)] at e
     exact (List.getElem_inj hd).1 e
   have hn12 : n ≤ 12 := by have := E1.out; omega
   have HI := hid hinj
   have HF := hid hF
   clear hinj hF hat
   go_wp2_with fail
   refine (sortF_c gg n cap _ w1 HF.out HI.out hn12 hcap).mono ?_
   rintro _ w2 ⟨rfl, f, hf, hs, hu, ho⟩
   go_wp2_with fail
   go_ret
   refine ⟨_, _, _, f, rfl, hcap, fun _ => ⟨gg, rfl, hgg, hf⟩, h3.trans (ho.below h3.size (fun k e => by subst e; exact hgg)), hu, hs.2, ss, h1, E1.out.symm, fun x => ?_⟩
   have e1 := E1.out
   rw [← hs.1 x]
   constructor
   · intro hx
     obtain ⟨k, hk, e⟩ := List.getElem_of_mem hx
     exact ⟨k, by omega, by show ss.getD k 0 = x; rw [getD_atJ hk]; exact e⟩
   · rintro ⟨k, hk, rfl⟩
     show ss.getD k 0 ∈ ss
     rw [getD_atJ (by omega)]
     exact List.getElem_mem _
end Go.Proofs.YtfmghbennahlfaaGreat
namespace Go.Proofs.YtfmghbennahlfaaGreat
open Go.RowKit Go.ChangeShapes Go.WideShapes Go.ChangeAt Go.Maps
set_option linter.unusedVariables false
set_option linter.unusedSimpArgs false
set_option maxRecDepth 100000
set_option maxHeartbeats 1000000 in
theorem mark_c {w : World} {g b1 b2 : Nat} {c : Ca} (h : IsCa w g b1 b2 c) (hm : c.m < 1000) {i : Int} (h0 : 0 ≤ i) (h1 : i < 4294967296) (dd : Bool) :
   Calls Tryz.prog 99 #[pA g, .int .u32 i, .bool dd] w fun e w' => e = .returned (.int .i64 (if c.has i then 0 else 5)) ∧ IsCa w' g b1 b2 (if c.has i then c.markS i dd else c) ∧ Ou (Tri g b1 b2) w w' := by
 have FC := hid (cfault_c h h0 h1)
 have H := hid h
 clear h
 cases hh : c.has i with
 | false =>
   rw [hh] at FC
   go_enter Tryz.func99, Tryz.ntmps99
   go_wp2_with (go_at_call 164; refine FC.out.mono ?_; rintro _ w1 ⟨rfl, hb⟩)
   go_ret
   exact ⟨rfl, H.out.later hb, Ou.of hb⟩
 | true =>
   rw [hh] at FC
   go_enter Tryz.func99, Tryz.ntmps99
   go_wp2_with (go_at_call 164; refine FC.out.mono ?_; rintro _ w1 ⟨rfl, hb⟩; have H1 := hid (H.out.later hb); have B1 := hid hb; clear hb)
   have H2 := H1.out.drew
   obtain ⟨c0, c1, c2, c3, cf, l0, l1, l2, n1, n2, n3⟩ := H2.cells
   have LK := H2.2.1.look ht1 zeroOb h0 h1
   rw [obE_at] at LK
   obtain ⟨w3, SR, IM, MT⟩ := H2.2.1.store hm ht1 h0 h1 (c.usedAt i, dd)
   rw [show obE.enc (c.usedAt i, dd) = .agg #[.int .u64 (c.usedAt i), .bool dd] from rfl] at SR
   have R3 : Hid (IsCa w3 g b1 b2 (c.markS i dd)) := hid (H2.turn1 IM MT)
   have O3 := hid ((Ou.of (S := Tri g b1 b2) B1.out).drew.trans (Ou.turned MT (.inr (.inl rfl))))
   have FU := fieldU (c.usedAt i) (c.dirtyB i) w1.drew
   clear IM MT H2 cf
   generalize c.usedAt i = ua at *
   generalize c.dirtyB i = d0 at *
   go_region
   go_wp2
   go_ret
   exact ⟨rfl, R3.out, O3.out⟩
def Ca.hoardE (c : Ca) (i n : Int) : Int := if i = 0 ∨ n < 0 ∨ 100 < n then 2 else if n = 0 then 0 else if c.dearN i = 0 ∧ 8 ≤ c.k then 4 else 0
def Ca.hoardS (c : Ca) (i n : Int) : Ca := if c.hoardE i n = 0 then (if n = 0 then c.coldS i else c.dearS i n) else c
set_option maxHeartbeats 2000000 in
theorem hoard_c {w : World} {g b1 b2 : Nat} {c : Ca} (h : IsCa w g b1 b2 c) (hm : c.k < 1000) {i n : Int} (h0 : 0 ≤ i) (h1 : i < 4294967296) :
   Calls Tryz.prog 38 #[pA g, .int .u32 i, .int .i64 n] w fun e w' => e = .returned (.int .i64 (c.hoardE i n)) ∧ IsCa w' g b1 b2 (c.hoardS i n) ∧ Ou (Tri g b1 b2) w w' := by
 have H := hid h
 have DC := hid (dear_c h h0 h1)
 have LN : ∀ ty, (Builtin.len_ #[156] ty #[.map (some b2)]).run Tryz.prog w = .ok (.int .i64 (c.k : Int)) w := fun ty => h.2.2.1.len ht2 ty
 obtain ⟨c0, c1, c2, c3, cf, l0, l1, l2, n1, n2, n3⟩ := h.cells
 by_cases e0 : i = 0
 · have b0 : (i == 0) = true := by rw [e0]; rfl
   have E : Hid (c.hoardE i n = 2) := hid (by unfold Ca.hoardE; rw [if_pos (.inl e0)])
   clear h LN
   go_enter Tryz.func38, Tryz.ntmps38
   go_wp2
   go_ret
   exact ⟨ret_int E.out.symm, by unfold Ca.hoardS; rw [E.out]; exact H.out, Ou.refl _ _⟩
 have b0 : (i == 0) = false := by rw [beq_eq_false_iff_ne]; exact e0
 by_cases e1 : n < 0
 · have d1 : decide (n < 0) = true := decide_eq_true e1
   have E : Hid (c.hoardE i n = 2) := hid (by unfold Ca.hoardE; rw [if_pos (.inr (.inl e1))])
   clear h LN
   go_enter Tryz.func38, Tryz.ntmps38
   go_wp2
   go_ret
   exact ⟨ret_int E.out.symm, by unfold Ca.hoardS; rw [E.out]; exact H.out, Ou.refl _ _⟩
 have d1 : decide (n < 0) = false := decide_eq_false e1
 by_cases e2 : 100 < n
 · have d2 : decide (100 < n) = true := decide_eq_true e2
   have E : Hid (c.hoardE i n = 2) := hid (by unfold Ca.hoardE; rw [if_pos (.inr (.inr e2))])
   clear h LN
   go_enter Tryz.func38, Tryz.ntmps38
   go_wp2
   go_ret
   exact ⟨ret_int E.out.symm, by unfold Ca.hoardS; rw [E.out]; exact H.out, Ou.refl _ _⟩
 have d2 : decide (100 < n) = false := decide_eq_false e2
 have hno : ¬ (i = 0 ∨ n < 0 ∨ 100 < n) := by rintro (q | q | q) <;> contradiction
 by_cases e3 : n = 0
 · have b3 : (n == 0) = true := by rw [e3]; rfl
   have E : Hid (c.hoardE i n = 0) := hid (by unfold Ca.hoardE; rw [if_neg hno, if_pos e3])
   have E3 := hid e3
   obtain ⟨w3, DR, IM, MT⟩ := h.2.2.1.drop ht2 h0 h1 0
   have R3 : Hid (IsCa w3 g b1 b2 (c.coldS i)) := hid (h.turn2 IM MT)
   have O3 := hid (Ou.turned (S := Tri g b1 b2) MT (.inr (.inr rfl)))
   clear h LN IM MT e3
   go_enter Tryz.func38, Tryz.ntmps38
   go_wp2
   go_ret
   exact ⟨ret_int E.out.symm, by unfold Ca.hoardS; rw [E.out, if_pos rfl, if_pos E3.out]; exact R3.out, O3.out⟩
 have b3 : (n == 0) = false := by rw [beq_eq_false_iff_ne]; exact e3
 by_cases e4 : c.dearN i = 0 ∧ 8 ≤ c.k
 · have E : Hid (c.hoardE i n = 4) := hid (by unfold Ca.hoardE; rw [if_neg hno, if_neg e3, if_pos e4])
   have b4 : (c.dearN i == 0) = true := by rw [e4.1]; rfl
   have d5 : (8 : Int) ≤ (c.k : Int) := by omega
   have d5' : decide ((8 : Int) ≤ (c.k : Int)) = true := decide_eq_true d5
   have LK := LN
   generalize c.dearN i = dn at *
   clear h e4
   go_enter Tryz.func38, Tryz.ntmps38
   go_wp2_with (go_at_call 83; refine DC.out.mono ?_; rintro _ w1 ⟨rfl, h2⟩; rw [h2])
   go_ret
   exact ⟨ret_int E.out.symm, by unfold Ca.hoardS; rw [E.out]; exact H.out, Ou.refl _ _⟩
 · have E : Hid (c.hoardE i n = 0) := hid (by unfold Ca.hoardE; rw [if_neg hno, if_neg e3, if_neg e4])
   have E3 := hid e3
   obtain ⟨w3, SR, IM, MT⟩ := h.2.2.1.store hm ht2 h0 h1 n
   rw [show numE.enc n = .int .i64 n from rfl] at SR
   have R3 : Hid (IsCa w3 g b1 b2 (c.dearS i n)) := hid (h.turn2 IM MT)
   have O3 := hid (Ou.turned (S := Tri g b1 b2) MT (.inr (.inr rfl)))
   by_cases e5 : c.dearN i = 0
   · have b4 : (c.dearN i == 0) = true := by rw [e5]; rfl
     have d5 : ¬ (8 : Int) ≤ (c.k : Int) := by omega
     have d5' : decide ((8 : Int) ≤ (c.k : Int)) = false := decide_eq_false d5
     generalize c.dearN i = dn at *
     clear h e4 IM MT e3 e5
     go_enter Tryz.func38, Tryz.ntmps38
     go_wp2_with (go_at_call 83; refine DC.out.mono ?_; rintro _ w1 ⟨rfl, h2⟩; rw [h2])
     go_ret
     exact ⟨ret_int E.out.symm, by unfold Ca.hoardS; rw [E.out, if_pos rfl, if_neg E3.out]; exact R3.out, O3.out⟩
   · have b4 : (c.dearN i == 0) = false := by rw [beq_eq_false_iff_ne]; exact e5
     generalize c.dearN i = dn at *
     clear h e4 IM MT e3 e5
     go_enter Tryz.func38, Tryz.ntmps38
     go_wp2_with (go_at_call 83; refine DC.out.mono ?_; rintro _ w1 ⟨rfl, h2⟩; rw [h2])
     go_ret
     exact ⟨ret_int E.out.symm, by unfold Ca.hoardS; rw [E.out, if_pos rfl, if_neg E3.out]; exact R3.out, O3.out⟩
def Ca.first (c : Ca) (i j : Int) : Bool := if c.dearN i = c.dearN j then decide (c.usedAt i < c.usedAt j) else decide (c.dearN i < c.dearN j)
set_option maxHeartbeats 2000000 in
theorem goesFirst_c {w : World} {g b1 b2 : Nat} {c : Ca} (h : IsCa w g b1 b2 c) {i j : Int} (h0 : 0 ≤ i) (h1 : i < 4294967296) (j0 : 0 ≤ j) (j1 : j < 4294967296) :
   Calls Tryz.prog 274 #[pA g, .int .u32 i, .int .u32 j] w fun e w' => e = .returned (.bool (c.first i j)) ∧ Below w.heap.size w w' := by
 have a1 := IsFm.look (w := w.drew) h.2.2.1 ht2 zeroNu h0 h1
 have a2 := IsFm.look (w := w.drew) h.2.2.1 ht2 zeroNu j0 j1
 have e1 := IsFm.look (w := w.drew.drew) h.2.2.1 ht2 zeroNu h0 h1
 have e2 := IsFm.look (w := w.drew.drew) h.2.2.1 ht2 zeroNu j0 j1
 have e3 := IsFm.look (w := w.drew.drew) h.2.1 ht1 zeroOb h0 h1
 have e4 := IsFm.look (w := w.drew.drew) h.2.1 ht1 zeroOb j0 j1
 rw [numE_at] at a1 a2 e1 e2
 rw [obE_at] at e3 e4
 obtain ⟨c0, c1, c2, c3, cf, _⟩ := h.cells
 have RV : Hid (c.first i j = if c.dearN i = c.dearN j then decide (c.usedAt i < c.usedAt j) else decide (c.dearN i < c.dearN j)) := hid rfl
 have B : Hid (Below w.heap.size w w.drew.drew) := hid ⟨rfl, rfl, rfl, Nat.le_refl _, fun _ _ => rfl⟩
 generalize c.first i j = fb at *
 generalize c.dearN i = di at *
 generalize c.dearN j = dj at *
 generalize c.usedAt i = ui at *
 generalize c.usedAt j = uj at *
 generalize c.dirtyB i = yi at *
 generalize c.dirtyB j = yj at *
 have F1 := fieldU ui yi w.drew.drew
 have F2 := fieldU uj yj w.drew.drew
 clear h cf
 by_cases hd : di = dj
 · have hb : (di != dj) = false := by rw [hd]; simp
   have HD := hid hd
   clear hd e1 e2
   go_enter Tryz.func274, Tryz.ntmps274
   go_wp2_with fail
   go_region
   go_wp2_with fail
   go_region
   go_wp2
   go_ret
   exact ⟨ret_bool (by rw [RV.out, if_pos HD.out]), B.out⟩
 · have hb : (di != dj) = true := by rw [bne_iff_ne]; exact hd
   have HD := hid hd
   clear hd e3 e4
   go_enter Tryz.func274, Tryz.ntmps274
   go_wp2_with fail
   go_region
   go_wp2_with fail
   go_region
   go_wp2
   go_ret
   exact ⟨ret_bool (by rw [RV.out, if_neg HD.out]), B.out⟩
end Go.Proofs.YtfmghbennahlfaaGreat
namespace Go.Proofs.YtfmghbennahlfaaGreat
open Go.RowKit Go.ChangeShapes Go.WideShapes Go.ChangeAt Go.Maps Go.Shelf
attribute [local go_sem] Oper.semAt_some
set_option linter.unusedVariables false
set_option linter.unusedSimpArgs false
set_option maxRecDepth 100000
def RiseF {α : Type} (f : Int → Option α) (ss : List Int) : Prop := ss.Pairwise (fun a b => a < b) ∧ ∀ x, x ∈ ss ↔ (f x).isSome = true
theorem rise_of {α : Type} {f : Int → Option α} {n : Nat} {v : Nat → Int} (h : UpF n v) (hi : ∀ i j, i < n → j < n → v i = v j → i = j) (hm : ∀ x, (∃ k, k < n ∧ v k = x) ↔ (f x).isSome = true) : RiseF f ((List.range n).map v) := by
 refine ⟨?_, fun x => ?_⟩
 · rw [List.pairwise_map]
   refine List.Pairwise.imp_of_mem ?_ List.pairwise_lt_range
   intro a b ha hb hab
   rw [List.mem_range] at ha hb
   have h1 := h a b hab hb
   have h2 := hi a b ha hb
   omega
 · rw [← hm x, List.mem_map]
   constructor
   · rintro ⟨k, hk, e⟩; exact ⟨k, List.mem_range.1 hk, e⟩
   · rintro ⟨k, hk, e⟩; exact ⟨k, List.mem_range.2 hk, e⟩
set_option maxHeartbeats 400000 in
theorem keysOb_c (b : Nat) (w : World) : Calls Tryz.prog 218 #[.map (some b)] w fun e w' => e = .returned (.func (.func 282) #[] #[.pointer (some ⟨w.heap.size, 0, none⟩)]) ∧ w' = w.alloc (.cells #[.map (some b)] 155) := by
 go_enter Tryz.func218, Tryz.ntmps218
 go_wp2
 go_ret
 exact ⟨rfl, rfl⟩
theorem inOrder_c (g : Nat) (w : World) : Calls Tryz.prog 163 #[pA g] w fun e w' => e = .returned (.func (.func 217) #[] #[.pointer (some ⟨w.heap.size, 0, none⟩)]) ∧ w' = w.alloc (.cells #[pA g] 70) := by
 go_enter Tryz.func163, Tryz.ntmps163
 go_wp2
 go_ret
 exact ⟨rfl, rfl⟩
abbrev Rnd (S : Nat → Prop) (A0 : World) (k : Nat) : Prop := S k ∨ A0.heap.size ≤ k
set_option maxHeartbeats 2000000 in
theorem inOrder1_in (W : World) (Bc g b1 b2 : Nat) (c : Ca) (hB : W.heap[Bc]? = some (.cells #[pA g] 70 (0, 0))) (h : IsCa W g b1 b2 c) (hm : c.m ≤ 12) (l : Nat) (S : Nat → Prop) (hS : ∀ k, S k → k < W.heap.size ∧ k ≠ Bc ∧ k ≠ g ∧ k ≠ b1 ∧ k ≠ b2) (R : List Int → World → Prop)
   (hY : ∀ A0, Below W.heap.size W A0 → ∃ J : List Int → World → Prop, J [] A0 ∧
     (∀ pre x A, J pre A → Ou (Rnd S A0) A0 A → IsCa A g b1 b2 c → (c.f x).isSome = true → pre.length < 12 → YieldAt Fence.wide 1 Tryz.prog l #[.int .u32 x, .agg #[.int .u64 (c.usedAt x), .bool (c.dirtyB x)]] A fun e B => e = .returned (.bool true) ∧ J (pre ++ [x]) B ∧ Ou (Rnd S A0) A B) ∧
     (∀ ss A, RiseF c.f ss → J ss A → Ou (Rnd S A0) A0 A → R ss A)) :
   CallsIn Fence.wide 2 Tryz.prog 217 #[.func (.yield l) #[] #[], .pointer (some ⟨Bc, 0, none⟩)] W fun e W' => (∃ v, e = .returned v) ∧ ∃ ss, RiseF c.f ss ∧ R ss W' := by
 obtain ⟨cB, fB⟩ := cell_of_box_a hB
 obtain ⟨c0, c1, c2, c3, cf, hg, hb1, hb2, n1, n2, n3⟩ := h.cells
 have HY := hid hY
 have H := hid h
 have HS := hid hS
 clear hY h hS cf c0 c1 c3
 refine callsIn_of_wp Tryz.func217 rfl trivial ?_ rfl
 simp only [Tryz.ntmps217, List.size_toArray, List.length_cons, List.length_nil, Nat.reduceAdd, Nat.reduceSub, Array.replicate_succ, Array.replicate_zero, List.push_toArray, List.append_toArray, List.nil_append, List.cons_append]
 gi_wp2_with fail
 refine ⟨trivial, (callsIn_wide.2 (keysOb_c b1 W)).mono ?_⟩
 rintro _ w1 ⟨rfl, e1⟩
 have hb01 : Below W.heap.size W w1 := by rw [e1]; exact (Below.refl _ _).alloc (Nat.le_refl _) _
 have hx1 : w1.heap[W.heap.size]? = some (.cells #[.map (some b1)] 155 (0, 0)) := by rw [e1]; exact heap_alloc_new W _
 have hs1 : W.heap.size < w1.heap.size := lt_blkC hx1
 clear e1
 gi_wp2_with fail
 refine ⟨trivial, (callsIn_wide.2 (sortedF_in 282 _ (enters_of Tryz.func282 (by kernel_rfl) rfl) _ c.m (by omega) w1 (keysOb_gives 2 (by omega) W.heap.size b1 c.m c.f w1 hs1 (cell_of_box_a hx1).1 (H.out.later hb01).2.1) (fun ss hss => ⟨hss.1.1, by have := hss.2; omega⟩))).mono ?_⟩
 rintro _ A0 ⟨a, n, cap, f, rfl, hcap, hat, hb12, hup, hinj, ss, hss, hlen, hmem⟩
 have hn12 : n ≤ 12 := by have := hss.2; omega
 have hbA : Below W.heap.size W A0 := hb01.trans (hb12.mono (by omega))
 have hrise : Hid (RiseF c.f ((List.range n).map f)) := hid (rise_of hup hinj (fun x => (hmem x).symm.trans (hss.1.2 x)))
 have hsome : Hid (∀ k, k < n → (c.f (f k)).isSome = true) := hid (fun k hk => (hss.1.2 _).1 ((hmem _).2 ⟨k, hk, rfl⟩))
 obtain ⟨J, hJ0, hJY, hJR⟩ := HY.out A0 hbA
 have HA0 := hid (H.out.later hbA)
 have hBA : A0.heap[Bc]? = some (.cells #[pA g] 70 (0, 0)) := by rw [hbA.block _ (lt_blkC hB)]; exact hB
 have hSg : Hid (¬ Rnd S A0 Bc ∧ ¬ Rnd S A0 g ∧ ¬ Rnd S A0 b1 ∧ ¬ Rnd S A0 b2) := hid (by
   have hz := hbA.size
   have hBl := lt_blkC hB
   refine ⟨fun e => ?_, fun e => ?_, fun e => ?_, fun e => ?_⟩ <;> rcases e with e | e
   · exact (HS.out _ e).2.1 rfl
   · omega
   · exact (HS.out _ e).2.2.1 rfl
   · omega
   · exact (HS.out _ e).2.2.2.1 rfl
   · omega
   · exact (HS.out _ e).2.2.2.2 rfl
   · omega)
 have hSr : Hid (∀ gg, w1.heap.size ≤ gg → gg < A0.heap.size → ¬ Rnd S A0 gg) := hid (fun gg h1 h2 e => by
   rcases e with e | e
   · have := (HS.out _ e).1; have := hb01.size; omega
   · omega)
 have HJY := hid hJY
 have HJR := hid hJR
 have HAT := hid hat
 clear hJY hJR hat hup hinj hss hlen hmem cB fB c2
 gi_wp2_with fail
 gi_loopw [12] (fun s wr => ∃ i : Nat, s = .int .i64 i ∧ i ≤ n ∧ J ((List.range i).map f) wr ∧ Ou (Rnd S A0) A0 wr) (fun s _ => n - (intOf s).toNat)
 case atStart => exact ⟨0, rfl, by omega, by simpa using hJ0, Ou.refl _ _⟩
 case round =>
   obtain ⟨i, rfl, hi, hJi, ho⟩ := hrel
   by_cases hin : i < n
   · obtain ⟨gg, ea, hgg, hF⟩ := HAT.out (by omega)
     subst ea
     have hFr := hF.out ho (hSr.out gg hgg hF.lt)
     obtain ⟨r1, r2⟩ := hFr.cell hin
     have hCr := HA0.out.out ho hSg.out.2.1 hSg.out.2.2.1 hSg.out.2.2.2
     have hBr : wr.heap[Bc]? = some (.cells #[pA g] 70 (0, 0)) := by rw [ho.block _ (lt_blkC hBA) hSg.out.1]; exact hBA
     obtain ⟨q1, q2⟩ := cell_of_box_a hBr
     have hso := hsome.out i hin
     obtain ⟨ob, eob⟩ := Option.isSome_iff_exists.1 hso
     obtain ⟨k0, k1⟩ := hCr.2.1.keys eob
     have LK := hCr.2.1.look ht1 zeroOb k0 k1
     rw [obE_at] at LK
     obtain ⟨d0, d1, d2, d3, df, _⟩ := hCr.cells
     obtain ⟨fn, tmps, assign, body, hy, hR⟩ := HJY.out _ (f i) wr hJi ho hCr hso (by simp; omega)
     have HR := hid hR
     have i1 : (i : Int) < n := by omega
     have i2 : (0 : Int) ≤ i := by omega
     clear hR df d0 d1 d3 eob
     gi_wp2_with fail
     refine HR.out.mono ?_
     rintro _ W3 ⟨rfl, hJ3, ho3⟩
     gi_wp2_with fail
     go_roundw
     case rel => exact ⟨i + 1, by norm_cast, by omega, by rw [List.range_succ, List.map_append]; exact hJ3, ho.trans ho3⟩
     case measure => simp [intOf]; omega
   · have hi' : i = n := by omega
     subst hi'
     have hc := HJR.out _ wr hrise.out hJi ho
     have i1 : ¬ ((i : Int) < i) := by omega
     gi_wp2_with fail
     exact body_endF (by kernel_rfl) rfl ⟨⟨_, rfl⟩, _, hrise.out, hc⟩
end Go.Proofs.YtfmghbennahlfaaGreat
