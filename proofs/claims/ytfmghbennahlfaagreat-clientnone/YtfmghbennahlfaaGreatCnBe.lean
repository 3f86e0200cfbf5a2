/-
  
-/
import Derived.Test.YtfmghbennahlfaaGreatCnAd
import Derived.RangeFuncSeq
import Derived.RangeFuncGives
import Derived.Sort.MapsRangeIn
import Derived.Shelf.AbstractIn
import Derived.Shelf.Abstract
import Derived.Shelf.RegionOpen
import Derived.OwnWalkIn
import Derived.TacticsInMore
import Derived.RegionIn
import Derived.LoopNIn
import Derived.LoopIn
import Derived.Maps.AppendAt
import Derived.Test.YtfmghbennahlfaaGreatCnAg
import Derived.Shelf.SlIter.Collect
namespace Go.Proofs.YtfmghbennahlfaaGreat
open Go.RowKit Go.ChangeShapes Go.WideShapes Go.ChangeAt Go.Maps Go.Shelf
set_option linter.unusedVariables false
set_option linter.unusedSimpArgs false
set_option maxRecDepth 100000
def encF (x : Int) : Value := .int .u32 x
theorem keyF_inv {key : Value} {kl : Lit} (h : keyOf Tryz.prog 35 key = some kl) : ∃ x, key = encF x ∧ kl = kyF x := by
 obtain ⟨i, e1, e2, _⟩ := Maps.keyOf_int_inv Tryz.underlying35 h
 exact ⟨i, e1, e2⟩
section
variable {α : Type}
def Col (D : DataW α) (left : Lit → Bool) (ss : List Int) : Prop :=
 ss.Nodup ∧ (∀ i, i ∈ ss → Maps.has D (kyF i) = true ∧ left (kyF i) = false) ∧ ∀ i, Maps.has D (kyF i) = true → left (kyF i) = false → i ∈ ss
theorem Col.start (D : DataW α) : Col D (Maps.has D) [] := ⟨List.nodup_nil, fun i h => by simp at h, fun i h1 h2 => by rw [h1] at h2; cases h2⟩
theorem Col.step {D : DataW α} {left : Lit → Bool} {ss : List Int} (h : Col D left ss) {x : Int} (hl : left (kyF x) = true) (hh : Maps.has D (kyF x) = true) : Col D (fun z => left z && !z.sameKey (kyF x)) (ss ++ [x]) := by
 obtain ⟨h1, h2, h3⟩ := h
 have hx : x ∉ ss := fun e => by have := (h2 x e).2; rw [hl] at this; cases this
 refine ⟨?_, fun i hi => ?_, fun i a b => ?_⟩
 · rw [List.nodup_append]
   exact ⟨h1, by simp, fun a ha b hb => by simp at hb; subst hb; exact fun e => hx (e ▸ ha)⟩
 · rw [List.mem_append] at hi
   rcases hi with hi | hi
   · exact ⟨(h2 i hi).1, by simp [(h2 i hi).2]⟩
   · simp at hi
     subst hi
     exact ⟨hh, by simp [same_kyF]⟩
 · rw [List.mem_append]
   cases hli : left (kyF i) with
   | false => exact .inl (h3 i a hli)
   | true =>
     simp [hli, same_kyF] at b
     subst b
     exact .inr (by simp)
theorem Col.all {D : DataW α} {left : Lit → Bool} {ss : List Int} (h : Col D left ss) (hl : ∀ kl, left kl = false) : ss.Nodup ∧ ∀ i, i ∈ ss ↔ Maps.has D (kyF i) = true :=
 ⟨h.1, fun i => ⟨fun hi => (h.2.1 i hi).1, fun hi => h.2.2 i hi (hl _)⟩⟩
end
def AllF {α : Type} (f : Int → Option α) (ss : List Int) : Prop := ss.Nodup ∧ ∀ i, i ∈ ss ↔ (f i).isSome = true
set_option maxHeartbeats 1000000 in
theorem keysOb_gives (n : Nat) (hn : 1 ≤ n) (Bm b m : Nat) (f : Int → Option Ob) (w : World) (hBm : Bm < w.heap.size) (hm : w.cell? ⟨Bm, 0, none⟩ = some (.map (some b))) (hf : IsFm obE w b m f) :
   SeqGives Fence.wide n Tryz.prog 282 #[.pointer (some ⟨Bm, 0, none⟩)] encF (fun ss => AllF f ss ∧ ss.length ≤ m) m w := by
 intro l J W hW hJ hY h0
 have hfW : IsFm obE W b m f := hf.out (S := fun _ => False) (Ou.of hW) id
 have hmW : W.cell? ⟨Bm, 0, none⟩ = some (.map (some b)) := (hW.cell (p := ⟨Bm, 0, none⟩) hBm).trans hm
 obtain ⟨D, hown, hs, hfD⟩ := hfW
 have HF : Hid (∀ ss, (ss.Nodup ∧ ∀ i, i ∈ ss ↔ Maps.has D (kyF i) = true) → AllF f ss) := hid (fun ss h => ⟨h.1, fun i => by rw [h.2, Maps.has_eq_look_of (E := obE) hown i, hfD i]⟩)
 have HS := hid hs
 clear hf hm hfD hW hBm hs
 refine callsIn_of_wp Tryz.func282 rfl trivial ?_ rfl
 simp only [Tryz.ntmps282, List.size_toArray, List.length_cons, List.length_nil, Nat.reduceAdd, Nat.reduceSub, Array.replicate_succ, Array.replicate_zero, List.push_toArray, List.append_toArray, List.nil_append, List.cons_append]
 gi_wp2_with (first
   | (gi_at_range; refine wpListIn_range_own _ rfl _ 155 rfl 35 178 lawF Tryz.underlying155 _ b m _ rfl hown ?_; intro w0 hrg0 hg0 hs0)
   | gi_in)
 go_frame
 gi_loopw [3] (fun _ wr => ∃ (left : Lit → Bool) (cnt : Nat) (ss : List Int), wr.ranges Tryz.prog 35 obE.rd b W.heap.size m D left cnt ∧ ss.length + cnt ≤ m ∧ Col D left ss ∧ J ss wr) (fun _ wr => wr.rangeLeft b W.heap.size)
 case atStart => exact ⟨_, _, [], hrg0, by simp [HS.out], Col.start D, hJ [] W w0 none h0 hg0 (fun r e => by cases e)⟩
 case round =>
   obtain ⟨left, cnt, ss, hrg, hcs, hC, hJs⟩ := hrel
   gi_wp2_with (first
     | (gi_at_next; refine wpListIn_next_ranges _ rfl _ rfl 35 lawF obE.rd encF id (fun key kl hk => by obtain ⟨x, hx, _⟩ := keyF_inv hk; exact ⟨x, hx⟩) (fun v _ _ => ⟨v, rfl⟩) b W.heap.size m _ _ _ rfl hrg ?_ ?_)
     | gi_in)
   · intro hc0 hl0
     gi_wp2
     exact body_endF (by kernel_rfl) rfl ⟨⟨_, rfl⟩, ss, ⟨HF.out ss (hC.all hl0), by omega⟩, hJs⟩
   · intro x c kl yd yp w2 cnt2 hkey hlk hv hat hrg2 hlt hg2 hs2 hen
     obtain ⟨x', ex, rfl⟩ := keyF_inv hkey
     obtain rfl : x = x' := by unfold encF at ex; cases ex; rfl
     have hJ2 : J ss w2 := hJ ss wr w2 (some W.heap.size) hJs hg2 (fun r e => by cases e; exact ⟨Nat.le_refl _, hrg.iter_walk⟩)
     obtain ⟨fn, tmps, assign, body, hy, hR⟩ := hY ss x w2 hJ2 (by omega)
     have hh : Maps.has D (kyF x) = true := Maps.has_true_of_atKey hat
     clear hs2
     gi_wp2
     refine hR.mono ?_
     rintro e W3 ⟨rfl, hJ3, hk3⟩
     gi_wp2
     have hrg3 := hrg2.of_walks hk3
     go_roundw
     case rel => exact ⟨_, cnt2, ss ++ [x], hrg3, by simp; omega, hC.step hlk hh, hJ3⟩
     case measure => rw [hrg3.left_eq, hrg.left_eq]; exact hlt
end Go.Proofs.YtfmghbennahlfaaGreat
namespace Go.Proofs.YtfmghbennahlfaaGreat
open Go.RowKit Go.ChangeShapes Go.WideShapes Go.ChangeAt Go.Maps Go.Shelf
attribute [local go_sem] Oper.semAt_some
set_option linter.unusedVariables false
set_option linter.unusedSimpArgs false
set_option maxRecDepth 100000
theorem info_fidJ : ∃ i : TypeInfo, Tryz.prog.info? 35 = some i ∧ i.zero = some (.int .u32 0) ∧ i.size = 1 ∧ i.bytes = 4 := by
 have h : (Tryz.prog.info? 35).map (fun i => (i.zero, i.size, i.bytes)) = some (some (.int .u32 0), 1, 4) := by kernel_rfl
 cases hi : Tryz.prog.info? 35 with
 | none => rw [hi] at h; cases h
 | some i =>
   rw [hi] at h
   simp at h
   exact ⟨i, rfl, h.1, h.2.1, h.2.2⟩
theorem own_sliceF {w : World} {base : Nat} {e size n : Nat} {v : Value} {xs : List Value} (h : w.ownsRow base e size v n xs) : ∃ a m c, v = .slice a m c := by
 rcases h.2 with ⟨rfl, _⟩ | ⟨g, cap, cur, rfl, _⟩
 · exact ⟨_, _, _, rfl⟩
 · exact ⟨_, _, _, rfl⟩
structure ApF (B Bs l D : Nat) (w0 : World) (Lr : Obj) (ss : List Int) (W : World) : Prop where
 box : ∃ v, W.heap[Bs]? = some (.cells #[v] 149 (0, 0)) ∧ W.ownsRow B 35 1 v ss.length (ss.map encF)
 L : W.heap[l]? = some Lr
 K : W.heap[D]? = some (.deferred (some []))
 below : Below B w0 W
 size : l < W.heap.size
theorem ApF.abides {B Bs l D : Nat} {w0 : World} {Lr : Obj} (hLr : Lr.isWalk = false) (B' : Nat) (hB : B ≤ B') (h0 : B ≤ w0.heap.size) : AbidesFrom B' (ApF B Bs l D w0 Lr) := fun s W W' row h hg hrow => by
 have hrow' : ∀ r, row = some r → ∃ o : Obj, W.heap[r]? = some o ∧ o.isWalk = true := fun r e => (hrow r e).2
 obtain ⟨v, hv, hr⟩ := h.box
 exact ⟨⟨v, (grownBy_keeps hg hrow' hv rfl).trans hv, ownsRow_abides_a hr hg hrow'⟩, (grownBy_keeps hg hrow' h.L hLr).trans h.L, (grownBy_keeps hg hrow' h.K rfl).trans h.K,
   h.below.grown hg (Nat.le_trans h0 h.below.size) (fun k e => Nat.le_trans hB (hrow k e).1), Nat.lt_of_lt_of_le h.size hg.size⟩
def ColPost (S : List Int → Prop) (w : World) (e : Ending) (w' : World) : Prop :=
 ∃ (v : Value) (ss : List Int), e = .returned v ∧ S ss ∧ w'.ownsRow w.heap.size 35 1 v ss.length (ss.map encF) ∧ Below w.heap.size w w'
set_option maxHeartbeats 2000000 in
theorem appendF_in (g : Nat) (lb : Array Value) (eg : ∀ args w, (callFunc g args).run Tryz.prog w = .ok (.enter g args) w) (S : List Int → Prop) (N : Nat) (hN : N ≤ 1000000) (w : World) (hseq : SeqGives Fence.wide 2 Tryz.prog g lb encF S N w) :
   CallsIn Fence.wide 3 Tryz.prog 299 #[.slice none 0 0, .func (.func g) #[] lb] w (ColPost S w) := by
 refine callsIn_of_wp_marks Tryz.func299 rfl trivial ?_ rfl
 simp only [Tryz.ntmps299, List.size_toArray, List.length_cons, List.length_nil, Nat.reduceAdd, Nat.reduceSub, Array.replicate_succ, Array.replicate_zero, List.push_toArray, List.append_toArray, List.nil_append, List.cons_append]
 gi_wp2
 have hx0 : (w.alloc (.cells #[.slice none 0 0] 149)).heap[w.heap.size]? = some (.cells #[.slice none 0 0] 149 (0, 0)) := heap_alloc_new w _
 have hA0 : Below w.heap.size w (w.alloc (.cells #[.slice none 0 0] 149)) := (Below.refl _ _).alloc (Nat.le_refl _) _
 have hsz : (w.alloc (.cells #[.slice none 0 0] 149)).heap.size = w.heap.size + 1 := by simp
 generalize (w.alloc (.cells #[.slice none 0 0] 149)) = W at *
 refine Rg.range_go (gf := g) (lb := lb) rfl eg (fun W' => ∃ ss v, S ss ∧ W'.heap[w.heap.size]? = some (.cells #[v] 149 (0, 0)) ∧ W'.ownsRow w.heap.size 35 1 v ss.length (ss.map encF) ∧ Below w.heap.size w W' ∧ ∃ lr : Loop, W'.heap[w.heap.size + 2]? = some (.loop lr)) ?_ ?_
 · intro fn
   generalize hR : Rg.recOf fn _ _ _ _ _ = R
   have h4 : W.heap.size + 1 = w.heap.size + 2 := by omega
   have hD1 : ((W.alloc (.deferred (some []))).alloc (.loop (R .ready))).heap[w.heap.size + 1]? = some (.deferred (some [])) := by
     rw [Below.heap_alloc _ _ _ (by simp; omega), ← hsz]; exact heap_alloc_new W _
   have hL1 : ((W.alloc (.deferred (some []))).alloc (.loop (R .ready))).heap[w.heap.size + 2]? = some (.loop (R .ready)) := by
     have := heap_alloc_new (W.alloc (.deferred (some []))) (.loop (R .ready)); rw [World.size_alloc, h4] at this; exact this
   have hB1 : Below W.heap.size W ((W.alloc (.deferred (some []))).alloc (.loop (R .ready))) := ((Below.refl _ _).alloc (Nat.le_refl _) _).alloc (by simp) _
   have hz1 : w.heap.size + 2 < ((W.alloc (.deferred (some []))).alloc (.loop (R .ready))).heap.size := by simp; omega
   generalize ((W.alloc (.deferred (some []))).alloc (.loop (R .ready))) = W1 at *
   rw [hsz, show w.heap.size + 1 + 1 = w.heap.size + 2 from rfl]
   have hbW1 : Below w.heap.size w W1 := hA0.trans (hB1.mono hA0.size)
   refine (hseq (w.heap.size + 2) (ApF w.heap.size w.heap.size (w.heap.size + 2) (w.heap.size + 1) w (.loop (R .ready))) W1 hbW1 (ApF.abides rfl _ hbW1.size (Nat.le_refl _)) ?_
     ⟨⟨_, by rw [hB1.block _ (by omega)]; exact hx0, ⟨rfl, .inl ⟨rfl, rfl⟩⟩⟩, hL1, hD1, hbW1, hz1⟩).mono ?_
   · intro pre x V hJ hlen
     rw [hsz] at hR
     subst hR
     refine Rg.round_go hJ.L (by rfl) ?_
     rw [show encF x = .int .u32 x from rfl]
     gi_wp2
     have hLV := hJ.L
     have hVz := hJ.size
     obtain ⟨v, hv, hrow⟩ := hJ.box
     have hKV := hJ.K
     have hbV := hJ.below
     clear hJ
     generalize hRr : Obj.loop (Rg.recOf fn _ _ _ _ (w.heap.size + 1) LoopState.ready) = Rr at *
     have kRr : Rr.isWalk = false := by rw [← hRr]; rfl
     generalize hRb : Obj.loop (Rg.recOf fn _ _ _ _ (w.heap.size + 1) LoopState.busy) = Rb at *
     have kRb : Rb.isWalk = false := by rw [← hRb]; rfl
     have nRb : ∀ cur T m, Rb ≠ .cells cur T m := by rw [← hRb]; intro cur T m e; cases e
     have nRr : ∀ cur T m, Rr ≠ .cells cur T m := by rw [← hRr]; intro cur T m e; cases e
     clear hRr hRb
     refine ⟨hLV, ?_⟩
     have hg2 : V.grownBy (V.putObj (w.heap.size + 2) Rb) (some (w.heap.size + 2)) := grownBy_putObj_a _ _ _
     have hk2 : KeepsWalks V (V.putObj (w.heap.size + 2) Rb) := KeepsWalks.putObj _ hLV kRr
     have hv2 : (V.putObj (w.heap.size + 2) Rb).heap[w.heap.size]? = some (.cells #[v] 149 (0, 0)) := (World.putObj_heap_other (by omega)).trans hv
     have hK2 : (V.putObj (w.heap.size + 2) Rb).heap[w.heap.size + 1]? = some (.deferred (some [])) := (World.putObj_heap_other (by omega)).trans hKV
     have hL2 : (V.putObj (w.heap.size + 2) Rb).heap[w.heap.size + 2]? = some Rb := World.putObj_heap_same hVz
     have hrow2 : (V.putObj (w.heap.size + 2) Rb).ownsRow w.heap.size 35 1 v pre.length (pre.map encF) := hrow.kept hg2 (ownsRow_ne_a hrow hLV (fun cur e => nRr _ _ _ e))
     have hb2 : Below w.heap.size w (V.putObj (w.heap.size + 2) Rb) := hbV.grown hg2 hbV.size (fun k e => by cases e; omega)
     generalize V.putObj (w.heap.size + 2) Rb = V2 at *
     obtain ⟨hc2, hf2⟩ := cell_of_box_a hv2
     have hl2 := lt_blkC hL2
     obtain ⟨i0, hi, hz0, hz1', hz2⟩ := info_fidJ
     have ne_of : ∀ {j : Nat} {o : Obj}, V2.heap[j]? = some o → (∀ cur, o ≠ .cells cur 35 (0, 0)) → some j ≠ v.ownBlock := fun hj hno => by
       rcases ownsRow_ne_a hrow2 hj hno with e | e
       · rw [e]; simp
       · exact fun e' => e e'.symm
     gi_wp2_with (first
       | (gi_at_builtin; refine wpListIn_append_own _ rfl _ _ 149 rfl w.heap.size 35 i0 (.int .u32 0) 1 4 Tryz.underlying149 hi hz0 hz1' hz2 rfl (by decide) _ _ _ rfl (hrow2.alloc _) ⟨V2.heap.size, 0, none⟩ 1 1 [.int .u32 x] rfl rfl (cell_one_new _ _ _) (by simp [Value.oneCell']) (by unfold maxLen; omega) (by omega) (by have := hb2.size; simp; omega) ?_
          intro v' w3 hown' hg3 hnil3
          have hv3 : w3.heap[w.heap.size]? = some (.cells #[v] 149 (0, 0)) := (hg3.block _ (by simp; omega) (ne_of hv2 (fun cur e => by have := (Obj.cells.inj e).2.1; revert this; decide))).trans ((Below.heap_alloc _ _ _ (by omega)).trans hv2)
          obtain ⟨hc3, hf3⟩ := cell_of_box_a hv3
          obtain ⟨a5, n5, c5, rfl⟩ := own_sliceF hown'
          go_frame)
       | gi_round_op_a)
     have hL3 : w3.heap[w.heap.size + 2]? = some Rb := (hg3.block _ (by simp; omega) (ne_of hL2 (fun cur e => nRb _ _ _ e))).trans ((Below.heap_alloc _ _ _ (by omega)).trans hL2)
     have hK3 : w3.heap[w.heap.size + 1]? = some (.deferred (some [])) := (hg3.block _ (by simp; omega) (ne_of hK2 (fun cur e => by cases e))).trans ((Below.heap_alloc _ _ _ (by omega)).trans hK2)
     have hg4 : w3.grownBy (w3.setCell ⟨w.heap.size, 0, none⟩ (.slice a5 n5 c5)) (some w.heap.size) := grownBy_setCell0_a _ _ _
     have hv4 := heap_setCell_box_a (.slice a5 n5 c5) hv3
     have hk34 : KeepsWalks w3 (w3.setCell ⟨w.heap.size, 0, none⟩ (.slice a5 n5 c5)) := KeepsWalks.setCell _ _ _
     generalize w3.setCell ⟨w.heap.size, 0, none⟩ (.slice a5 n5 c5) = w4 at *
     have hL4 : w4.heap[w.heap.size + 2]? = some Rb := (hg4.block _ (lt_blkC hL3) (fun e => by simp at e)).trans hL3
     have hK4 : w4.heap[w.heap.size + 1]? = some (.deferred (some [])) := (hg4.block _ (lt_blkC hK3) (fun e => by simp at e)).trans hK3
     have hrow4 := hown'.kept hg4 (ownsRow_ne_a hown' hv3 (fun cur e => by have := (Obj.cells.inj e).2.1; revert this; decide))
     have hb3 : Below w.heap.size w w3 := (hb2.alloc hb2.size _).grown hg3 (by have := hb2.size; simp; omega) (fun k e => (hrow2.lt k e).1)
     have hb4 : Below w.heap.size w w4 := hb3.grown hg4 hb3.size (fun k e => by cases e; exact Nat.le_refl _)
     have hk4 : KeepsWalks V w4 := ((hk2.trans (KeepsWalks.alloc _ _)).trans (KeepsWalks.of_grownBy hg3 (ownsRow_not_walk_a (hrow2.alloc _)))).trans hk34
     have hrow5 := hrow4.kept (grownBy_putObj_a w4 (w.heap.size + 2) Rr) (ownsRow_ne_a hrow4 hL4 (fun cur e => nRb _ _ _ e))
     refine ⟨hL4, ⟨⟨_, (World.putObj_heap_other (by omega)).trans hv4, ?_⟩, World.putObj_heap_same (lt_blkC hL4), (World.putObj_heap_other (by omega)).trans hK4, hb4.grown (grownBy_putObj_a _ _ _) hb4.size (fun k e => by cases e; omega), by simp; exact lt_blkC hL4⟩, hk4.trans (KeepsWalks.putObj _ hL4 kRb)⟩
     simpa [encF] using hrow5
   · rintro e V ⟨he, ss, hS, hA⟩
     obtain ⟨v, hv, hown⟩ := hA.box
     exact ⟨he, hA.L, hA.K, ss, v, hS, hv, hown, hA.below, _, hA.L⟩
 · rintro W' o ⟨ss, v, hS, hv, hown, hbel, lr, hlr⟩ hD hl
   rw [hsz] at hD hl ⊢
   have hD2 : (W'.putObj (w.heap.size + 1 + 1) o).heap[w.heap.size + 1]? = some (.deferred (some [])) := (World.putObj_heap_other (by omega)).trans hD
   have hv2 : (W'.putObj (w.heap.size + 1 + 1) o).heap[w.heap.size]? = some (.cells #[v] 149 (0, 0)) := (World.putObj_heap_other (by omega)).trans hv
   have hown2 : (W'.putObj (w.heap.size + 1 + 1) o).ownsRow w.heap.size 35 1 v ss.length (ss.map encF) := hown.kept (grownBy_putObj_a W' (w.heap.size + 1 + 1) o) (ownsRow_ne_a hown hlr (fun cur e => by cases e))
   have hb2 : Below w.heap.size w (W'.putObj (w.heap.size + 1 + 1) o) := hbel.grown (grownBy_putObj_a _ _ _) hbel.size (fun k e => by cases e; omega)
   generalize (W'.putObj (w.heap.size + 1 + 1) o) = W2 at *
   obtain ⟨hc2, hf2⟩ := cell_of_box_a hv2
   gi_wp2_with fail
   have hO3 : (W2.putObj (w.heap.size + 1) (.deferred none)).ownsRow w.heap.size 35 1 v ss.length (ss.map encF) := hown2.kept (grownBy_putObj_a W2 (w.heap.size + 1) _) (ownsRow_ne_a hown2 hD2 (fun cur e => by cases e))
   have hB3 : Below w.heap.size w (W2.putObj (w.heap.size + 1) (.deferred none)) := hb2.grown (grownBy_putObj_a _ _ _) hb2.size (fun k e => by cases e; omega)
   refine ⟨by simp, .inl ⟨_, _, rfl, run_takeDeferred (w := W2) hD2, ?_⟩⟩
   exact ⟨v, by simp [results, Tryz.results299, go_sem], v, ss, rfl, hS, hO3, hB3⟩
set_option maxHeartbeats 1000000 in
theorem collectF_in (g : Nat) (lb : Array Value) (eg : ∀ args w, (callFunc g args).run Tryz.prog w = .ok (.enter g args) w) (S : List Int → Prop) (N : Nat) (hN : N ≤ 1000000) (w : World) (hseq : SeqGives Fence.wide 2 Tryz.prog g lb encF S N w) :
   Calls Tryz.prog 240 #[.func (.func g) #[] lb] w (ColPost S w) := by
 go_enter Tryz.func240, Tryz.ntmps240
 go_wp2_with fail
 refine (callsIn_wide.1 (appendF_in g lb eg S N hN w hseq)).mono ?_
 rintro _ w' ⟨v, ss, rfl, h1, h2, h3⟩
 obtain ⟨a5, n5, c5, rfl⟩ := own_sliceF h2
 go_wp2_with fail
 go_ret
 exact ⟨_, ss, rfl, h1, h2, h3⟩
def SortPost (S : List Int → Prop) (w : World) (e : Ending) (w' : World) : Prop :=
 ∃ (a : Option Addr) (n cap : Nat) (f : Nat → Int), e = .returned (.slice a n cap) ∧ n ≤ cap ∧ (0 < n → ∃ g, a = some ⟨g, 0, none⟩ ∧ w.heap.size ≤ g ∧ FidsAt w' g n f) ∧ Below w.heap.size w w' ∧ UpF n f ∧ (∀ i j, i < n → j < n → f i = f j → i = j) ∧ ∃ ss, S ss ∧ ss.length = n ∧ ∀ x, x ∈ ss ↔ ∃ k, k < n ∧ f k = x
theorem getD_atJ {ss : List Int} {k : Nat} (h : k < ss.length) : ss.getD k 0 = ss[k] := by simp [List.getD, List.getElem?_eq_getElem h]
theorem own_fids {w : World} {base : Nat} {a : Option Addr} {n cap : Nat} {m : Nat} {ss : List Int} (h : w.ownsRow base 35 1 (.slice a n cap) m (ss.map encF)) (hm : m = ss.length) : n = m ∧ n ≤ cap ∧ (0 < n → ∃ g, a = some ⟨g, 0, none⟩ ∧ base ≤ g ∧ FidsAt w g n (fun k => ss.getD k 0)) := by
 rcases h.2 with ⟨e, e0⟩ | ⟨g, cap', cur, e, hb, hg, h1, h2, h3, h4⟩
 · cases e
   exact ⟨by omega, Nat.le_refl _, fun h => by omega⟩
 · cases e
   refine ⟨rfl, h1, fun _ => ⟨g, rfl, hb, cur, hg, by omega, fun j hj => ?_⟩⟩
   have hx : (cur.toList.take (n * 1))[j]? = (ss.map encF)[j]? := by rw [h4]
   rw [List.getElem?_take_of_lt (by omega), List.getElem?_map] at hx
   rw [← Array.getElem?_toList, hx, List.getElem?_eq_getElem (by omega)]
   simp [encF, List.getD, List.getElem?_eq_getElem (show j < ss.length by omega)]
set_option maxHeartbeats 1000000 in
theorem sortedF_in (g : Nat) (lb : Array Value) (eg : ∀ args w, (callFunc g args).run Tryz.prog w = .ok (.enter g args) w) (S : List Int → Prop) (N : Nat) (hN : N ≤ 1000000) (w : World) (hseq : SeqGives Fence.wide 2 Tryz.prog g lb encF S N w) (hnd : ∀ ss, S ss → ss.Nodup ∧ ss.length ≤ 12) :
   Calls Tryz.prog 177 #[.func (.func g) #[] lb] w (SortPost S w) := by
 go_enter Tryz.func177, Tryz.ntmps177
 go_wp2_with fail
 refine (collectF_in g lb eg S N hN w hseq).mono ?_
 rintro _ w1 ⟨v, ss, rfl, h1, h2, h3⟩
 obtain ⟨a, n, cap, rfl⟩ := own_sliceF h2
 obtain ⟨e1, hcap, hat⟩ := own_fids h2 rfl
 obtain ⟨hd, hl⟩ := hnd ss h1
 have E1 := hid e1
 clear e1 h2
 rcases Nat.eq_zero_or_pos n with h0 | h0
 · subst h0
   go_wp2_with fail
   refine (sortF_nil _ _ _).mono ?_
   rintro _ _ ⟨rfl, rfl⟩
   go_wp2_with fail
   go_ret
   refine ⟨_, _, _, fun _ => 0, rfl, hcap, fun h => by omega, h3, fun i j a b => by omega, fun i j a => by omega, ss, h1, E1.out.symm, fun x => ?_⟩
   have : ss = [] := List.eq_nil_of_length_eq_zero E1.out.symm
   subst this
   simp
 · obtain ⟨gg, rfl, hgg, hF⟩ := hat h0
   have hinj : ∀ i j, i < n → j < n → ss.getD i 0 = ss.getD j 0 → i = j := fun i j hi hj e => by
     have e1 := E1.out
     rw [getD_atJ (by omega), getD_atJ (by omega)] at e
     exact (List.getElem_inj hd).1 e
   have hn12 : n ≤ 12 := by have := E1.out; omega
   have HI := hid hinj
   have HF := hid hF
   clear hinj hF hat
   go_wp2_with fail
   refine (sortF_c gg n cap _ w1 HF.out HI.out hn12 hcap).mono ?_
   rintro _ w2 ⟨rfl, f, hf, hs, hu, ho⟩
   go_wp2_with fail
   go_ret
   refine ⟨_, _, _, f, rfl, hcap, fun _ => ⟨gg, rfl, hgg, hf⟩, h3.trans (ho.below h3.size (fun k e => by subst e; exact hgg)), hu, hs.2, ss, h1, E1.out.symm, fun x => ?_⟩
   have e1 := E1.out
   rw [← hs.1 x]
   constructor
   · intro hx
     obtain ⟨k, hk, e⟩ := List.getElem_of_mem hx
     exact ⟨k, by omega, by show ss.getD k 0 = x; rw [getD_atJ hk]; exact e⟩
   · rintro ⟨k, hk, rfl⟩
     show ss.getD k 0 ∈ ss
     rw [getD_atJ (by omega)]
     exact List.getElem_mem _
end Go.Proofs.YtfmghbennahlfaaGreat
