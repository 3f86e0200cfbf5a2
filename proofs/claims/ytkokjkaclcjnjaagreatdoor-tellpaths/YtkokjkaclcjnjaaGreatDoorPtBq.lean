/-
  The package tell: the paths of all entries, gathered (slices.Collect over entries).
-/
import Derived.Test.YtkokjkaclcjnjaaGreatDoorPtBp
import Derived.Shelf.SlIter.Collect
namespace Go.Proofs.YtkokjkaclcjnjaaGreatDoor
open Go.RowKit Go.ChangeShapes Go.WideShapes Go.ChangeAt Go.Maps Go.Shelf
attribute [local go_sem] Oper.semAt_some
set_option linter.unusedVariables false
set_option linter.unusedSimpArgs false
set_option maxRecDepth 100000
theorem ownB_size (p : ByteArray) (x : Kd) : (ownB p x).size = p.size + 1 + x.nm.size := by
 unfold ownB
 rw [ByteArray.size_append, ByteArray.size_append]
 rfl
theorem ent_all {L : List Nd} {a : Option Addr} {cap : Nat} {w0 : World} (h0 : Tr w0 a L) (hm : L.length ≤ 1000) (hnm : ∀ f, ∀ x ∈ kidsF L f, x.nm.size ≤ 1000) (hkl : ∀ f, (kidsF L f).length ≤ 1000) :
   ∀ (k : Nat) (f : Int) (p : ByteArray), LowF L k f → p.size + k * 1001 ≤ 100000 → EntC L a cap w0 f p (belF L k f p)
 | 0, f, p, hl, hp => by
   have h := ent_walk h0 hm f p (kidsF L f) rfl (hnm f) (hkl f) (by omega) (fun _ => []) (cap := cap) (fun x hx => by rw [show kidsF L f = [] from hl] at hx; cases hx)
   rw [show kidsF L f = [] from hl] at h
   exact h
 | k + 1, f, p, hl, hp => ent_walk h0 hm f p (kidsF L f) rfl (hnm f) (hkl f) (by omega) (fun x => belF L k x.fid (ownB p x)) (fun x hx => ent_all h0 hm hnm hkl k x.fid (ownB p x) (hl x hx) (by have h1 := ownB_size p x; have h2 := hnm f x hx; omega))
theorem own_sliceS {w : World} {base : Nat} {e size n : Nat} {v : Value} {xs : List Value} (h : w.ownsRow base e size v n xs) : ∃ a m c, v = .slice a m c := by
 rcases h.2 with ⟨rfl, _⟩ | ⟨g, cap, cur, rfl, _⟩
 · exact ⟨_, _, _, rfl⟩
 · exact ⟨_, _, _, rfl⟩
def ApS (b l D base : Nat) (Lr : Obj) (U : Nat → Prop) (pre : List ByteArray) (A : World) : Prop :=
 ∃ v, A.heap[b]? = some (.cells #[v] 28 (0, 0)) ∧ OwS A base v pre ∧ A.heap[l]? = some Lr ∧ A.heap[D]? = some (.deferred (some [])) ∧ U = fun k => k = b ∨ k = l ∨ k = D ∨ v.ownBlock = some k
theorem OwS.kept {w w' : World} {base : Nat} {v : Value} {l : List ByteArray} (h : OwS w base v l) (hk : ∀ k, v.ownBlock = some k → k < w.heap.size → w'.heap[k]? = w.heap[k]?) : OwS w' base v l := by
 refine ⟨h.1, ?_⟩
 rcases h.2 with e | ⟨g, cap, cur, e1, e2, e3, e4⟩
 · exact .inl e
 · exact .inr ⟨g, cap, cur, e1, e2, (hk g (by rw [e1]; rfl) (lt_blkR e3)).trans e3, e4⟩
theorem OwS.blk {w : World} {base : Nat} {v : Value} {l : List ByteArray} (h : OwS w base v l) {k : Nat} (hk : v.ownBlock = some k) : k < w.heap.size ∧ base ≤ k ∧ ∃ cur, w.heap[k]? = some (.cells cur 9 (0, 0)) := by
 rcases h.2 with e | ⟨g, cap, cur, e1, e2, e3, e4⟩
 · rw [e.1] at hk; cases hk
 · rw [e1] at hk
   cases hk
   exact ⟨lt_blkR e3, e2, cur, e3⟩
theorem ApS.stab {b l D base : Nat} {Lr : Obj} (U : Nat → Prop) (pre : List ByteArray) (A B : World) (h : ApS b l D base Lr U pre A) (ho : Ou (fun k => ¬ U k) A B) : ApS b l D base Lr U pre B := by
 obtain ⟨v, h1, h2, h3, h4, rfl⟩ := h
 exact ⟨v, ho.box (fun q => q (.inl rfl)) h1, h2.kept (fun k hk hl => ho.block k hl (fun q => q (.inr (.inr (.inr hk))))), ho.box (fun q => q (.inr (.inl rfl))) h3, ho.box (fun q => q (.inr (.inr (.inl rfl)))) h4, rfl⟩
theorem ApS.lt {b l D base : Nat} {Lr : Obj} (U : Nat → Prop) (pre : List ByteArray) (A : World) (k : Nat) (h : ApS b l D base Lr U pre A) (hk : U k) : k < A.heap.size := by
 obtain ⟨v, h1, h2, h3, h4, rfl⟩ := h
 rcases hk with rfl | rfl | rfl | q
 · exact lt_blkR h1
 · exact lt_blkR h3
 · exact lt_blkR h4
 · exact (h2.blk q).1
def ColS (R : List ByteArray) (w : World) (e : Ending) (w' : World) : Prop := ∃ v : Value, e = .returned v ∧ OwS w' w.heap.size v R ∧ Below w.heap.size w w'
set_option maxHeartbeats 4000000 in
theorem appendS_in (L : List Nd) (a : Option Addr) (cap : Nat) (w0 : World) (f : Int) (p : ByteArray) (R : List ByteArray) (hR : R.length ≤ 1000) (hE : EntC L a cap w0 f p R) (w : World) (hw : Below w0.heap.size w0 w) (bt bf bp : Nat)
   (hbt : w.heap[bt]? = some (.cells #[.slice a L.length cap] 23 (0, 0))) (hbf : w.heap[bf]? = some (.cells #[.int .u32 f] 31 (0, 0))) (hbp : w.heap[bp]? = some (.cells #[.string p] 9 (0, 0))) :
   CallsIn Fence.wide 3 Tryz.prog 31 #[.slice none 0 0, .func (.func 32) #[] #[.pointer (some ⟨bt, 0, none⟩), .pointer (some ⟨bf, 0, none⟩), .pointer (some ⟨bp, 0, none⟩)]] w (ColS R w) := by
 have lt1 := lt_blkR hbt
 have lt2 := lt_blkR hbf
 have lt3 := lt_blkR hbp
 refine callsIn_of_wp_marks Tryz.func31 rfl trivial ?_ rfl
 simp only [Tryz.ntmps31, List.size_toArray, List.length_cons, List.length_nil, Nat.reduceAdd, Nat.reduceSub, Array.replicate_succ, Array.replicate_zero, List.push_toArray, List.append_toArray, List.nil_append, List.cons_append]
 gi_wp2
 have hx0 : (w.alloc (.cells #[.slice none 0 0] 28)).heap[w.heap.size]? = some (.cells #[.slice none 0 0] 28 (0, 0)) := heap_alloc_new w _
 have hA0 : Below w.heap.size w (w.alloc (.cells #[.slice none 0 0] 28)) := below_1 w _
 have hsz : (w.alloc (.cells #[.slice none 0 0] 28)).heap.size = w.heap.size + 1 := by simp
 generalize (w.alloc (.cells #[.slice none 0 0] 28)) = W at *
 have HSZ := hid hsz
 refine Rg.range_go (gf := 32) (lb := #[.pointer (some ⟨bt, 0, none⟩), .pointer (some ⟨bf, 0, none⟩), .pointer (some ⟨bp, 0, none⟩)]) rfl (enters_of Tryz.func32 (by kernel_rfl) rfl) (fun W' => ∃ v, W'.heap[w.heap.size]? = some (.cells #[v] 28 (0, 0)) ∧ OwS W' w.heap.size v R ∧ Below w.heap.size w W' ∧ ∃ lr : Loop, W'.heap[W.heap.size + 1]? = some (.loop lr)) ?_ ?_
 · intro fn
   generalize hRc : Rg.recOf fn _ _ _ _ _ = Rc
   have hD1 : ((W.alloc (.deferred (some []))).alloc (.loop (Rc .ready))).heap[W.heap.size]? = some (.deferred (some [])) := (Below.heap_alloc _ _ _ (by simp)).trans (heap_alloc_new W _)
   have hL1 : ((W.alloc (.deferred (some []))).alloc (.loop (Rc .ready))).heap[W.heap.size + 1]? = some (.loop (Rc .ready)) := by
     have := heap_alloc_new (W.alloc (.deferred (some []))) (.loop (Rc .ready)); rwa [World.size_alloc] at this
   have hB1 : Below W.heap.size W ((W.alloc (.deferred (some []))).alloc (.loop (Rc .ready))) := (below_1 W _).trans ((below_1 _ _).mono (by simp))
   generalize ((W.alloc (.deferred (some []))).alloc (.loop (Rc .ready))) = W1 at *
   have hbW1 : Below w.heap.size w W1 := hA0.trans (hB1.mono hA0.size)
   have hJ1 : ApS w.heap.size (W.heap.size + 1) W.heap.size w.heap.size (.loop (Rc .ready)) (fun k => k = w.heap.size ∨ k = W.heap.size + 1 ∨ k = W.heap.size ∨ (Value.slice none 0 0).ownBlock = some k) [] W1 :=
     ⟨_, (hB1.block _ (lt_blkR hx0)).trans hx0, OwS.nil _ _, hL1, hD1, rfl⟩
   have hnU : ∀ k, k < w.heap.size → ¬ (k = w.heap.size ∨ k = W.heap.size + 1 ∨ k = W.heap.size ∨ (Value.slice none 0 0).ownBlock = some k) := fun k hk q => by
     rcases q with q | q | q | q
     · omega
     · omega
     · omega
     · cases q
   refine (hE (W.heap.size + 1) R.length _ _ [] W1 bt bf bp ⟨ApS.stab (Lr := .loop (Rc .ready)) (b := w.heap.size) (l := W.heap.size + 1) (D := W.heap.size) (base := w.heap.size), ApS.lt, ?yield⟩ (hw.trans (hbW1.mono hw.size)) hJ1 ?ge ((hbW1.block _ lt1).trans hbt) ((hbW1.block _ lt2).trans hbf) ((hbW1.block _ lt3).trans hbp) (hnU _ lt1) (hnU _ lt2) (hnU _ lt3) (by simp)).mono ?fin
   case ge =>
     have := hw.size
     rintro k (q | q | q | q)
     · omega
     · omega
     · omega
     · cases q
   case fin =>
     rintro e V ⟨he, U', ⟨v, h1, h2, h3, h4, _⟩, hU', ho⟩
     refine ⟨he, h3, h4, v, h1, h2, ?_, _, h3⟩
     exact hbW1.trans (ho.below hbW1.size (fun k hk => by
       rcases hk with q | q | q | q
       · omega
       · omega
       · omega
       · cases q))
   case yield =>
     rintro U pre x V hJ hlen
     obtain ⟨v, hv, hrow, hLV, hKV, rfl⟩ := hJ
     have h1' := hLV
     rw [← hRc] at h1'
     refine Rg.round_go h1' (by rfl) ?_
     gi_wp2
     refine ⟨h1', ?_⟩
     rw [hRc]
     have ll := lt_blkR hLV
     have e1 : w.heap.size ≠ W.heap.size + 1 := by omega
     have e2 : W.heap.size ≠ W.heap.size + 1 := by omega
     have e3 : W.heap.size ≠ w.heap.size := by omega
     clear hsz
     have hv2 := (World.putObj_heap_other (w := V) (o := .loop (Rc .busy)) e1).trans hv
     have hK2 := (World.putObj_heap_other (w := V) (o := .loop (Rc .busy)) e2).trans hKV
     have hL2 : (V.putObj (W.heap.size + 1) (.loop (Rc .busy))).heap[W.heap.size + 1]? = some (.loop (Rc .busy)) := World.putObj_heap_same ll
     have nl : v.ownBlock ≠ some (W.heap.size + 1) := fun e => by
       obtain ⟨_, _, cur, hc⟩ := hrow.blk e
       rw [hLV] at hc
       cases hc
     have hrow2 : OwS (V.putObj (W.heap.size + 1) (.loop (Rc .busy))) w.heap.size v pre := hrow.kept (fun k hk _ => World.putObj_heap_other (fun e => nl (e ▸ hk)))
     have hs2 : (V.putObj (W.heap.size + 1) (.loop (Rc .busy))).heap.size = V.heap.size := by simp
     have ho2 : Ou (fun k => k = W.heap.size + 1) V (V.putObj (W.heap.size + 1) (.loop (Rc .busy))) := Ou.put V _ rfl
     have hlv : w.heap.size < V.heap.size := lt_blkR hv
     have HS2 := hid hs2
     have HO2 := hid ho2
     have hl2 : w.heap.size ≤ (V.putObj (W.heap.size + 1) (.loop (Rc .busy))).heap.size := by omega
     clear hs2 ho2
     generalize V.putObj (W.heap.size + 1) (.loop (Rc .busy)) = V2 at *
     obtain ⟨hc2, hf2⟩ := cell_of_box_a hv2
     obtain ⟨i0, hi, hz0, hz1', hz2⟩ := info_strT
     have HROW := hid hrow2
     have hrw : V2.ownsRow w.heap.size 9 1 v pre.length (pre.map Value.string) := hrow2
     clear hrow2
     gi_wp2_with (first
       | (gi_at_builtin; go_must (refine wpListIn_append_own_at _ rfl _ _ 28 rfl w.heap.size 9 i0 (.string ByteArray.empty) 1 16 Tryz.underlying28 hi hz0 hz1' hz2 rfl (by decide) _ _ _ rfl (hrw.alloc _) ⟨V2.heap.size, 0, none⟩ 1 1 [.string x] rfl rfl (cell_one_new _ _ _) (by simp [Value.oneCell']) (by unfold maxLen; omega) (by omega) (by simp; omega) ?_)
          intro v' w3 hown' hg3 hnil3 hat3
          have hv3 : w3.heap[w.heap.size]? = some (.cells #[v] 28 (0, 0)) := (hg3.block _ (by simp; omega) (fun e => by obtain ⟨_, _, cur, hc⟩ := HROW.out.blk e.symm; rw [hv2] at hc; have := (Obj.cells.inj (Option.some.inj hc)).2.1; revert this; decide)).trans ((Below.heap_alloc _ _ _ (lt_blkR hv2)).trans hv2)
          obtain ⟨hc3, hf3⟩ := cell_of_box_a hv3
          obtain ⟨a5, n5, c5, rfl⟩ := own_sliceS hown'
          go_frame)
       | gi_round_op_a)
     have hL3 : w3.heap[W.heap.size + 1]? = some (.loop (Rc .busy)) := (hg3.block _ (by simp; have := lt_blkR hL2; omega) (fun e => by obtain ⟨_, _, cur, hc⟩ := HROW.out.blk e.symm; rw [hL2] at hc; cases hc)).trans ((Below.heap_alloc _ _ _ (lt_blkR hL2)).trans hL2)
     have hK3 : w3.heap[W.heap.size]? = some (.deferred (some [])) := (hg3.block _ (by simp; have := lt_blkR hK2; omega) (fun e => by obtain ⟨_, _, cur, hc⟩ := HROW.out.blk e.symm; rw [hK2] at hc; cases hc)).trans ((Below.heap_alloc _ _ _ (lt_blkR hK2)).trans hK2)
     have hv4 := heap_setCell_box_a (.slice a5 n5 c5) hv3
     have hO3 : OwS w3 w.heap.size (.slice a5 n5 c5) (pre ++ [x]) := by unfold OwS; rw [List.map_append, List.length_append]; exact hown'
     have nb : (Value.slice a5 n5 c5).ownBlock ≠ some w.heap.size := fun e => by
       obtain ⟨_, _, cur, hc⟩ := hO3.blk e
       rw [hv3] at hc
       have := (Obj.cells.inj (Option.some.inj hc)).2.1
       revert this; decide
     have hO4 : OwS (w3.setCell ⟨w.heap.size, 0, none⟩ (.slice a5 n5 c5)) w.heap.size (.slice a5 n5 c5) (pre ++ [x]) := hO3.kept (fun k hk _ => heap_setCell_other _ _ _ _ (fun e => nb (by have e2 : k = w.heap.size := e; rw [← e2]; exact hk)))
     have hL4 := (heap_setCell_other w3 ⟨w.heap.size, 0, none⟩ (W.heap.size + 1) (.slice a5 n5 c5) (fun e => e1 e.symm)).trans hL3
     have hK4 := (heap_setCell_other w3 ⟨w.heap.size, 0, none⟩ W.heap.size (.slice a5 n5 c5) e3).trans hK3
     have hS4 : Ou (fun k => k = w.heap.size) w3 (w3.setCell ⟨w.heap.size, 0, none⟩ (.slice a5 n5 c5)) := ⟨rfl, rfl, rfl, by simp [World.setCell], fun k _ hk => heap_setCell_other _ _ _ _ hk⟩
     generalize w3.setCell ⟨w.heap.size, 0, none⟩ (.slice a5 n5 c5) = w4 at *
     have nl4 : (Value.slice a5 n5 c5).ownBlock ≠ some (W.heap.size + 1) := fun e => by
       obtain ⟨_, _, cur, hc⟩ := hO4.blk e
       rw [hL4] at hc
       cases hc
     refine ⟨hL4, _, ⟨_, (World.putObj_heap_other e1).trans hv4, hO4.kept (fun k hk _ => World.putObj_heap_other (fun e => nl4 (e ▸ hk))), World.putObj_heap_same (lt_blkR hL4), (World.putObj_heap_other e2).trans hK4, rfl⟩, ?_, ?_⟩
     · rintro k (q | q | q | q)
       · exact .inl (.inl q)
       · exact .inl (.inr (.inl q))
       · exact .inl (.inr (.inr (.inl q)))
       · rcases hat3 with e | e
         · rw [q] at e; exact .inl (.inr (.inr (.inr e.symm)))
         · rw [q] at e
           have := Option.some.inj e
           have h2 := HS2.out
           rw [World.size_alloc] at this
           exact .inr (by omega)
     · have q1 : Ou (fun k => k = w.heap.size ∨ k = W.heap.size + 1 ∨ k = W.heap.size ∨ v.ownBlock = some k) V V2 := HO2.out.mono (fun k hk => .inr (.inl hk))
       have q2 := q1.trans (Ou.al V2 (.cells #[.string x] 9))
       have q3 : Ou (fun k => k = w.heap.size ∨ k = W.heap.size + 1 ∨ k = W.heap.size ∨ v.ownBlock = some k) (V2.alloc (.cells #[.string x] 9)) w3 := ⟨hg3.os, hg3.tape, hg3.output, hg3.size, fun k hk hn => hg3.block k hk (fun e => hn (.inr (.inr (.inr e.symm))))⟩
       exact ((q2.trans q3).trans (hS4.mono (fun k hk => .inl hk))).trans (Ou.put w4 _ (.inr (.inl rfl)))
 · rintro W' o ⟨v, hv, hown, hbel, lr, hlr⟩ hD hl
   have nl : v.ownBlock ≠ some (W.heap.size + 1) := fun e => by
     obtain ⟨_, _, cur, hc⟩ := hown.blk e
     rw [hlr] at hc
     cases hc
   have hD2 : (W'.putObj (W.heap.size + 1) o).heap[W.heap.size]? = some (.deferred (some [])) := (World.putObj_heap_other (by omega)).trans hD
   have hv2 : (W'.putObj (W.heap.size + 1) o).heap[w.heap.size]? = some (.cells #[v] 28 (0, 0)) := (World.putObj_heap_other (by omega)).trans hv
   have hO2 : OwS (W'.putObj (W.heap.size + 1) o) w.heap.size v R := hown.kept (fun k hk _ => World.putObj_heap_other (fun e => nl (e ▸ hk)))
   have hb2 : Below w.heap.size w (W'.putObj (W.heap.size + 1) o) := hbel.trans ((Ou.put (S := fun k => k = W.heap.size + 1) W' o rfl).below hbel.size (fun k hk => by omega))
   generalize W'.putObj (W.heap.size + 1) o = W2 at *
   obtain ⟨hc2, hf2⟩ := cell_of_box_a hv2
   have nd : v.ownBlock ≠ some W.heap.size := fun e => by
     obtain ⟨_, _, cur, hc⟩ := hO2.blk e
     rw [hD2] at hc
     cases hc
   have hO3 : OwS (W2.putObj W.heap.size (.deferred none)) w.heap.size v R := hO2.kept (fun k hk _ => World.putObj_heap_other (fun e => nd (e ▸ hk)))
   have hB3 : Below w.heap.size w (W2.putObj W.heap.size (.deferred none)) := hb2.trans ((Ou.put (S := fun k => k = W.heap.size) W2 _ rfl).below hb2.size (fun k hk => by omega))
   clear hsz
   gi_wp2_with fail
   refine ⟨by simp, .inl ⟨_, _, rfl, run_takeDeferred (w := W2) hD2, ?_⟩⟩
   exact ⟨v, by simp [results, Tryz.results31, go_sem], v, rfl, hO3, hB3⟩
set_option maxHeartbeats 1000000 in
theorem collectS_c (L : List Nd) (a : Option Addr) (cap : Nat) (w0 : World) (f : Int) (p : ByteArray) (R : List ByteArray) (hR : R.length ≤ 1000) (hE : EntC L a cap w0 f p R) (w : World) (hw : Below w0.heap.size w0 w) (bt bf bp : Nat)
   (hbt : w.heap[bt]? = some (.cells #[.slice a L.length cap] 23 (0, 0))) (hbf : w.heap[bf]? = some (.cells #[.int .u32 f] 31 (0, 0))) (hbp : w.heap[bp]? = some (.cells #[.string p] 9 (0, 0))) :
   Calls Tryz.prog 14 #[.func (.func 32) #[] #[.pointer (some ⟨bt, 0, none⟩), .pointer (some ⟨bf, 0, none⟩), .pointer (some ⟨bp, 0, none⟩)]] w (ColS R w) := by
 have AC := hid (callsIn_wide.1 (appendS_in L a cap w0 f p R hR hE w hw bt bf bp hbt hbf hbp))
 clear hE hbt hbf hbp hw
 go_enter Tryz.func14, Tryz.ntmps14
 go_wp2_with fail
 refine AC.out.mono ?_
 rintro _ w' ⟨v, rfl, h2, h3⟩
 obtain ⟨a5, c5, rfl⟩ := h2.shape
 have H2 := hid h2
 clear h2
 go_wp2_with fail
 go_ret
 exact ⟨_, rfl, H2.out, h3⟩
end Go.Proofs.YtkokjkaclcjnjaaGreatDoor
