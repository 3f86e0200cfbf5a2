/-
  
-/
import Derived.Test.YtfmghbennahlfaaGreatCnAv
import Derived.BigQuiet
import Derived.Deep.QuietTactic
import Derived.OwnWalk
import Derived.Lib.SliceRun
namespace Go.Proofs.YtfmghbennahlfaaGreat
open Go.RowKit Go.ChangeShapes Go.WideShapes Go.ChangeAt Go.Maps Go.Shelf
attribute [local go_sem] Oper.semAt_some
set_option linter.unusedVariables false
set_option linter.unusedSimpArgs false
def GI (Z : World) (F : List Int) (L : List Int) (b off lcap : Nat) (R : Obj) (k : Nat) (W : World) : Prop :=
 Below Z.heap.size Z W ∧ Z.heap.size + 6 ≤ W.heap.size ∧
 (∃ v, W.heap[Z.heap.size + 1]? = some (.cells #[v] 233 (0, 0)) ∧ W.ownsRow Z.heap.size 260 32 v (k + 1) (scells (F :: Jo.dataL L k)) ∧ ∀ q, v.ownBlock = some q → q = Z.heap.size ∨ Z.heap.size + 6 ≤ q) ∧
 W.heap[Z.heap.size + 2]? = some (.cells #[.slice (some ⟨b, off, none⟩) L.length lcap] 37 (0, 0)) ∧ W.heap[Z.heap.size + 3]? = some (.cells #[.int .i64 31] 3 (0, 0)) ∧
 W.heap[Z.heap.size + 4]? = some (.deferred (some [])) ∧ W.heap[Z.heap.size + 5]? = some R
theorem GI.drew {Z : World} {F L : List Int} {b off lcap : Nat} {R : Obj} {k : Nat} {W : World} (h : GI Z F L b off lcap R k W) : GI Z F L b off lcap R k W.drew :=
 ⟨⟨h.1.os, h.1.tape, h.1.output, h.1.size, h.1.block⟩, h.2⟩
theorem GI.next {Z : World} {F L : List Int} {b off lcap : Nat} {R Rb : Obj} {k : Nat} {V V4 w5 : World} {v : Value} {a5 : Option Addr} {n5 c5 : Nat} (h : GI Z F L b off lcap R k V) (hv : ∀ q, v.ownBlock = some q → q = Z.heap.size ∨ Z.heap.size + 6 ≤ q)
   (h4 : ∀ q, q < V.heap.size → q ≠ Z.heap.size + 5 → V4.heap[q]? = V.heap[q]?) (hb4 : V4.heap[Z.heap.size + 5]? = some Rb) (hz4 : V.heap.size ≤ V4.heap.size) (hos : V4.os = V.os ∧ V4.tape = V.tape ∧ V4.output = V.output)
   (hown : w5.ownsRow Z.heap.size 260 32 (.slice a5 n5 c5) (k + 1 + 1) (scells (F :: Jo.dataL L k) ++ (Jo.dataS L k).map by8)) (hg : V4.grownBy w5 v.ownBlock) (hat : (Value.slice a5 n5 c5).ownBlock = v.ownBlock ∨ (Value.slice a5 n5 c5).ownBlock = some V4.heap.size) :
   (w5.setCell ⟨Z.heap.size + 1, 0, none⟩ (.slice a5 n5 c5)).heap[Z.heap.size + 5]? = some Rb ∧ GI Z F L b off lcap R (k + 1) ((w5.setCell ⟨Z.heap.size + 1, 0, none⟩ (.slice a5 n5 c5)).putObj (Z.heap.size + 5) R) := by
 obtain ⟨g1, g2, ⟨v0, g3, g4, g5⟩, g6, g7, g8, g9⟩ := h
 have hz5 := hg.size
 have k5 : ∀ q, q < V.heap.size → q ≠ Z.heap.size → q < Z.heap.size + 6 → q ≠ Z.heap.size + 5 → w5.heap[q]? = V.heap[q]? := fun q h1 h2 h3 h6 => by
   rw [hg.block q (by omega) (fun e => by have := hv q e.symm; omega), h4 q h1 h6]
 have b5 : w5.heap[Z.heap.size + 5]? = some Rb := by
   rw [hg.block _ (by omega) (fun e => by have := hv _ e.symm; omega)]; exact hb4
 have b1 : w5.heap[Z.heap.size + 1]? = some (.cells #[v0] 233 (0, 0)) := by rw [k5 _ (by omega) (by omega) (by omega) (by omega)]; exact g3
 refine ⟨by rw [heap_setCell_other _ _ _ _ (by simp)]; exact b5, ⟨?_, by simp [World.setCell]; omega, ⟨.slice a5 n5 c5, ?_, ?_, ?_⟩, ?_, ?_, ?_, World.putObj_heap_same (by simp [World.setCell]; omega)⟩⟩
 · refine ⟨hg.os.trans (hos.1.trans g1.os), hg.tape.trans (hos.2.1.trans g1.tape), hg.output.trans (hos.2.2.trans g1.output), by simp [World.setCell]; omega, fun q hq => ?_⟩
   rw [World.putObj_heap_other (by omega), heap_setCell_other _ _ _ _ (by simp only; omega), hg.block q (by omega) (fun e => by have := hv q e.symm; omega), h4 q (by omega) (by omega)]
   exact g1.block q hq
 · rw [World.putObj_heap_other (by omega)]; exact heap_setBox _ b1
 · rw [show k + 1 + 1 = (k + 1) + 1 from rfl, Jo.dataL_snoc, show F :: (Jo.dataL L k ++ [Jo.dataS L k]) = (F :: Jo.dataL L k) ++ [Jo.dataS L k] from rfl, scells_snoc]
   refine ⟨hown.1, ?_⟩
   rcases hown.2 with h | ⟨g, cap, cur, e1, e2, e3, e4⟩
   · exact .inl h
   · have hq : g = Z.heap.size ∨ Z.heap.size + 6 ≤ g := by
       have e5 : (Value.slice a5 n5 c5).ownBlock = some g := by rw [e1]; rfl
       rw [e5] at hat
       rcases hat with h | h
       · exact hv g h.symm
       · have := Option.some.inj h; omega
     exact .inr ⟨g, cap, cur, e1, e2, by rw [World.putObj_heap_other (by omega), heap_setCell_other _ _ _ _ (by simp only; omega)]; exact e3, e4⟩
 · intro q hq
   rcases hat with h | h
   · exact hv q (by rw [← h]; exact hq)
   · rw [hq] at h; have := Option.some.inj h; omega
 · rw [World.putObj_heap_other (by omega), heap_setCell_other _ _ _ _ (by simp), k5 _ (by omega) (by omega) (by omega) (by omega)]; exact g6
 · rw [World.putObj_heap_other (by omega), heap_setCell_other _ _ _ _ (by simp), k5 _ (by omega) (by omega) (by omega) (by omega)]; exact g7
 · rw [World.putObj_heap_other (by omega), heap_setCell_other _ _ _ _ (by simp), k5 _ (by omega) (by omega) (by omega) (by omega)]; exact g8
theorem isB_blk {w w' : World} {b off len : Nat} {zs : List Int} (h : IsB w (some ⟨b, off, none⟩) len zs) (hb : w'.heap[b]? = w.heap[b]?) : IsB w' (some ⟨b, off, none⟩) len zs := by
 obtain ⟨h1, h2, h3, h4⟩ := h
 refine ⟨h1, h2, fun hp => ?_, h4⟩
 obtain ⟨b', off', e, hc⟩ := h3 hp
 cases e
 exact ⟨b, off, rfl, fun i hi => by rw [World.cell?_of_block (a := ⟨b, off + i, none⟩) hb]; exact hc i hi⟩
theorem isB_sub {w : World} {b off len : Nat} {zs : List Int} (h : IsB w (some ⟨b, off, none⟩) len zs) (i m : Nat) (him : i + m ≤ len) : IsB w (some ⟨b, off + i, none⟩) m ((zs.drop i).take m) := by
 obtain ⟨h1, h2, h3, h4⟩ := h
 refine ⟨by rw [List.length_take, List.length_drop]; omega, by omega, fun hp => ?_, fun j => ?_⟩
 · obtain ⟨b', off', e, hc⟩ := h3 (by omega)
   cases e
   refine ⟨b, off + i, rfl, fun j hj => ?_⟩
   rw [Nat.add_assoc, hc (i + j) (by omega)]
   simp [List.getD, List.getElem?_take, hj, List.getElem?_drop]
 · have := h4 (i + j)
   by_cases hj : j < m
   · simpa [List.getD, List.getElem?_take, hj, List.getElem?_drop] using this
   · simp [List.getD, List.getElem?_take, hj]
theorem isB_chunk {w : World} {b off : Nat} {L : List Int} (h : IsB w (some ⟨b, off, none⟩) L.length L) (k : Nat) (hk : 31 * k < L.length) : IsB w (some ⟨b, off + 31 * k, none⟩) (min 31 (L.length - 31 * k)) (Jo.chunk L k) := by
 have h1 := isB_sub h (31 * k) (min 31 (L.length - 31 * k)) (by omega)
 have e : (L.drop (31 * k)).take (min 31 (L.length - 31 * k)) = Jo.chunk L k := by
   unfold Jo.chunk
   by_cases hc : 31 ≤ L.length - 31 * k
   · rw [Nat.min_eq_left hc]
   · rw [Nat.min_eq_right (by omega), List.take_of_length_le (by simp), List.take_of_length_le (by simp; omega)]
 rwa [e] at h1
theorem alloc_facts (w : World) (o : Obj) : (w.alloc o).heap.size = w.heap.size + 1 ∧ (∀ q, q < w.heap.size → (w.alloc o).heap[q]? = w.heap[q]?) ∧ (w.alloc o).os = w.os ∧ (w.alloc o).tape = w.tape ∧ (w.alloc o).output = w.output :=
 ⟨by simp, fun q hq => Below.heap_alloc _ _ _ hq, rfl, rfl, rfl⟩
theorem own_far {w w' : World} {base : Nat} {e : TypeId} {size : Nat} {v : Value} {n : Nat} {xs : List Value} (h : w.ownsRow base e size v n xs) (hS : ∀ k, v.ownBlock = some k → w'.heap[k]? = w.heap[k]?) : w'.ownsRow base e size v n xs := by
 refine ⟨h.1, ?_⟩
 rcases h.2 with h | ⟨g, cap, cur, e1, e2, e3, e4⟩
 · exact .inl h
 · exact .inr ⟨g, cap, cur, e1, e2, by rw [hS g (by rw [e1]; rfl)]; exact e3, e4⟩
theorem alloc_below {w w' : World} {B : Nat} (h : w'.heap.size = w.heap.size + 1 ∧ (∀ q, q < w.heap.size → w'.heap[q]? = w.heap[q]?) ∧ w'.os = w.os ∧ w'.tape = w.tape ∧ w'.output = w.output) (hB : B ≤ w.heap.size) : Below B w w' :=
 ⟨h.2.2.1, h.2.2.2.1, h.2.2.2.2, by omega, fun q hq => h.2.1 q (by omega)⟩
theorem layW0 (Z : World) (F L : List Int) (lb lo lcap : Nat) (hS : F.length = 32) :
   ((((Z.alloc (.cells (F.map by8).toArray 260)).alloc (.cells #[.slice (some ⟨Z.heap.size, 0, none⟩) 1 1] 233)).alloc (.cells #[.slice (some ⟨lb, lo, none⟩) L.length lcap] 37)).alloc (.cells #[.int .i64 31] 3)).heap.size = Z.heap.size + 4 ∧
   Below Z.heap.size Z ((((Z.alloc (.cells (F.map by8).toArray 260)).alloc (.cells #[.slice (some ⟨Z.heap.size, 0, none⟩) 1 1] 233)).alloc (.cells #[.slice (some ⟨lb, lo, none⟩) L.length lcap] 37)).alloc (.cells #[.int .i64 31] 3)) ∧
   ((((Z.alloc (.cells (F.map by8).toArray 260)).alloc (.cells #[.slice (some ⟨Z.heap.size, 0, none⟩) 1 1] 233)).alloc (.cells #[.slice (some ⟨lb, lo, none⟩) L.length lcap] 37)).alloc (.cells #[.int .i64 31] 3)).heap[Z.heap.size + 1]? = some (.cells #[.slice (some ⟨Z.heap.size, 0, none⟩) 1 1] 233 (0, 0)) ∧
   ((((Z.alloc (.cells (F.map by8).toArray 260)).alloc (.cells #[.slice (some ⟨Z.heap.size, 0, none⟩) 1 1] 233)).alloc (.cells #[.slice (some ⟨lb, lo, none⟩) L.length lcap] 37)).alloc (.cells #[.int .i64 31] 3)).ownsRow Z.heap.size 260 32 (.slice (some ⟨Z.heap.size, 0, none⟩) 1 1) (0 + 1) (scells (F :: Jo.dataL L 0)) ∧
   ((((Z.alloc (.cells (F.map by8).toArray 260)).alloc (.cells #[.slice (some ⟨Z.heap.size, 0, none⟩) 1 1] 233)).alloc (.cells #[.slice (some ⟨lb, lo, none⟩) L.length lcap] 37)).alloc (.cells #[.int .i64 31] 3)).heap[Z.heap.size + 2]? = some (.cells #[.slice (some ⟨lb, lo, none⟩) L.length lcap] 37 (0, 0)) ∧
   ((((Z.alloc (.cells (F.map by8).toArray 260)).alloc (.cells #[.slice (some ⟨Z.heap.size, 0, none⟩) 1 1] 233)).alloc (.cells #[.slice (some ⟨lb, lo, none⟩) L.length lcap] 37)).alloc (.cells #[.int .i64 31] 3)).heap[Z.heap.size + 3]? = some (.cells #[.int .i64 31] 3 (0, 0)) := by
 have n0 := heap_alloc_new Z (.cells (F.map by8).toArray 260)
 generalize hA : Z.alloc (.cells (F.map by8).toArray 260) = A at *
 have sA : A.heap.size = Z.heap.size + 1 := by rw [← hA]; simp
 have bA : Below Z.heap.size Z A := by rw [← hA]; exact (Below.refl _ _).alloc (Nat.le_refl _) _
 have n1 := heap_alloc_new A (.cells #[.slice (some ⟨Z.heap.size, 0, none⟩) 1 1] 233)
 have bB : Below A.heap.size A (A.alloc (.cells #[.slice (some ⟨Z.heap.size, 0, none⟩) 1 1] 233)) := (Below.refl _ _).alloc (Nat.le_refl _) _
 have sB : (A.alloc (.cells #[.slice (some ⟨Z.heap.size, 0, none⟩) 1 1] 233)).heap.size = Z.heap.size + 2 := by simp; omega
 generalize A.alloc (.cells #[.slice (some ⟨Z.heap.size, 0, none⟩) 1 1] 233) = B at *
 have n2 := heap_alloc_new B (.cells #[.slice (some ⟨lb, lo, none⟩) L.length lcap] 37)
 have bC : Below B.heap.size B (B.alloc (.cells #[.slice (some ⟨lb, lo, none⟩) L.length lcap] 37)) := (Below.refl _ _).alloc (Nat.le_refl _) _
 have sC : (B.alloc (.cells #[.slice (some ⟨lb, lo, none⟩) L.length lcap] 37)).heap.size = Z.heap.size + 3 := by simp; omega
 generalize B.alloc (.cells #[.slice (some ⟨lb, lo, none⟩) L.length lcap] 37) = C at *
 have n3 := heap_alloc_new C (.cells #[.int .i64 31] 3)
 have bD : Below C.heap.size C (C.alloc (.cells #[.int .i64 31] 3)) := (Below.refl _ _).alloc (Nat.le_refl _) _
 have sD : (C.alloc (.cells #[.int .i64 31] 3)).heap.size = Z.heap.size + 4 := by simp; omega
 generalize C.alloc (.cells #[.int .i64 31] 3) = D at *
 rw [sA] at n1
 rw [sB] at n2
 rw [sC] at n3
 refine ⟨sD, ((bA.trans (bB.mono (by omega))).trans (bC.mono (by omega))).trans (bD.mono (by omega)), ?_, ⟨by simp [scells, Jo.dataL, hS], .inr ⟨Z.heap.size, 1, (F.map by8).toArray, rfl, Nat.le_refl _, ?_, Nat.le_refl _, by unfold maxLen; omega, by simp [hS], ?_⟩⟩, ?_, n3⟩
 · rw [bD.block _ (by omega), bC.block _ (by omega)]; exact n1
 · rw [bD.block _ (by omega), bC.block _ (by omega), bB.block _ (by omega)]; exact n0
 · simp [scells, Jo.dataL, hS, List.take_of_length_le]
 · rw [bD.block _ (by omega)]; exact n2
set_option maxRecDepth 20000 in
set_option maxHeartbeats 4000000 in
theorem groupSectors_c (a : Option Addr) (len cap : Nat) (g : Jo.Gr) (t n : Int) (w : World) (h : IsG0 w a len g) (hok : Jo.okG g = true) (ht : 0 ≤ t ∧ t < 4294967296) (hn : 0 ≤ n ∧ n < 4294967296) :
   Calls Tryz.prog 202 #[.slice a len cap, .int .u32 t, .int .u32 n] w fun e w' => ∃ v, e = .returned v ∧ w'.ownsRow w.heap.size 260 32 v (Jo.laid g t n).length (scells (Jo.laid g t n)) ∧ Below w.heap.size w w' := by
 obtain ⟨o1, o2, o3⟩ := Jo.ok_iff.1 hok
 have hL := Jo.ok_load hok
 have hgl := h.1
 have hby := Jo.bytes_load h.isG.bytes
 have hl8 : (len : Int) ≤ 8 := by omega
 have H := hid h
 have O3 : Hid (∀ j, j < g.length → (g.getD j []).length ≤ 16384) := fun j hj => by have := o3 g[j] (List.getElem_mem hj); simpa [List.getD, hj] using this
 clear h o3
 refine (callsIn_wide (n := 3)).1 ?_
 refine callsIn_of_wp_marks Tryz.func202 rfl trivial ?_ rfl
 simp only [Tryz.ntmps202, List.size_toArray, List.length_cons, List.length_nil, Nat.reduceAdd, Nat.reduceSub, Array.replicate_succ, Array.replicate_zero, List.push_toArray, List.append_toArray, List.nil_append, List.cons_append]
 gi_wp2_with fail
 refine ⟨trivial, (callsIn_wide.2 (loadOf_c a len cap g w H.out o2 O3.out)).mono ?_⟩
 rintro _ w1 ⟨v, rfl, hown1, hb1⟩
 obtain ⟨la, lcap, rfl, hI1, hlc, hnil, hin⟩ := own_isB hown1 hby
 clear hown1
 generalize hLd : Jo.loadF g = L at *
 gi_wp2_with fail
 refine ⟨trivial, (callsIn_wide.2 (firstSector_c t n len L.length _ ht hn (by omega) (by omega))).mono ?_⟩
 rintro _ Z ⟨rfl, hbZ⟩
 obtain ⟨lb, lo, rfl, _⟩ := hI1.2.2.1 (by omega)
 have hS := (Jo.first_sct t n (k := len) (by omega) L.length).1
 obtain ⟨F, hF⟩ : ∃ F, F = Jo.firstS t n len L.length := ⟨_, rfl⟩
 rw [← hF] at hS ⊢
 have HF := hid hF
 clear hF
 have hIZ := hid (hI1.later hbZ)
 have hlbZ : lb < Z.heap.size := Nat.lt_of_lt_of_le (hin _ rfl).2 hbZ.size
 gi_wp2_with (first
   | (refine Rg.wpListIn_run (fun _ => trivial) rfl (by intro c hc; cases hc) (exec_slice1 _ rfl F rfl hS) ?_))
 refine ⟨trivial, (callsIn_wide.2 (chunk_c _ _ _ _)).mono ?_⟩
 rintro _ _ ⟨rfl, rfl⟩
 gi_wp2_with fail
 have hW0 := layW0 Z F L lb lo lcap hS
 generalize ((((Z.alloc (.cells (F.map by8).toArray 260)).alloc (.cells #[.slice (some ⟨Z.heap.size, 0, none⟩) 1 1] 233)).alloc (.cells #[.slice (some ⟨lb, lo, none⟩) L.length lcap] 37)).alloc (.cells #[.int .i64 31] 3)) = W0 at *
 obtain ⟨hsz, q1, q2, q3, q4, q5⟩ := hW0
 have zz := zlit
 have zn : ¬ zsec = [] := by decide
 refine Rg.range_go (gf := 303) (lb := #[.pointer (some ⟨Z.heap.size + 2, 0, none⟩), .pointer (some ⟨Z.heap.size + 2 + 1, 0, none⟩)]) (by first | rfl | simp) (enters_of Tryz.func303 (by kernel_rfl) rfl) (fun W' => ∃ R, GI Z F L lb lo lcap R (Jo.many L.length) W') ?_ ?_
 · intro fn
   generalize hR : Rg.recOf fn _ _ _ _ _ = R
   have h5 : W0.heap.size + 1 = Z.heap.size + 5 := by omega
   have hD1 : ((W0.alloc (.deferred (some []))).alloc (.loop (R .ready))).heap[Z.heap.size + 4]? = some (.deferred (some [])) := by
     rw [Below.heap_alloc _ _ _ (by simp; omega), ← hsz]; exact heap_alloc_new W0 _
   have hL1 : ((W0.alloc (.deferred (some []))).alloc (.loop (R .ready))).heap[Z.heap.size + 5]? = some (.loop (R .ready)) := by
     have := heap_alloc_new (W0.alloc (.deferred (some []))) (.loop (R .ready)); rw [World.size_alloc, h5] at this; exact this
   have hB1 : Below W0.heap.size W0 ((W0.alloc (.deferred (some []))).alloc (.loop (R .ready))) := ((Below.refl _ _).alloc (Nat.le_refl _) _).alloc (by simp) _
   have hz1 : Z.heap.size + 6 ≤ ((W0.alloc (.deferred (some []))).alloc (.loop (R .ready))).heap.size := by simp; omega
   generalize ((W0.alloc (.deferred (some []))).alloc (.loop (R .ready))) = W1 at *
   rw [hsz, show Z.heap.size + 4 + 1 = Z.heap.size + 5 from rfl]
   refine (chunk1_in (Z.heap.size + 5) (Z.heap.size + 2) lb lo L.length lcap (by omega) hlc (GI Z F L lb lo lcap (.loop (R .ready))) (fun k W h => ⟨h.2.2.2.1, h.2.2.2.2.1⟩) (fun k W h => h.drew) ?_ W1 ?_).mono ?_
   · intro k V hk hG
     rw [hsz] at hR
     subst hR
     have hIV : IsB V (some ⟨lb, lo + 31 * k, none⟩) (min 31 (L.length - 31 * k)) (Jo.chunk L k) := isB_chunk (hIZ.out.later hG.1) k hk
     have hcl := Jo.chunk_len L k
     refine Rg.round_go hG.2.2.2.2.2.2 (by rfl) ?_
     gi_wp2
     generalize Obj.loop (Rg.recOf fn _ _ _ _ (Z.heap.size + 4) LoopState.ready) = Rr at *
     generalize Obj.loop (Rg.recOf fn _ _ _ _ (Z.heap.size + 4) LoopState.busy) = Rb at *
     refine ⟨hG.2.2.2.2.2.2, ?_⟩
     have hVz := hG.2.1
     have hp1 : ∀ q, q ≠ Z.heap.size + 5 → (V.putObj (Z.heap.size + 5) Rb).heap[q]? = V.heap[q]? := fun q h => World.putObj_heap_other h
     have hp2 : (V.putObj (Z.heap.size + 5) Rb).heap[Z.heap.size + 5]? = some Rb := World.putObj_heap_same (by omega)
     have hp3 : (V.putObj (Z.heap.size + 5) Rb).heap.size = V.heap.size := by simp
     have hp4 : (V.putObj (Z.heap.size + 5) Rb).os = V.os ∧ (V.putObj (Z.heap.size + 5) Rb).tape = V.tape ∧ (V.putObj (Z.heap.size + 5) Rb).output = V.output := ⟨rfl, rfl, rfl⟩
     generalize V.putObj (Z.heap.size + 5) Rb = V1 at *
     have hIV1 : IsB V1 (some ⟨lb, lo + 31 * k, none⟩) (min 31 (L.length - 31 * k)) (Jo.chunk L k) := isB_blk hIV (hp1 lb (by omega))
     obtain ⟨m, hm⟩ : ∃ m, m = min 31 (L.length - 31 * k) := ⟨_, rfl⟩
     rw [← hm] at hIV1 hcl ⊢
     have hm31 : m ≤ 31 := by omega
     have HIV := hid hIV1
     have HG := hid hG
     clear hm hG hIV hIV1
     gi_wp2_with (first
       | (refine Rg.wpListIn_skip' (fun _ => trivial) rfl (by intro c hc; cases hc) (exec_storeN _ _ rfl _ rfl hp3.symm (markS 68) rfl (by rfl) _ (by simp; decide)) ?_))
     refine ⟨trivial, (CallsIn.inRound _ (callsIn_wide.2 (inside_c V.heap.size _))).mono ?_⟩
     rintro _ _ ⟨rfl, rfl⟩
     obtain ⟨v, hv, hown, hpos⟩ := HG.out.2.2.1
     obtain ⟨i0, hi, hz0, hz1', hz2⟩ := infoSec
     have hmk := Jo.many_le L.length
     have hds := (Jo.data_sct hby k).1
     have hv3 : (V1.alloc (.cells ((Jo.dataS L k).map by8).toArray 260)).heap[Z.heap.size + 1]? = some (.cells #[v] 233 (0, 0)) := by rw [Below.heap_alloc _ _ _ (by omega), hp1 _ (by omega)]; exact hv
     have hb3 : (V1.alloc (.cells ((Jo.dataS L k).map by8).toArray 260)).heap[Z.heap.size + 5]? = some Rb := by rw [Below.heap_alloc _ _ _ (by omega)]; exact hp2
     have hx3 : Bx (V1.alloc (.cells ((Jo.dataS L k).map by8).toArray 260)) V.heap.size 260 (Jo.dataS L k) := by have := heap_alloc_new V1 (.cells ((Jo.dataS L k).map by8).toArray 260); rw [hp3] at this; exact this
     have hk3 : ∀ q, q < V.heap.size → q ≠ Z.heap.size + 5 → (V1.alloc (.cells ((Jo.dataS L k).map by8).toArray 260)).heap[q]? = V.heap[q]? := fun q h1 h2 => by rw [Below.heap_alloc _ _ _ (by omega)]; exact hp1 q h2
     have hz3 : (V1.alloc (.cells ((Jo.dataS L k).map by8).toArray 260)).heap.size = V.heap.size + 1 := by simp; omega
     have ho3 : (V1.alloc (.cells ((Jo.dataS L k).map by8).toArray 260)).os = V.os ∧ (V1.alloc (.cells ((Jo.dataS L k).map by8).toArray 260)).tape = V.tape ∧ (V1.alloc (.cells ((Jo.dataS L k).map by8).toArray 260)).output = V.output := hp4
     have K0 : Hid True := hid trivial
     gi_wp2_with (first
       | (have _q := K0.out; clear _q; refine Rg.wpListIn_run (fun _ => trivial) rfl (by intro c hc; cases hc) (exec_copyD _ _ rfl _ rfl hp3.symm lb (lo + 31 * k) m m L k rfl HIV.out hm31) ?_; generalize (V1.alloc (.cells ((Jo.dataS L k).map by8).toArray 260)) = V3 at *; (have c3 := cell_box hv3); clear K0; (have K1 : Hid True := hid trivial))
       | (have _q := K1.out; clear _q; refine Rg.wpListIn_run (fun _ => trivial) rfl (by intro c hc; cases hc) (exec_loadS _ rfl V.heap.size rfl (Jo.dataS L k) hds 260 hx3) ?_; clear K1; (have K2 : Hid True := hid trivial))
       | (have _q := K2.out; clear _q; refine Rg.wpListIn_run (fun _ => trivial) rfl (by intro c hc; cases hc) (exec_slice1 _ rfl (Jo.dataS L k) rfl hds) ?_; clear K2; (have K3 : Hid True := hid trivial); (have n4 := heap_alloc_new V3 (.cells ((Jo.dataS L k).map by8).toArray 260)); (have A4 := alloc_facts V3 (.cells ((Jo.dataS L k).map by8).toArray 260)); generalize (V3.alloc (.cells ((Jo.dataS L k).map by8).toArray 260)) = V4 at *; (have hown4 := own_far (w' := V4) hown (fun q hq => by have := hpos q hq; have := (hown.lt q hq).2; rw [A4.2.1 q (by omega), hk3 q (by omega) (by omega)])))
       | (have _q := K3.out; clear _q K3; gi_at_builtin; (refine wpListIn_append_own_at _ rfl _ _ 233 rfl Z.heap.size 260 i0 (secV zsec) 32 32 Tryz.underlying233 hi hz0 hz1' hz2 (by rfl) (by decide) _ _ _ rfl hown4 ⟨V3.heap.size, 0, none⟩ 1 1 ((Jo.dataS L k).map by8) rfl (by simp [hds]) (news_sec n4) (one8 _) (by unfold maxLen; omega) (by omega) (by rw [A4.1]; omega) ?_; intro v' w5 hown5 hgrow5 hnil5 hat5; obtain ⟨a5, cap5, rfl⟩ := own_shape6 hown5; (have N5 := HG.out.next (R := Rr) (Rb := Rb) (V4 := V4) hpos (fun q h1 h2 => by rw [A4.2.1 q (by omega)]; exact hk3 q h1 h2) (by rw [A4.2.1 _ (by omega)]; exact hb3) (by rw [A4.1]; omega) ⟨A4.2.2.1.trans ho3.1, A4.2.2.2.1.trans ho3.2.1, A4.2.2.2.2.trans ho3.2.2⟩ hown5 hgrow5 hat5); (have b5 : w5.heap[Z.heap.size + 1]? = some (.cells #[v] 233 (0, 0)) := by rw [hgrow5.block _ (by rw [A4.1]; omega) (fun e => by have := hpos _ e.symm; omega), A4.2.1 _ (by omega)]; exact hv3); (have c5 := cell_box b5); (have f5 := frozen_box b5))))
   · refine ⟨q1.trans (hB1.mono (by omega)), hz1, ⟨_, by rw [hB1.block _ (by omega)]; exact q2, own_keep q3 (Out.of (S := fun _ => False) hB1) (fun _ _ h => h), fun q e => by cases e; exact .inl rfl⟩, by rw [hB1.block _ (by omega)]; exact q4, by rw [hB1.block _ (by omega)]; exact q5, hD1, hL1⟩
   · rintro e V ⟨he, hG⟩
     exact ⟨he, hG.2.2.2.2.2.2, hG.2.2.2.2.2.1, _, hG⟩
 · rintro W' o ⟨R, hG⟩ hD hl
   rw [hsz] at hD hl ⊢
   obtain ⟨g1, g2, ⟨v, g3, g4, g5⟩, g6, g7, g8, g9⟩ := hG
   have hD2 : (W'.putObj (Z.heap.size + 4 + 1) o).heap[Z.heap.size + 4]? = some (.deferred (some [])) := (World.putObj_heap_other (by omega)).trans hD
   have hv2 : (W'.putObj (Z.heap.size + 4 + 1) o).heap[Z.heap.size + 1]? = some (.cells #[v] 233 (0, 0)) := (World.putObj_heap_other (by omega)).trans g3
   have hown2 : (W'.putObj (Z.heap.size + 4 + 1) o).ownsRow Z.heap.size 260 32 v (Jo.many L.length + 1) (scells (F :: Jo.dataL L (Jo.many L.length))) := own_far g4 (fun q hq => World.putObj_heap_other (by have := g5 q hq; omega))
   have hB2 : Below Z.heap.size Z (W'.putObj (Z.heap.size + 4 + 1) o) := g1.trans ⟨rfl, rfl, rfl, by simp, fun q hq => World.putObj_heap_other (by omega)⟩
   have hz2 : Z.heap.size + 6 ≤ (W'.putObj (Z.heap.size + 4 + 1) o).heap.size := by simp; omega
   clear g1 g2 g3 g4 g6 g7 g8 g9 hD hl
   generalize W'.putObj (Z.heap.size + 4 + 1) o = W2 at *
   have c0 := cell_box hv2
   have hLS := (Jo.last_sct t n).1
   obtain ⟨i0, hi, hz0, hz1', hz2'⟩ := infoSec
   have hmk := Jo.many_le L.length
   obtain ⟨X, hX⟩ : ∃ X, X = ((Jo.lastS t n).map by8).toArray := ⟨_, rfl⟩
   have hXs : X.size = 32 := by rw [hX]; simp [hLS]
   have hXf := fun Y hY => fill_sec X Y hXs hY
   clear zz zn
   have LC := fun w => lastSector_c t n w ht hn
   unfold secV at LC
   rw [← hX] at LC
   have HX := hid hX
   have HLC := hid LC
   clear hX LC
   gi_wp2_with fail
   refine wpIn_wide.2 ?_
   go_region_held3 (fun w' => w'.cell? ⟨Z.heap.size + 1, 0, none⟩ = some v) (first | exact cell_box K8 | exact cell_box K7 | exact cell_box K6 | go_keep)
     (first
       | (go_at_call 256; refine (HLC.out _).mono ?_; rintro e w6 ⟨rfl, hb6⟩; (have K6 : w6.heap[Z.heap.size + 1]? = some (.cells #[v] 233 (0, 0)) := by rw [hb6.block _ (by show _ < W2.heap.size; omega)]; exact hv2); (have B6 : Below W2.heap.size W2 w6 := ((Below.refl _ W2).drew).trans hb6); (have n7 := news_X (heap_alloc_new w6 (.cells X 260)) HX.out); (have A7 := alloc_facts w6 (.cells X 260)); (have K7 : (w6.alloc (.cells X 260)).heap[Z.heap.size + 1]? = some (.cells #[v] 233 (0, 0)) := by rw [A7.2.1 _ (by have := B6.size; omega)]; exact K6); (have hown7 : (w6.alloc (.cells X 260)).ownsRow Z.heap.size 260 32 v (Jo.many L.length + 1) (scells (F :: Jo.dataL L (Jo.many L.length))) := own_far hown2 (fun q hq => by have := (hown2.lt q hq).2; rw [A7.2.1 q (by have := B6.size; omega), B6.block q (by omega)])))
       | (refine step_append _ (by rfl) _ _ 233 (by rfl) Z.heap.size 260 i0 (secV zsec) 32 32 Tryz.underlying233 hi hz0 hz1' hz2' (by rfl) (by decide) _ _ _ (by rfl) hown7 ⟨w6.heap.size, 0, none⟩ 1 1 ((Jo.lastS t n).map by8) (by rfl) (by simp [hLS]) n7 (one8 _) (by unfold maxLen; omega) (by omega) (by rw [A7.1]; have := B6.size; omega) ?_; intro v8 w8 hown8 hgrow8; (have K8 : w8.heap[Z.heap.size + 1]? = some (.cells #[v] 233 (0, 0)) := by rw [hgrow8.block _ (by rw [A7.1]; have := B6.size; omega) (fun e => by have := g5 _ e.symm; omega)]; exact K7); obtain ⟨a8, cap8, rfl⟩ := own_shape6 hown8))
   gi_wp2
   have B8 : Below Z.heap.size Z w8 := below_grown ((hB2.trans (B6.mono (by omega))).trans (alloc_below A7 (by have := B6.size; omega))) hown7 (Nat.le_refl _) (by rw [A7.1]; have := B6.size; omega) hgrow8
   have hD8 : w8.heap[Z.heap.size + 4]? = some (.deferred (some [])) := by
     rw [hgrow8.block _ (by rw [A7.1]; have := B6.size; omega) (fun e => by have := g5 _ e.symm; omega), A7.2.1 _ (by have := B6.size; omega), B6.block _ (by omega)]; exact hD2
   refine ⟨by simp, .inl ⟨_, _, rfl, run_takeDeferred hD8, ?_⟩⟩
   refine ⟨_, results_tmp rfl _ _ _, _, rfl, ?_, ?_⟩
   · have e : scells (Jo.laid g t n) = scells (F :: Jo.dataL L (Jo.many L.length)) ++ (Jo.lastS t n).map by8 := by
       rw [← scells_snoc, HF.out]
       unfold Jo.laid
       rw [hLd, hgl]
       rfl
     have e2 : (Jo.laid g t n).length = Jo.many L.length + 1 + 1 := by rw [Jo.laid_len, hLd]; unfold Jo.secsOf; omega
     rw [e, e2]
     have hZw : w.heap.size ≤ Z.heap.size := Nat.le_trans hb1.size hbZ.size
     refine ⟨hown8.1, ?_⟩
     rcases hown8.2 with h | ⟨q, cap', cur, e1, e2', e3, e4⟩
     · exact .inl h
     · refine .inr ⟨q, cap', cur, e1, by omega, ?_, e4⟩
       have hne : q ≠ Z.heap.size + 4 := fun e => by rw [e, hD8] at e3; cases e3
       rw [World.putObj_heap_other hne]; exact e3
   · exact (hb1.trans (hbZ.mono hb1.size)).trans ((B8.mono (Nat.le_trans hb1.size hbZ.size)).trans ⟨rfl, rfl, rfl, by simp, fun q hq => World.putObj_heap_other (by have := hb1.size; have := hbZ.size; omega)⟩)
end Go.Proofs.YtfmghbennahlfaaGreat
namespace Go.Proofs.YtfmghbennahlfaaGreat
open Go.RowKit Go.ChangeShapes Go.WideShapes Go.ChangeAt Go.Maps
set_option linter.unusedVariables false
set_option linter.unusedSimpArgs false
def IsSS (w : World) (a : Option Addr) (n : Nat) (ss : List (List Int)) : Prop :=
 ss.length = n ∧ n ≤ 100000 ∧ (∀ s ∈ ss, Jo.Sct s) ∧ (0 < n → ∃ b off, a = some ⟨b, off, none⟩ ∧ ∀ i, i < n → w.rangeAt b (off + i * 32) ((ss.getD i []).map by8))
theorem range_later {w w' : World} {b off : Nat} {l : List Value} (h : w.rangeAt b off l) (hb : Below w.heap.size w w') : w'.rangeAt b off l := fun j v hv => cell_later hb (h j v hv)
theorem IsSS.later {w w' : World} {a : Option Addr} {n : Nat} {ss : List (List Int)} (h : IsSS w a n ss) (hb : Below w.heap.size w w') : IsSS w' a n ss := by
 obtain ⟨h1, h2, h3, h4⟩ := h
 refine ⟨h1, h2, h3, fun hp => ?_⟩
 obtain ⟨b, off, e, hc⟩ := h4 hp
 exact ⟨b, off, e, fun i hi => range_later (hc i hi) hb⟩
theorem IsSS.at {w : World} {b off n : Nat} {ss : List (List Int)} (h : IsSS w (some ⟨b, off, none⟩) n ss) (i : Nat) (hi : i < n) : w.rangeAt b (off + i * 32) ((ss.getD i []).map by8) ∧ Jo.Sct (ss.getD i []) := by
 obtain ⟨h1, h2, h3, h4⟩ := h
 obtain ⟨b', off', e, hc⟩ := h4 (by omega)
 cases e
 exact ⟨hc i hi, h3 _ (by rw [List.getD, List.getElem?_eq_getElem (by omega)]; exact List.getElem_mem (by omega))⟩
theorem IsSS.sub {w : World} {b off n : Nat} {ss : List (List Int)} (h : IsSS w (some ⟨b, off, none⟩) n ss) (i m : Nat) (him : i + m ≤ n) : IsSS w (some ⟨b, off + i * 32, none⟩) m ((ss.drop i).take m) := by
 have h0 := h
 obtain ⟨h1, h2, h3, h4⟩ := h
 refine ⟨by simp; omega, by omega, fun s hs => h3 s (List.mem_of_mem_drop (List.mem_of_mem_take hs)), fun hp => ⟨b, off + i * 32, rfl, fun j hj => ?_⟩⟩
 have e : ((ss.drop i).take m).getD j [] = ss.getD (i + j) [] := by simp [List.getD, List.getElem?_take, hj, List.getElem?_drop]
 rw [e, show off + i * 32 + j * 32 = off + (i + j) * 32 by omega]
 exact (h0.at (i + j) (by omega)).1
theorem scells_get {ss : List (List Int)} (h : ∀ s ∈ ss, s.length = 32) : ∀ i, i < ss.length → ∀ j, j < 32 → (scells ss)[i * 32 + j]? = ((ss.getD i []).map by8)[j]? := by
 induction ss with
 | nil => intro i hi; simp at hi
 | cons s ss ih =>
   intro i hi j hj
   have h1 := h s (by simp)
   have e : scells (s :: ss) = s.map by8 ++ scells ss := rfl
   rw [e]
   cases i with
   | zero => rw [List.getElem?_append_left (by simp [h1]; omega)]; simp
   | succ i =>
     rw [List.getElem?_append_right (by simp [h1]; omega)]
     have := ih (fun u hu => h u (by simp [hu])) i (by simpa using hi) j hj
     simp only [List.length_map, h1]
     rw [show (i + 1) * 32 + j - 32 = i * 32 + j by omega, this]
     simp
theorem own_isSS {w : World} {base : Nat} {v : Value} {ss : List (List Int)} (h : w.ownsRow base 260 32 v ss.length (scells ss)) (hs : ∀ s ∈ ss, Jo.Sct s) (hm : ss.length ≤ 100000) : ∃ a cap, v = .slice a ss.length cap ∧ IsSS w a ss.length ss ∧ ss.length ≤ cap ∧ (∀ q, a = some q → base ≤ q.block ∧ q.block < w.heap.size) := by
 have hlt := h.lt
 rcases h with ⟨hl, ⟨rfl, hn⟩ | ⟨g, cap, cur, rfl, hg, hbk, hnc, hcm, hcs, ht⟩⟩
 · exact ⟨none, 0, by rw [hn], ⟨rfl, hm, hs, fun hp => by omega⟩, by omega, fun q e => by cases e⟩
 · refine ⟨some ⟨g, 0, none⟩, cap, rfl, ⟨rfl, hm, hs, fun hp => ⟨g, 0, rfl, fun i hi => ?_⟩⟩, hnc, fun q e => by cases e; exact hlt g rfl⟩
   intro j v hv
   have hj : j < 32 := by
     have h1 := (List.getElem?_eq_some_iff.1 hv).1
     have h2 := (hs (ss.getD i []) (by rw [List.getD, List.getElem?_eq_getElem hi]; exact List.getElem_mem hi)).1
     rw [List.length_map, h2] at h1; exact h1
   rw [cell_of_row w g _ cur 260 (0, 0) hbk]
   have e1 : (cur.toList.take (ss.length * 32))[i * 32 + j]? = (scells ss)[i * 32 + j]? := by rw [ht]
   rw [List.getElem?_take, if_pos (by omega)] at e1
   rw [Nat.zero_add, ← Array.getElem?_toList, e1, scells_get (fun s h => (hs s h).1) i hi j hj]
   exact hv
theorem secEqIn (w : World) {s u : Sec} (hs : IsSec s) (hu : IsSec u) : (Op.equalIn 10000 260 (.agg (s.map by8).toArray) (.agg (u.map by8).toArray)).run Tryz.prog w = .ok (s == u) w := by
 have e4 := secEq (P := Tryz.prog) w 260 5 Tryz.underlying260 Tryz.underlying5 size8 hs hu
 unfold secV at e4
 rw [run_eql_struct] at e4
 cases hR : (Op.equalIn 10000 260 (.agg (s.map by8).toArray) (.agg (u.map by8).toArray)).run Tryz.prog w with
 | ok b w' =>
   rw [hR] at e4
   simp [Result.andThen] at e4
   rw [e4.1, e4.2]
 | halt h w' =>
   rw [hR] at e4
   simp [Result.andThen] at e4
theorem qload {o : Oper} {a : Act} {C : World → Prop} {w : World} {v : Value} (x : Operand) (T : TypeId) (p : Value) (hop : o.op = .load T x) (hx : a.eval x = p) (hl : (Instr.loadAt T p).run Tryz.prog w = .ok v w) (hC : C w) : o.quietAt Tryz.prog a C w v := by
 unfold Oper.quietAt
 simp only [execOp, hop, hx, Sem.run_bind, hl, Result.andThen, Sem.run_pure]
 exact ⟨rfl, rfl⟩
theorem secNeq (w : World) {s u : Sec} (hs : IsSec s) (hu : IsSec u) : (binOp .neq 260 (secV s) (secV u)).run Tryz.prog w = .ok (.bool (!(s == u))) w := by
 unfold secV
 rw [run_neq_struct, secEqIn w hs hu]
 rfl
theorem qneq {o : Oper} {a : Act} {C : World → Prop} {w : World} (x y : Operand) (t : TypeId) (s u : Sec) (hop : o.op = .binOp .neq 260 x y t) (hx : a.eval x = secV s) (hy : a.eval y = secV u) (hs : IsSec s) (hu : IsSec u) (b : Bool) (hb : (s == u) = b) (hC : C w) : o.quietAt Tryz.prog a C w (.bool (!b)) := by
 have e1 := secNeq w hs hu
 have e2 : (eqGuard .neq 260 x y (secV s) (secV u)).run Tryz.prog w = .ok () w := run_eqGuard_agg w .neq 260 x y _ _ guardS
 unfold Oper.quietAt
 simp only [execOp, hop, hx, hy, Sem.run_bind, e1, e2, Result.andThen, Sem.run_pure, hb]
 exact ⟨rfl, rfl⟩
theorem qsec {w : World} {b o : Nat} {s : List Int} (h : w.rangeAt b o (s.map by8)) (hs : s.length = 32) : (Instr.loadAt 260 (.pointer (some ⟨b, o, none⟩))).run Tryz.prog w = .ok (secV s) w :=
 run_loadAt_mid w b o 260 (s.map by8) _ h Tryz.underlying260 rfl (by rw [sizeS]; simp [hs])
theorem sct_sec {s : List Int} (h : Jo.Sct s) : IsSec s := ⟨h.1, h.2⟩
theorem take_eq_snoc {A B : List (List Int)} {k : Nat} (h : A.take k = B.take k) (hA : k < A.length) (hB : k < B.length) (e : A.getD k [] = B.getD k []) : A.take (k + 1) = B.take (k + 1) := by
 rw [List.take_succ_eq_append_getElem hA, List.take_succ_eq_append_getElem hB, h]
 simp [List.getD, hA, hB] at e
 rw [e]
set_option maxRecDepth 20000 in
set_option maxHeartbeats 2000000 in
theorem equal_c (b off n cap : Nat) (b' off' n' cap' : Nat) (ss tt : List (List Int)) (w : World) (h : IsSS w (some ⟨b, off, none⟩) n ss) (h' : IsSS w (some ⟨b', off', none⟩) n' tt) :
   Calls Tryz.prog 286 #[.slice (some ⟨b, off, none⟩) n cap, .slice (some ⟨b', off', none⟩) n' cap'] w fun e w' => e = .returned (.bool (ss == tt)) ∧ Below w.heap.size w w' := by
 have l1 := h.1
 have l2 := h'.1
 have m1 := h.2.1
 have m2 := h'.2.1
 by_cases hn : n = n'
 · subst hn
   have H := hid h
   have H' := hid h'
   have L1 := hid l1
   have L2 := hid l2
   clear h h' l1 l2
   go_enter Tryz.func286, Tryz.ntmps286
   go_wp2
   go_loopw [13] (fun i wr => ∃ k : Nat, k ≤ n ∧ i = .int .i64 k ∧ ss.take k = tt.take k ∧ Below w.heap.size w wr) (fun i _ => n - (intOf i).toNat)
   case atStart => exact ⟨0, Nat.zero_le _, rfl, rfl, Below.refl _ _⟩
   case round =>
     obtain ⟨k, hk, rfl, heq, hB⟩ := hrel
     have HE := hid heq
     have HB := hid hB
     clear heq hB
     by_cases hlt : k < n
     · obtain ⟨r1, s1⟩ := (H.out.later HB.out).at k hlt
       obtain ⟨r2, s2⟩ := (H'.out.later HB.out).at k hlt
       have hsn := hid (fun e => take_eq_snoc HE.out (by rw [L1.out]; exact hlt) (by rw [L2.out]; exact hlt) e)
       have hne : Hid (ss.getD k [] ≠ tt.getD k [] → ss ≠ tt) := fun hne e => hne (by rw [e])
       have R1 := hid r1
       have R2 := hid r2
       have S1 := hid s1
       have S2 := hid s2
       clear r1 r2 s1 s2
       generalize ss.getD k [] = S at *
       generalize tt.getD k [] = T at *
       cases hST : (S == T) with
       | true =>
         have HST := hid hST
         clear hST
         go_wp2_with fail
         refine wp_region_class (by kernel_rfl) (by kernel_rfl) ?_
         repeat (first
           | go_big_quiet_skip
           | (go_big_quiet_want
              apply quiet_by
              · intro w1 hw1
                exact qload _ 260 _ rfl rfl (qsec (range_later R1.out hw1) S1.out.1) hw1
              · go_simp; rfl
              go_big_quiet_on)
           | (go_big_quiet_want
              apply quiet_by
              · intro w1 hw1
                exact qload _ 260 _ rfl rfl (qsec (range_later R2.out hw1) S2.out.1) hw1
              · go_simp; rfl
              go_big_quiet_on)
           | (go_big_quiet_want
              apply quiet_by
              · intro w1 hw1
                exact qneq _ _ _ S T rfl rfl rfl (sct_sec S1.out) (sct_sec S2.out) _ HST.out hw1
              · go_simp; rfl
              go_big_quiet_on)
           | (go_big_quiet_want
              apply quiet_by
              · intro w1 hw1
                go_simp
                rfl
              · go_simp; rfl
              go_big_quiet_on))
         refine wpQuiet_nil ?_
         intro w12 hw12
         go_wp2
         go_roundw
         case rel => exact ⟨k + 1, by omega, by go_num, hsn.out (by simpa using HST.out), HB.out.trans (hw12.mono HB.out.size)⟩
         case measure => simp [intOf]; omega
       | false =>
         have HN := hid (hne.out (by simpa using hST))
         have HST := hid hST
         clear hST
         go_wp2_with fail
         refine wp_region_class (by kernel_rfl) (by kernel_rfl) ?_
         repeat (first
           | go_big_quiet_skip
           | (go_big_quiet_want
              apply quiet_by
              · intro w1 hw1
                exact qload _ 260 _ rfl rfl (qsec (range_later R1.out hw1) S1.out.1) hw1
              · go_simp; rfl
              go_big_quiet_on)
           | (go_big_quiet_want
              apply quiet_by
              · intro w1 hw1
                exact qload _ 260 _ rfl rfl (qsec (range_later R2.out hw1) S2.out.1) hw1
              · go_simp; rfl
              go_big_quiet_on)
           | (go_big_quiet_want
              apply quiet_by
              · intro w1 hw1
                exact qneq _ _ _ S T rfl rfl rfl (sct_sec S1.out) (sct_sec S2.out) _ HST.out hw1
              · go_simp; rfl
              go_big_quiet_on)
           | (go_big_quiet_want
              apply quiet_by
              · intro w1 hw1
                go_simp
                rfl
              · go_simp; rfl
              go_big_quiet_on))
         refine wpQuiet_nil ?_
         intro w12 hw12
         go_wp2
         go_ret
         exact ⟨ret_bool (by have := HN.out; simp [this]), HB.out.trans (hw12.mono HB.out.size)⟩
     · have e : ss = tt := by
         have e1 : ss.take k = ss := List.take_of_length_le (by rw [L1.out]; omega)
         have e2 : tt.take k = tt := List.take_of_length_le (by rw [L2.out]; omega)
         rw [← e1, ← e2]; exact HE.out
       have E := hid e
       clear e
       go_wp2
       go_ret
       exact ⟨ret_bool (by rw [E.out]; simp), HB.out⟩
 · have hn' : ((n : Int) == (n' : Int)) = false := by simp; omega
   have hn2 : ¬ (n : Int) = n' := by omega
   have E : Hid ((ss == tt) = false) := by
     show _ = _
     simp only [beq_eq_false_iff_ne]
     intro e; apply hn; rw [← l1, ← l2, e]
   clear h h' l1 l2
   go_enter Tryz.func286, Tryz.ntmps286
   go_wp2
   go_ret
   exact ⟨ret_bool E.out.symm, Below.refl _ _⟩
def flatL (ss : List (List Int)) : List Int := (ss.map (List.drop 1)).flatten
theorem flatL_take {ss : List (List Int)} {k : Nat} (h : k < ss.length) : flatL (ss.take (k + 1)) = flatL (ss.take k) ++ (ss.getD k []).drop 1 := by
 unfold flatL; rw [List.take_succ_eq_append_getElem h, List.map_append, List.flatten_append]; simp [List.getD, h]
theorem flatL_len {ss : List (List Int)} (h : ∀ s ∈ ss, Jo.Sct s) : (flatL ss).length = 31 * ss.length := by
 induction ss with
 | nil => rfl
 | cons s ss ih =>
   have h1 := (h s (by simp)).1
   have h2 := ih fun u hu => h u (by simp [hu])
   unfold flatL at h2 ⊢
   simp only [List.map_cons, List.flatten_cons, List.length_append, List.length_drop, h1, h2, List.length_cons]
   omega
theorem flatL_bytes {ss : List (List Int)} (h : ∀ s ∈ ss, Jo.Sct s) : Jo.Bytes (flatL ss) := Jo.bytes_flat fun l hl => by
 obtain ⟨u, hu, rfl⟩ := List.mem_map.1 hl; exact Jo.bytes_drop (h u hu).2 _
set_option maxRecDepth 20000 in
set_option maxHeartbeats 2000000 in
theorem readLoad_c (a : Option Addr) (n cap len : Nat) (ss : List (List Int)) (w : World) (h : IsSS w a n ss) (hl : len ≤ 31 * n) (hn : n ≤ 5000) :
   Calls Tryz.prog 285 #[.slice a n cap, .int .i64 len] w fun e w' => ∃ la, e = .returned (.slice la len len) ∧ IsB w' la len (Jo.readL ss len) ∧ (la = none → len = 0) ∧ Below w.heap.size w w' := by
 have H := hid h
 have L1 := hid h.1
 have S3 := hid h.2.2.1
 obtain ⟨i0, hi, hz0, hz1, hz2⟩ := info_parts8
 clear h
 have zz := zlit
 go_enter Tryz.func285, Tryz.ntmps285
 go_wp2_with (at_make; refine wpList_make_own _ rfl _ _ 37 rfl w.heap.size 5 i0 _ 1 Tryz.underlying37 hi hz0 hz1 _ _ _ (31 * n) rfl rfl (by push_cast; omega) (by rw [hz2]; omega) (by unfold maxLen; omega) (Nat.le_refl _) ?_; intro w1 hown0 hgr0)
 have hB0 : Below w.heap.size w w1 := (Below.refl _ _).grown hgr0 (Nat.le_refl _) (fun k hk => by cases hk)
 go_loopw [5, 14] (fun v i wr => ∃ k : Nat, k ≤ n ∧ i = .int .i64 k ∧ wr.ownsRow w.heap.size 5 1 v (flatL (ss.take k)).length ((flatL (ss.take k)).map by8) ∧ Below w.heap.size w wr) (fun _ i _ => n - (intOf i).toNat)
 case atStart => exact ⟨0, Nat.zero_le _, rfl, by simpa [flatL] using hown0, hB0⟩
 case round =>
   obtain ⟨k, hk, rfl, hown, hB⟩ := hrel
   have hBz := hB.size
   have hfl := flatL_len (ss := ss.take k) (fun s hs => S3.out s (List.mem_of_mem_take hs))
   have hkl : (ss.take k).length = k := by rw [List.length_take, L1.out]; omega
   rw [hkl] at hfl
   by_cases hlt : k < n
   · obtain ⟨b, off, rfl, _⟩ := H.out.2.2.2 (by omega)
     obtain ⟨r1, s1⟩ := (H.out.later hB).at k hlt
     have HT := hid (flatL_take (ss := ss) (k := k) (by rw [L1.out]; exact hlt))
     have HO1 := hid hown
     have HB1 := hid hB
     have HF := hid hfl
     clear hown hB
     generalize ss.getD k [] = S at *
     have hi1 : (Tryz.prog.info? 260).map (·.size) = some (S.map by8).length := by rw [sizeS]; simp [s1.1]
     have hx1 : Bx (wr.alloc (.cells (S.map by8).toArray 260)) wr.heap.size 260 S := heap_alloc_new wr _
     have hIS : IsB (wr.alloc (.cells (S.map by8).toArray 260)) (some ⟨wr.heap.size, 1, none⟩) 31 (S.drop 1) := by
       have := bx_isB hx1 s1.2 1 31 (by rw [s1.1]; omega) (by decide)
       rwa [List.take_of_length_le (by simp [s1.1])] at this
     have hown1 : (wr.alloc (.cells (S.map by8).toArray 260)).ownsRow w.heap.size 5 1 u5 (flatL (ss.take k)).length ((flatL (ss.take k)).map by8) := HO1.out.alloc _
     have hB1 : Below w.heap.size w (wr.alloc (.cells (S.map by8).toArray 260)) := HB1.out.alloc hBz _
     have hz1' : w.heap.size ≤ (wr.alloc (.cells (S.map by8).toArray 260)).heap.size := hB1.size
     have hs32 := s1.1
     clear hx1
     go_wp2_with (first
       | (at_builtin; refine wpList_appendB _ rfl _ _ rfl w.heap.size _ _ _ rfl hown1 (some ⟨wr.heap.size, 1, none⟩) 31 31 (S.drop 1) rfl hIS (fun e => by cases e) (by omega) hz1' ?_; intro v6 w6 hown6 hgrow6)
       | (go_at_call 255; refine (inside_c wr.heap.size _).mono ?_; rintro e w' ⟨rfl, rfl⟩)
       | (refine wpList_load_mid rfl _ _ rfl b (off + k * 32) rfl (S.map by8) _ r1 Tryz.underlying260 rfl hi1 ?_)
       | (refine wpList_storeS _ rfl _ _ _ rfl sizeS _ rfl (by simp) S rfl hs32 _ (by simp; decide) ?_))
     have B6 : Below w.heap.size w w6 := below_grown hB1 hown1 (Nat.le_refl _) hz1' hgrow6
     obtain ⟨a6, c6, rfl⟩ := own_shape6 hown6
     go_roundw
     case rel => exact ⟨k + 1, by omega, by go_num, by rw [HT.out]; simpa [s1.1] using hown6, B6⟩
     case measure => simp [intOf]; omega
   · have ek : k = n := by omega
     have ht : ss.take k = ss := List.take_of_length_le (by rw [L1.out]; omega)
     rw [ht] at hown hfl
     obtain ⟨la, lc, rfl, hI, hlc, hnil, hin⟩ := own_isB hown (flatL_bytes S3.out)
     have hI2 := hid (hI.front len (by omega))
     have HB := hid hB
     have HN := hid hnil
     clear hown ht hnil hin hI hB
     have q0 : (len : Int) ≤ lc := by omega
     have q1 : (0 : Int) ≤ len := by omega
     have HL := hid hlc
     go_wp2
     go_ret
     exact ⟨la, rfl, hI2.out, fun e => by have h1 := HN.out e; have h2 := HL.out; omega, HB.out⟩
set_option maxRecDepth 20000 in
set_option maxHeartbeats 1000000 in
theorem clone8_c (a : Option Addr) (len cap : Nat) (zs : List Int) (w : World) (h : IsB w a len zs) (hnc : a = none → cap = 0) (hs : len ≤ 900000) :
   Calls Tryz.prog 125 #[.slice a len cap] w fun e w' => ∃ v, e = .returned v ∧ w'.ownsRow w.heap.size 5 1 v zs.length (zs.map by8) ∧ Below w.heap.size w w' := by
 cases a with
 | none =>
   have hl : len = 0 := by
     rcases Nat.eq_zero_or_pos len with h0 | h0
     · exact h0
     · obtain ⟨b, off, e, _⟩ := h.2.2.1 h0; cases e
   subst hl
   have hz : zs = [] := List.eq_nil_of_length_eq_zero h.1
   subst hz
   have hcc := hnc rfl
   subst hcc
   have hq : ∀ w, (binOp .eql 37 (.slice none 0 0) (.slice none 0 0)).run Tryz.prog w = .ok (.bool true) w := fun w => Lib.run_eql_slice_nil w _ _ _ _ _ _ _ Tryz.underlying37
   go_enter Tryz.func125, Tryz.ntmps125
   go_wp2
   go_ret
   exact ⟨_, rfl, World.ownsRow_nil w w.heap.size 5 1, Below.refl _ _⟩
 | some ad =>
   have hI1 := h.later ((Below.refl _ w).alloc (Nat.le_refl _) (.cells #[] 5))
   have hown1 : (w.alloc (.cells #[] 5)).ownsRow w.heap.size 5 1 (.slice (some ⟨w.heap.size, 0, none⟩) 0 0) 0 [] :=
     ⟨rfl, .inr ⟨w.heap.size, 0, #[], rfl, Nat.le_refl _, heap_alloc_new w _, Nat.le_refl _, by decide, rfl, rfl⟩⟩
   have hl := h.1
   have hq : ∀ w, (binOp .eql 37 (.slice (some ad) len cap) (.slice none 0 0)).run Tryz.prog w = .ok (.bool false) w := fun w => Lib.run_eql_slice_nil w _ _ _ _ _ _ _ Tryz.underlying37
   go_enter Tryz.func125, Tryz.ntmps125
   go_wp2_with (at_builtin; refine wpList_appendB _ rfl _ _ rfl w.heap.size _ _ _ rfl hown1 (some ad) len cap zs rfl hI1 (fun e => by cases e) (by omega) (by simp) ?_; intro v6 w6 hown6 hgrow6)
   have B6 : Below w.heap.size w w6 := below_grown ((Below.refl _ w).alloc (Nat.le_refl _) (.cells #[] 5)) hown1 (Nat.le_refl _) (by simp) hgrow6
   obtain ⟨a6, c6, rfl⟩ := own_shape6 hown6
   go_ret
   exact ⟨_, rfl, by simpa [hl] using hown6, B6⟩
def PG (B : Nat) (w : World) (v : Value) (gs : Jo.Gr) : Prop :=
 ∃ vals : List Value, w.ownsRow B 37 1 v gs.length vals ∧ ∀ i, i < gs.length → ∃ u, vals[i]? = some u ∧ w.ownsRow B 5 1 u (gs.getD i []).length ((gs.getD i []).map by8) ∧ Jo.Bytes (gs.getD i [])
theorem own_types {w : World} {B B' e e' sz sz' n n' : Nat} {u v : Value} {xs ys : List Value} (h : w.ownsRow B e sz u n xs) (h' : w.ownsRow B' e' sz' v n' ys) (he : e ≠ e') (q : Nat) (hu : u.ownBlock = some q) : v.ownBlock ≠ some q := by
 intro hv
 rcases h.2 with ⟨rfl, _⟩ | ⟨g, cap, cur, rfl, _, e1, _⟩
 · cases hu
 · rcases h'.2 with ⟨rfl, _⟩ | ⟨g', cap', cur', rfl, _, e2, _⟩
   · cases hv
   · cases hu; cases hv; rw [e1] at e2; cases e2; exact he rfl
theorem PG.nil (B : Nat) (w : World) : PG B w (.slice none 0 0) [] := ⟨[], World.ownsRow_nil w B 37 1, fun i hi => by simp at hi⟩
theorem PG.later {B : Nat} {w w' : World} {v : Value} {gs : Jo.Gr} (h : PG B w v gs) (hb : Below w.heap.size w w') : PG B w' v gs := by
 obtain ⟨vals, h1, h2⟩ := h
 refine ⟨vals, own_keep h1 (Out.of (S := fun _ => False) hb) (fun _ _ h => h), fun i hi => ?_⟩
 obtain ⟨u, e1, e2, e3⟩ := h2 i hi
 exact ⟨u, e1, own_keep e2 (Out.of (S := fun _ => False) hb) (fun _ _ h => h), e3⟩
theorem PG.snoc {B : Nat} {w w' : World} {v v' u : Value} {gs : Jo.Gr} {vals : List Value} {p : List Int} (hv : w.ownsRow B 37 1 v gs.length vals)
   (h2 : ∀ i, i < gs.length → ∃ u, vals[i]? = some u ∧ w.ownsRow B 5 1 u (gs.getD i []).length ((gs.getD i []).map by8) ∧ Jo.Bytes (gs.getD i []))
   (hu : w.ownsRow B 5 1 u p.length (p.map by8)) (hp : Jo.Bytes p) (hg : w.grownBy w' v.ownBlock) (hown : w'.ownsRow B 37 1 v' (gs.length + 1) (vals ++ [u])) : PG B w' v' (gs ++ [p]) := by
 have hl : vals.length = gs.length := by simpa using hv.1
 have far : ∀ {u : Value} {z : List Int}, w.ownsRow B 5 1 u z.length (z.map by8) → w'.ownsRow B 5 1 u z.length (z.map by8) := fun {u z} hz =>
   own_far hz fun k hk => hg.block k (hz.lt k hk).2 (fun e => own_types hz hv (by decide) k hk e.symm)
 refine ⟨vals ++ [u], by simpa using hown, fun i hi => ?_⟩
 by_cases hlt : i < gs.length
 · obtain ⟨x, e1, e2, e3⟩ := h2 i hlt
   have e : (gs ++ [p]).getD i [] = gs.getD i [] := by simp [List.getD, List.getElem?_append_left hlt]
   rw [e]
   exact ⟨x, by rw [List.getElem?_append_left (by omega)]; exact e1, far e2, e3⟩
 · have ei : i = gs.length := by simp at hi; omega
   subst ei
   have e : (gs ++ [p]).getD gs.length [] = p := by simp [List.getD]
   rw [e]
   exact ⟨u, by rw [← hl]; simp, far hu, hp⟩
theorem PG.isG0 {B : Nat} {w : World} {v : Value} {gs : Jo.Gr} (h : PG B w v gs) (hm : gs.length ≤ 100000) : ∃ a cap, v = .slice a gs.length cap ∧ IsG0 w a gs.length gs := by
 obtain ⟨vals, h1, h2⟩ := h
 rcases h1.2 with ⟨rfl, hn⟩ | ⟨g, cap, cur, rfl, hg, hbk, hnc, hcm, hcs, ht⟩
 · exact ⟨none, 0, by rw [hn], ⟨rfl, by unfold maxLen; omega, fun hp => by omega⟩⟩
 · refine ⟨some ⟨g, 0, none⟩, cap, rfl, ⟨rfl, by unfold maxLen; omega, fun hp => ⟨g, 0, rfl, fun i hi => ?_⟩⟩⟩
   obtain ⟨u, e1, e2, e3⟩ := h2 i hi
   obtain ⟨pa, pc, rfl, k1, k2, k3, k4⟩ := own_isB e2 e3
   refine ⟨pa, pc, ?_, k1, k2, k3⟩
   rw [cell_of_row w g _ cur 37 (0, 0) hbk]
   have e4 : (cur.toList.take (gs.length * 1))[i]? = vals[i]? := by rw [ht]
   rw [List.getElem?_take, if_pos (by omega)] at e4
   rw [Nat.zero_add, ← Array.getElem?_toList, e4, e1]
end Go.Proofs.YtfmghbennahlfaaGreat
