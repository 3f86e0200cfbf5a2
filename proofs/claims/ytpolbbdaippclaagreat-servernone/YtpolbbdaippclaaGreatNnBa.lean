/-
  groupSectors of the package journal: a group's sectors, one behind the other.
-/
import Derived.Test.YtpolbbdaippclaaGreatNnAz
namespace Go.Proofs.YtpolbbdaippclaaGreat
open Go.RowKit Go.ChangeShapes Go.WideShapes Go.ChangeAt Go.Maps Go.Shelf
attribute [local go_sem] Oper.semAt_some
set_option linter.unusedVariables false
set_option linter.unusedSimpArgs false
def GI (Z : World) (F : List Int) (L : List Int) (b off lcap : Nat) (R : Obj) (k : Nat) (W : World) : Prop :=
 Below Z.heap.size Z W ∧ Z.heap.size + 6 ≤ W.heap.size ∧
 (∃ v, W.heap[Z.heap.size + 1]? = some (.cells #[v] 152 (0, 0)) ∧ W.ownsRow Z.heap.size 134 32 v (k + 1) (scells (F :: Jo.dataL L k)) ∧ ∀ q, v.ownBlock = some q → q = Z.heap.size ∨ Z.heap.size + 6 ≤ q) ∧
 W.heap[Z.heap.size + 2]? = some (.cells #[.slice (some ⟨b, off, none⟩) L.length lcap] 49 (0, 0)) ∧ W.heap[Z.heap.size + 3]? = some (.cells #[.int .i64 31] 3 (0, 0)) ∧
 W.heap[Z.heap.size + 4]? = some (.deferred (some [])) ∧ W.heap[Z.heap.size + 5]? = some R
theorem GI.drew {Z : World} {F L : List Int} {b off lcap : Nat} {R : Obj} {k : Nat} {W : World} (h : GI Z F L b off lcap R k W) : GI Z F L b off lcap R k W.drew :=
 ⟨⟨h.1.os, h.1.tape, h.1.output, h.1.size, h.1.block⟩, h.2⟩
theorem GI.next {Z : World} {F L : List Int} {b off lcap : Nat} {R Rb : Obj} {k : Nat} {V V4 w5 : World} {v : Value} {a5 : Option Addr} {n5 c5 : Nat} (h : GI Z F L b off lcap R k V) (hv : ∀ q, v.ownBlock = some q → q = Z.heap.size ∨ Z.heap.size + 6 ≤ q)
   (h4 : ∀ q, q < V.heap.size → q ≠ Z.heap.size + 5 → V4.heap[q]? = V.heap[q]?) (hb4 : V4.heap[Z.heap.size + 5]? = some Rb) (hz4 : V.heap.size ≤ V4.heap.size) (hos : V4.os = V.os ∧ V4.tape = V.tape ∧ V4.output = V.output)
   (hown : w5.ownsRow Z.heap.size 134 32 (.slice a5 n5 c5) (k + 1 + 1) (scells (F :: Jo.dataL L k) ++ (Jo.dataS L k).map by8)) (hg : V4.grownBy w5 v.ownBlock) (hat : (Value.slice a5 n5 c5).ownBlock = v.ownBlock ∨ (Value.slice a5 n5 c5).ownBlock = some V4.heap.size) :
   (w5.setCell ⟨Z.heap.size + 1, 0, none⟩ (.slice a5 n5 c5)).heap[Z.heap.size + 5]? = some Rb ∧ GI Z F L b off lcap R (k + 1) ((w5.setCell ⟨Z.heap.size + 1, 0, none⟩ (.slice a5 n5 c5)).putObj (Z.heap.size + 5) R) := by
 obtain ⟨g1, g2, ⟨v0, g3, g4, g5⟩, g6, g7, g8, g9⟩ := h
 have hz5 := hg.size
 have k5 : ∀ q, q < V.heap.size → q ≠ Z.heap.size → q < Z.heap.size + 6 → q ≠ Z.heap.size + 5 → w5.heap[q]? = V.heap[q]? := fun q h1 h2 h3 h6 => by
   rw [hg.block q (by omega) (fun e => by have := hv q e.symm; omega), h4 q h1 h6]
 have b5 : w5.heap[Z.heap.size + 5]? = some Rb := by
   rw [hg.block _ (by omega) (fun e => by have := hv _ e.symm; omega)]; exact hb4
 have b1 : w5.heap[Z.heap.size + 1]? = some (.cells #[v0] 152 (0, 0)) := by rw [k5 _ (by omega) (by omega) (by omega) (by omega)]; exact g3
 refine ⟨by rw [heap_setCell_other _ _ _ _ (by simp)]; exact b5, ⟨?_, by simp [World.setCell]; omega, ⟨.slice a5 n5 c5, ?_, ?_, ?_⟩, ?_, ?_, ?_, World.putObj_heap_same (by simp [World.setCell]; omega)⟩⟩
 · refine ⟨hg.os.trans (hos.1.trans g1.os), hg.tape.trans (hos.2.1.trans g1.tape), hg.output.trans (hos.2.2.trans g1.output), by simp [World.setCell]; omega, fun q hq => ?_⟩
   rw [World.putObj_heap_other (by omega), heap_setCell_other _ _ _ _ (by simp only; omega), hg.block q (by omega) (fun e => by have := hv q e.symm; omega), h4 q (by omega) (by omega)]
   exact g1.block q hq
 · rw [World.putObj_heap_other (by omega)]; exact heap_setBox _ b1
 · rw [show k + 1 + 1 = (k + 1) + 1 from rfl, Jo.dataL_snoc, show F :: (Jo.dataL L k ++ [Jo.dataS L k]) = (F :: Jo.dataL L k) ++ [Jo.dataS L k] from rfl, scells_snoc]
   refine ⟨hown.1, ?_⟩
   rcases hown.2 with h | ⟨g, cap, cur, e1, e2, e3, e4⟩
   · exact .inl h
   · have hq : g = Z.heap.size ∨ Z.heap.size + 6 ≤ g := by
       have e5 : (Value.slice a5 n5 c5).ownBlock = some g := by rw [e1]; rfl
       rw [e5] at hat
       rcases hat with h | h
       · exact hv g h.symm
       · have := Option.some.inj h; omega
     exact .inr ⟨g, cap, cur, e1, e2, by rw [World.putObj_heap_other (by omega), heap_setCell_other _ _ _ _ (by simp only; omega)]; exact e3, e4⟩
 · intro q hq
   rcases hat with h | h
   · exact hv q (by rw [← h]; exact hq)
   · rw [hq] at h; have := Option.some.inj h; omega
 · rw [World.putObj_heap_other (by omega), heap_setCell_other _ _ _ _ (by simp), k5 _ (by omega) (by omega) (by omega) (by omega)]; exact g6
 · rw [World.putObj_heap_other (by omega), heap_setCell_other _ _ _ _ (by simp), k5 _ (by omega) (by omega) (by omega) (by omega)]; exact g7
 · rw [World.putObj_heap_other (by omega), heap_setCell_other _ _ _ _ (by simp), k5 _ (by omega) (by omega) (by omega) (by omega)]; exact g8
theorem isB_blk {w w' : World} {b off len : Nat} {zs : List Int} (h : IsB w (some ⟨b, off, none⟩) len zs) (hb : w'.heap[b]? = w.heap[b]?) : IsB w' (some ⟨b, off, none⟩) len zs := by
 obtain ⟨h1, h2, h3, h4⟩ := h
 refine ⟨h1, h2, fun hp => ?_, h4⟩
 obtain ⟨b', off', e, hc⟩ := h3 hp
 cases e
 exact ⟨b, off, rfl, fun i hi => by rw [World.cell?_of_block (a := ⟨b, off + i, none⟩) hb]; exact hc i hi⟩
theorem isB_sub {w : World} {b off len : Nat} {zs : List Int} (h : IsB w (some ⟨b, off, none⟩) len zs) (i m : Nat) (him : i + m ≤ len) : IsB w (some ⟨b, off + i, none⟩) m ((zs.drop i).take m) := by
 obtain ⟨h1, h2, h3, h4⟩ := h
 refine ⟨by rw [List.length_take, List.length_drop]; omega, by omega, fun hp => ?_, fun j => ?_⟩
 · obtain ⟨b', off', e, hc⟩ := h3 (by omega)
   cases e
   refine ⟨b, off + i, rfl, fun j hj => ?_⟩
   rw [Nat.add_assoc, hc (i + j) (by omega)]
   simp [List.getD, List.getElem?_take, hj, List.getElem?_drop]
 · have := h4 (i + j)
   by_cases hj : j < m
   · simpa [List.getD, List.getElem?_take, hj, List.getElem?_drop] using this
   · simp [List.getD, List.getElem?_take, hj]
theorem isB_chunk {w : World} {b off : Nat} {L : List Int} (h : IsB w (some ⟨b, off, none⟩) L.length L) (k : Nat) (hk : 31 * k < L.length) : IsB w (some ⟨b, off + 31 * k, none⟩) (min 31 (L.length - 31 * k)) (Jo.chunk L k) := by
 have h1 := isB_sub h (31 * k) (min 31 (L.length - 31 * k)) (by omega)
 have e : (L.drop (31 * k)).take (min 31 (L.length - 31 * k)) = Jo.chunk L k := by
   unfold Jo.chunk
   by_cases hc : 31 ≤ L.length - 31 * k
   · rw [Nat.min_eq_left hc]
   · rw [Nat.min_eq_right (by omega), List.take_of_length_le (by simp), List.take_of_length_le (by simp; omega)]
 rwa [e] at h1
theorem alloc_facts (w : World) (o : Obj) : (w.alloc o).heap.size = w.heap.size + 1 ∧ (∀ q, q < w.heap.size → (w.alloc o).heap[q]? = w.heap[q]?) ∧ (w.alloc o).os = w.os ∧ (w.alloc o).tape = w.tape ∧ (w.alloc o).output = w.output :=
 ⟨by simp, fun q hq => Below.heap_alloc _ _ _ hq, rfl, rfl, rfl⟩
theorem own_far {w w' : World} {base : Nat} {e : TypeId} {size : Nat} {v : Value} {n : Nat} {xs : List Value} (h : w.ownsRow base e size v n xs) (hS : ∀ k, v.ownBlock = some k → w'.heap[k]? = w.heap[k]?) : w'.ownsRow base e size v n xs := by
 refine ⟨h.1, ?_⟩
 rcases h.2 with h | ⟨g, cap, cur, e1, e2, e3, e4⟩
 · exact .inl h
 · exact .inr ⟨g, cap, cur, e1, e2, by rw [hS g (by rw [e1]; rfl)]; exact e3, e4⟩
theorem alloc_below {w w' : World} {B : Nat} (h : w'.heap.size = w.heap.size + 1 ∧ (∀ q, q < w.heap.size → w'.heap[q]? = w.heap[q]?) ∧ w'.os = w.os ∧ w'.tape = w.tape ∧ w'.output = w.output) (hB : B ≤ w.heap.size) : Below B w w' :=
 ⟨h.2.2.1, h.2.2.2.1, h.2.2.2.2, by omega, fun q hq => h.2.1 q (by omega)⟩
theorem layW0 (Z : World) (F L : List Int) (lb lo lcap : Nat) (hS : F.length = 32) :
   ((((Z.alloc (.cells (F.map by8).toArray 134)).alloc (.cells #[.slice (some ⟨Z.heap.size, 0, none⟩) 1 1] 152)).alloc (.cells #[.slice (some ⟨lb, lo, none⟩) L.length lcap] 49)).alloc (.cells #[.int .i64 31] 3)).heap.size = Z.heap.size + 4 ∧
   Below Z.heap.size Z ((((Z.alloc (.cells (F.map by8).toArray 134)).alloc (.cells #[.slice (some ⟨Z.heap.size, 0, none⟩) 1 1] 152)).alloc (.cells #[.slice (some ⟨lb, lo, none⟩) L.length lcap] 49)).alloc (.cells #[.int .i64 31] 3)) ∧
   ((((Z.alloc (.cells (F.map by8).toArray 134)).alloc (.cells #[.slice (some ⟨Z.heap.size, 0, none⟩) 1 1] 152)).alloc (.cells #[.slice (some ⟨lb, lo, none⟩) L.length lcap] 49)).alloc (.cells #[.int .i64 31] 3)).heap[Z.heap.size + 1]? = some (.cells #[.slice (some ⟨Z.heap.size, 0, none⟩) 1 1] 152 (0, 0)) ∧
   ((((Z.alloc (.cells (F.map by8).toArray 134)).alloc (.cells #[.slice (some ⟨Z.heap.size, 0, none⟩) 1 1] 152)).alloc (.cells #[.slice (some ⟨lb, lo, none⟩) L.length lcap] 49)).alloc (.cells #[.int .i64 31] 3)).ownsRow Z.heap.size 134 32 (.slice (some ⟨Z.heap.size, 0, none⟩) 1 1) (0 + 1) (scells (F :: Jo.dataL L 0)) ∧
   ((((Z.alloc (.cells (F.map by8).toArray 134)).alloc (.cells #[.slice (some ⟨Z.heap.size, 0, none⟩) 1 1] 152)).alloc (.cells #[.slice (some ⟨lb, lo, none⟩) L.length lcap] 49)).alloc (.cells #[.int .i64 31] 3)).heap[Z.heap.size + 2]? = some (.cells #[.slice (some ⟨lb, lo, none⟩) L.length lcap] 49 (0, 0)) ∧
   ((((Z.alloc (.cells (F.map by8).toArray 134)).alloc (.cells #[.slice (some ⟨Z.heap.size, 0, none⟩) 1 1] 152)).alloc (.cells #[.slice (some ⟨lb, lo, none⟩) L.length lcap] 49)).alloc (.cells #[.int .i64 31] 3)).heap[Z.heap.size + 3]? = some (.cells #[.int .i64 31] 3 (0, 0)) := by
 have n0 := heap_alloc_new Z (.cells (F.map by8).toArray 134)
 generalize hA : Z.alloc (.cells (F.map by8).toArray 134) = A at *
 have sA : A.heap.size = Z.heap.size + 1 := by rw [← hA]; simp
 have bA : Below Z.heap.size Z A := by rw [← hA]; exact (Below.refl _ _).alloc (Nat.le_refl _) _
 have n1 := heap_alloc_new A (.cells #[.slice (some ⟨Z.heap.size, 0, none⟩) 1 1] 152)
 have bB : Below A.heap.size A (A.alloc (.cells #[.slice (some ⟨Z.heap.size, 0, none⟩) 1 1] 152)) := (Below.refl _ _).alloc (Nat.le_refl _) _
 have sB : (A.alloc (.cells #[.slice (some ⟨Z.heap.size, 0, none⟩) 1 1] 152)).heap.size = Z.heap.size + 2 := by simp; omega
 generalize A.alloc (.cells #[.slice (some ⟨Z.heap.size, 0, none⟩) 1 1] 152) = B at *
 have n2 := heap_alloc_new B (.cells #[.slice (some ⟨lb, lo, none⟩) L.length lcap] 49)
 have bC : Below B.heap.size B (B.alloc (.cells #[.slice (some ⟨lb, lo, none⟩) L.length lcap] 49)) := (Below.refl _ _).alloc (Nat.le_refl _) _
 have sC : (B.alloc (.cells #[.slice (some ⟨lb, lo, none⟩) L.length lcap] 49)).heap.size = Z.heap.size + 3 := by simp; omega
 generalize B.alloc (.cells #[.slice (some ⟨lb, lo, none⟩) L.length lcap] 49) = C at *
 have n3 := heap_alloc_new C (.cells #[.int .i64 31] 3)
 have bD : Below C.heap.size C (C.alloc (.cells #[.int .i64 31] 3)) := (Below.refl _ _).alloc (Nat.le_refl _) _
 have sD : (C.alloc (.cells #[.int .i64 31] 3)).heap.size = Z.heap.size + 4 := by simp; omega
 generalize C.alloc (.cells #[.int .i64 31] 3) = D at *
 rw [sA] at n1
 rw [sB] at n2
 rw [sC] at n3
 refine ⟨sD, ((bA.trans (bB.mono (by omega))).trans (bC.mono (by omega))).trans (bD.mono (by omega)), ?_, ⟨by simp [scells, Jo.dataL, hS], .inr ⟨Z.heap.size, 1, (F.map by8).toArray, rfl, Nat.le_refl _, ?_, Nat.le_refl _, by unfold maxLen; omega, by simp [hS], ?_⟩⟩, ?_, n3⟩
 · rw [bD.block _ (by omega), bC.block _ (by omega)]; exact n1
 · rw [bD.block _ (by omega), bC.block _ (by omega), bB.block _ (by omega)]; exact n0
 · simp [scells, Jo.dataL, hS, List.take_of_length_le]
 · rw [bD.block _ (by omega)]; exact n2
set_option maxRecDepth 20000 in
set_option maxHeartbeats 4000000 in
theorem groupSectors_c (a : Option Addr) (len cap : Nat) (g : Jo.Gr) (t n : Int) (w : World) (h : IsG0 w a len g) (hok : Jo.okG g = true) (ht : 0 ≤ t ∧ t < 4294967296) (hn : 0 ≤ n ∧ n < 4294967296) :
   Calls Tryz.prog 116 #[.slice a len cap, .int .u32 t, .int .u32 n] w fun e w' => ∃ v, e = .returned v ∧ w'.ownsRow w.heap.size 134 32 v (Jo.laid g t n).length (scells (Jo.laid g t n)) ∧ Below w.heap.size w w' := by
 obtain ⟨o1, o2, o3⟩ := Jo.ok_iff.1 hok
 have hL := Jo.ok_load hok
 have hgl := h.1
 have hby := Jo.bytes_load h.isG.bytes
 have hl8 : (len : Int) ≤ 8 := by omega
 have H := hid h
 have O3 : Hid (∀ j, j < g.length → (g.getD j []).length ≤ 16384) := fun j hj => by have := o3 g[j] (List.getElem_mem hj); simpa [List.getD, hj] using this
 clear h o3
 refine (callsIn_wide (n := 3)).1 ?_
 refine callsIn_of_wp_marks Tryz.func116 rfl trivial ?_ rfl
 simp only [Tryz.ntmps116, List.size_toArray, List.length_cons, List.length_nil, Nat.reduceAdd, Nat.reduceSub, Array.replicate_succ, Array.replicate_zero, List.push_toArray, List.append_toArray, List.nil_append, List.cons_append]
 gi_wp2_with fail
 refine ⟨trivial, (callsIn_wide.2 (loadOf_c a len cap g w H.out o2 O3.out)).mono ?_⟩
 rintro _ w1 ⟨v, rfl, hown1, hb1⟩
 obtain ⟨la, lcap, rfl, hI1, hlc, hnil, hin⟩ := own_isB hown1 hby
 clear hown1
 generalize hLd : Jo.loadF g = L at *
 gi_wp2_with fail
 refine ⟨trivial, (callsIn_wide.2 (firstSector_c t n len L.length _ ht hn (by omega) (by omega))).mono ?_⟩
 rintro _ Z ⟨rfl, hbZ⟩
 obtain ⟨lb, lo, rfl, _⟩ := hI1.2.2.1 (by omega)
 have hS := (Jo.first_sct t n (k := len) (by omega) L.length).1
 obtain ⟨F, hF⟩ : ∃ F, F = Jo.firstS t n len L.length := ⟨_, rfl⟩
 rw [← hF] at hS ⊢
 have HF := hid hF
 clear hF
 have hIZ := hid (hI1.later hbZ)
 have hlbZ : lb < Z.heap.size := Nat.lt_of_lt_of_le (hin _ rfl).2 hbZ.size
 gi_wp2_with (first
   | (refine Rg.wpListIn_run (fun _ => trivial) rfl (by intro c hc; cases hc) (exec_slice1 _ rfl F rfl hS) ?_))
 refine ⟨trivial, (callsIn_wide.2 (chunk_c _ _ _ _)).mono ?_⟩
 rintro _ _ ⟨rfl, rfl⟩
 gi_wp2_with fail
 have hW0 := layW0 Z F L lb lo lcap hS
 generalize ((((Z.alloc (.cells (F.map by8).toArray 134)).alloc (.cells #[.slice (some ⟨Z.heap.size, 0, none⟩) 1 1] 152)).alloc (.cells #[.slice (some ⟨lb, lo, none⟩) L.length lcap] 49)).alloc (.cells #[.int .i64 31] 3)) = W0 at *
 obtain ⟨hsz, q1, q2, q3, q4, q5⟩ := hW0
 have zz := zlit
 have zn : ¬ zsec = [] := by decide
 refine Rg.range_go (gf := 188) (lb := #[.pointer (some ⟨Z.heap.size + 2, 0, none⟩), .pointer (some ⟨Z.heap.size + 2 + 1, 0, none⟩)]) (by first | rfl | simp) (enters_of Tryz.func188 (by kernel_rfl) rfl) (fun W' => ∃ R, GI Z F L lb lo lcap R (Jo.many L.length) W') ?_ ?_
 · intro fn
   generalize hR : Rg.recOf fn _ _ _ _ _ = R
   have h5 : W0.heap.size + 1 = Z.heap.size + 5 := by omega
   have hD1 : ((W0.alloc (.deferred (some []))).alloc (.loop (R .ready))).heap[Z.heap.size + 4]? = some (.deferred (some [])) := by
     rw [Below.heap_alloc _ _ _ (by simp; omega), ← hsz]; exact heap_alloc_new W0 _
   have hL1 : ((W0.alloc (.deferred (some []))).alloc (.loop (R .ready))).heap[Z.heap.size + 5]? = some (.loop (R .ready)) := by
     have := heap_alloc_new (W0.alloc (.deferred (some []))) (.loop (R .ready)); rw [World.size_alloc, h5] at this; exact this
   have hB1 : Below W0.heap.size W0 ((W0.alloc (.deferred (some []))).alloc (.loop (R .ready))) := ((Below.refl _ _).alloc (Nat.le_refl _) _).alloc (by simp) _
   have hz1 : Z.heap.size + 6 ≤ ((W0.alloc (.deferred (some []))).alloc (.loop (R .ready))).heap.size := by simp; omega
   generalize ((W0.alloc (.deferred (some []))).alloc (.loop (R .ready))) = W1 at *
   rw [hsz, show Z.heap.size + 4 + 1 = Z.heap.size + 5 from rfl]
   refine (chunk1_in (Z.heap.size + 5) (Z.heap.size + 2) lb lo L.length lcap (by omega) hlc (GI Z F L lb lo lcap (.loop (R .ready))) (fun k W h => ⟨h.2.2.2.1, h.2.2.2.2.1⟩) (fun k W h => h.drew) ?_ W1 ?_).mono ?_
   · intro k V hk hG
     rw [hsz] at hR
     subst hR
     have hIV : IsB V (some ⟨lb, lo + 31 * k, none⟩) (min 31 (L.length - 31 * k)) (Jo.chunk L k) := isB_chunk (hIZ.out.later hG.1) k hk
     have hcl := Jo.chunk_len L k
     refine Rg.round_go hG.2.2.2.2.2.2 (by rfl) ?_
     gi_wp2
     generalize Obj.loop (Rg.recOf fn _ _ _ _ (Z.heap.size + 4) LoopState.ready) = Rr at *
     generalize Obj.loop (Rg.recOf fn _ _ _ _ (Z.heap.size + 4) LoopState.busy) = Rb at *
     refine ⟨hG.2.2.2.2.2.2, ?_⟩
     have hVz := hG.2.1
     have hp1 : ∀ q, q ≠ Z.heap.size + 5 → (V.putObj (Z.heap.size + 5) Rb).heap[q]? = V.heap[q]? := fun q h => World.putObj_heap_other h
     have hp2 : (V.putObj (Z.heap.size + 5) Rb).heap[Z.heap.size + 5]? = some Rb := World.putObj_heap_same (by omega)
     have hp3 : (V.putObj (Z.heap.size + 5) Rb).heap.size = V.heap.size := by simp
     have hp4 : (V.putObj (Z.heap.size + 5) Rb).os = V.os ∧ (V.putObj (Z.heap.size + 5) Rb).tape = V.tape ∧ (V.putObj (Z.heap.size + 5) Rb).output = V.output := ⟨rfl, rfl, rfl⟩
     generalize V.putObj (Z.heap.size + 5) Rb = V1 at *
     have hIV1 : IsB V1 (some ⟨lb, lo + 31 * k, none⟩) (min 31 (L.length - 31 * k)) (Jo.chunk L k) := isB_blk hIV (hp1 lb (by omega))
     obtain ⟨m, hm⟩ : ∃ m, m = min 31 (L.length - 31 * k) := ⟨_, rfl⟩
     rw [← hm] at hIV1 hcl ⊢
     have hm31 : m ≤ 31 := by omega
     have HIV := hid hIV1
     have HG := hid hG
     clear hm hG hIV hIV1
     gi_wp2_with (first
       | (refine Rg.wpListIn_skip' (fun _ => trivial) rfl (by intro c hc; cases hc) (exec_storeN _ _ rfl _ rfl hp3.symm (markS 68) rfl (by rfl) _ (by simp; decide)) ?_))
     refine ⟨trivial, (CallsIn.inRound _ (callsIn_wide.2 (inside_c V.heap.size _))).mono ?_⟩
     rintro _ _ ⟨rfl, rfl⟩
     obtain ⟨v, hv, hown, hpos⟩ := HG.out.2.2.1
     obtain ⟨i0, hi, hz0, hz1', hz2⟩ := infoSec
     have hmk := Jo.many_le L.length
     have hds := (Jo.data_sct hby k).1
     have hv3 : (V1.alloc (.cells ((Jo.dataS L k).map by8).toArray 134)).heap[Z.heap.size + 1]? = some (.cells #[v] 152 (0, 0)) := by rw [Below.heap_alloc _ _ _ (by omega), hp1 _ (by omega)]; exact hv
     have hb3 : (V1.alloc (.cells ((Jo.dataS L k).map by8).toArray 134)).heap[Z.heap.size + 5]? = some Rb := by rw [Below.heap_alloc _ _ _ (by omega)]; exact hp2
     have hx3 : Bx (V1.alloc (.cells ((Jo.dataS L k).map by8).toArray 134)) V.heap.size 134 (Jo.dataS L k) := by have := heap_alloc_new V1 (.cells ((Jo.dataS L k).map by8).toArray 134); rw [hp3] at this; exact this
     have hk3 : ∀ q, q < V.heap.size → q ≠ Z.heap.size + 5 → (V1.alloc (.cells ((Jo.dataS L k).map by8).toArray 134)).heap[q]? = V.heap[q]? := fun q h1 h2 => by rw [Below.heap_alloc _ _ _ (by omega)]; exact hp1 q h2
     have hz3 : (V1.alloc (.cells ((Jo.dataS L k).map by8).toArray 134)).heap.size = V.heap.size + 1 := by simp; omega
     have ho3 : (V1.alloc (.cells ((Jo.dataS L k).map by8).toArray 134)).os = V.os ∧ (V1.alloc (.cells ((Jo.dataS L k).map by8).toArray 134)).tape = V.tape ∧ (V1.alloc (.cells ((Jo.dataS L k).map by8).toArray 134)).output = V.output := hp4
     have K0 : Hid True := hid trivial
     gi_wp2_with (first
       | (have _q := K0.out; clear _q; refine Rg.wpListIn_run (fun _ => trivial) rfl (by intro c hc; cases hc) (exec_copyD _ _ rfl _ rfl hp3.symm lb (lo + 31 * k) m m L k rfl HIV.out hm31) ?_; generalize (V1.alloc (.cells ((Jo.dataS L k).map by8).toArray 134)) = V3 at *; (have c3 := cell_box hv3); clear K0; (have K1 : Hid True := hid trivial))
       | (have _q := K1.out; clear _q; refine Rg.wpListIn_run (fun _ => trivial) rfl (by intro c hc; cases hc) (exec_loadS _ rfl V.heap.size rfl (Jo.dataS L k) hds 134 hx3) ?_; clear K1; (have K2 : Hid True := hid trivial))
       | (have _q := K2.out; clear _q; refine Rg.wpListIn_run (fun _ => trivial) rfl (by intro c hc; cases hc) (exec_slice1 _ rfl (Jo.dataS L k) rfl hds) ?_; clear K2; (have K3 : Hid True := hid trivial); (have n4 := heap_alloc_new V3 (.cells ((Jo.dataS L k).map by8).toArray 134)); (have A4 := alloc_facts V3 (.cells ((Jo.dataS L k).map by8).toArray 134)); generalize (V3.alloc (.cells ((Jo.dataS L k).map by8).toArray 134)) = V4 at *; (have hown4 := own_far (w' := V4) hown (fun q hq => by have := hpos q hq; have := (hown.lt q hq).2; rw [A4.2.1 q (by omega), hk3 q (by omega) (by omega)])))
       | (have _q := K3.out; clear _q K3; gi_at_builtin; (refine wpListIn_append_own_at _ rfl _ _ 152 rfl Z.heap.size 134 i0 (secV zsec) 32 32 Tryz.underlying152 hi hz0 hz1' hz2 (by rfl) (by decide) _ _ _ rfl hown4 ⟨V3.heap.size, 0, none⟩ 1 1 ((Jo.dataS L k).map by8) rfl (by simp [hds]) (news_sec n4) (one8 _) (by unfold maxLen; omega) (by omega) (by rw [A4.1]; omega) ?_; intro v' w5 hown5 hgrow5 hnil5 hat5; obtain ⟨a5, cap5, rfl⟩ := own_shape6 hown5; (have N5 := HG.out.next (R := Rr) (Rb := Rb) (V4 := V4) hpos (fun q h1 h2 => by rw [A4.2.1 q (by omega)]; exact hk3 q h1 h2) (by rw [A4.2.1 _ (by omega)]; exact hb3) (by rw [A4.1]; omega) ⟨A4.2.2.1.trans ho3.1, A4.2.2.2.1.trans ho3.2.1, A4.2.2.2.2.trans ho3.2.2⟩ hown5 hgrow5 hat5); (have b5 : w5.heap[Z.heap.size + 1]? = some (.cells #[v] 152 (0, 0)) := by rw [hgrow5.block _ (by rw [A4.1]; omega) (fun e => by have := hpos _ e.symm; omega), A4.2.1 _ (by omega)]; exact hv3); (have c5 := cell_box b5); (have f5 := frozen_box b5))))
   · refine ⟨q1.trans (hB1.mono (by omega)), hz1, ⟨_, by rw [hB1.block _ (by omega)]; exact q2, own_keep q3 (Out.of (S := fun _ => False) hB1) (fun _ _ h => h), fun q e => by cases e; exact .inl rfl⟩, by rw [hB1.block _ (by omega)]; exact q4, by rw [hB1.block _ (by omega)]; exact q5, hD1, hL1⟩
   · rintro e V ⟨he, hG⟩
     exact ⟨he, hG.2.2.2.2.2.2, hG.2.2.2.2.2.1, _, hG⟩
 · rintro W' o ⟨R, hG⟩ hD hl
   rw [hsz] at hD hl ⊢
   obtain ⟨g1, g2, ⟨v, g3, g4, g5⟩, g6, g7, g8, g9⟩ := hG
   have hD2 : (W'.putObj (Z.heap.size + 4 + 1) o).heap[Z.heap.size + 4]? = some (.deferred (some [])) := (World.putObj_heap_other (by omega)).trans hD
   have hv2 : (W'.putObj (Z.heap.size + 4 + 1) o).heap[Z.heap.size + 1]? = some (.cells #[v] 152 (0, 0)) := (World.putObj_heap_other (by omega)).trans g3
   have hown2 : (W'.putObj (Z.heap.size + 4 + 1) o).ownsRow Z.heap.size 134 32 v (Jo.many L.length + 1) (scells (F :: Jo.dataL L (Jo.many L.length))) := own_far g4 (fun q hq => World.putObj_heap_other (by have := g5 q hq; omega))
   have hB2 : Below Z.heap.size Z (W'.putObj (Z.heap.size + 4 + 1) o) := g1.trans ⟨rfl, rfl, rfl, by simp, fun q hq => World.putObj_heap_other (by omega)⟩
   have hz2 : Z.heap.size + 6 ≤ (W'.putObj (Z.heap.size + 4 + 1) o).heap.size := by simp; omega
   clear g1 g2 g3 g4 g6 g7 g8 g9 hD hl
   generalize W'.putObj (Z.heap.size + 4 + 1) o = W2 at *
   have c0 := cell_box hv2
   have hLS := (Jo.last_sct t n).1
   obtain ⟨i0, hi, hz0, hz1', hz2'⟩ := infoSec
   have hmk := Jo.many_le L.length
   obtain ⟨X, hX⟩ : ∃ X, X = ((Jo.lastS t n).map by8).toArray := ⟨_, rfl⟩
   have hXs : X.size = 32 := by rw [hX]; simp [hLS]
   have hXf := fun Y hY => fill_sec X Y hXs hY
   clear zz zn
   have LC := fun w => lastSector_c t n w ht hn
   unfold secV at LC
   rw [← hX] at LC
   have HX := hid hX
   have HLC := hid LC
   clear hX LC
   gi_wp2_with fail
   refine wpIn_wide.2 ?_
   go_region_held3 (fun w' => w'.cell? ⟨Z.heap.size + 1, 0, none⟩ = some v) (first | exact cell_box K8 | exact cell_box K7 | exact cell_box K6 | go_keep)
     (first
       | (go_at_call 159; refine (HLC.out _).mono ?_; rintro e w6 ⟨rfl, hb6⟩; (have K6 : w6.heap[Z.heap.size + 1]? = some (.cells #[v] 152 (0, 0)) := by rw [hb6.block _ (by show _ < W2.heap.size; omega)]; exact hv2); (have B6 : Below W2.heap.size W2 w6 := ((Below.refl _ W2).drew).trans hb6); (have n7 := news_X (heap_alloc_new w6 (.cells X 134)) HX.out); (have A7 := alloc_facts w6 (.cells X 134)); (have K7 : (w6.alloc (.cells X 134)).heap[Z.heap.size + 1]? = some (.cells #[v] 152 (0, 0)) := by rw [A7.2.1 _ (by have := B6.size; omega)]; exact K6); (have hown7 : (w6.alloc (.cells X 134)).ownsRow Z.heap.size 134 32 v (Jo.many L.length + 1) (scells (F :: Jo.dataL L (Jo.many L.length))) := own_far hown2 (fun q hq => by have := (hown2.lt q hq).2; rw [A7.2.1 q (by have := B6.size; omega), B6.block q (by omega)])))
       | (refine step_append _ (by rfl) _ _ 152 (by rfl) Z.heap.size 134 i0 (secV zsec) 32 32 Tryz.underlying152 hi hz0 hz1' hz2' (by rfl) (by decide) _ _ _ (by rfl) hown7 ⟨w6.heap.size, 0, none⟩ 1 1 ((Jo.lastS t n).map by8) (by rfl) (by simp [hLS]) n7 (one8 _) (by unfold maxLen; omega) (by omega) (by rw [A7.1]; have := B6.size; omega) ?_; intro v8 w8 hown8 hgrow8; (have K8 : w8.heap[Z.heap.size + 1]? = some (.cells #[v] 152 (0, 0)) := by rw [hgrow8.block _ (by rw [A7.1]; have := B6.size; omega) (fun e => by have := g5 _ e.symm; omega)]; exact K7); obtain ⟨a8, cap8, rfl⟩ := own_shape6 hown8))
   gi_wp2
   have B8 : Below Z.heap.size Z w8 := below_grown ((hB2.trans (B6.mono (by omega))).trans (alloc_below A7 (by have := B6.size; omega))) hown7 (Nat.le_refl _) (by rw [A7.1]; have := B6.size; omega) hgrow8
   have hD8 : w8.heap[Z.heap.size + 4]? = some (.deferred (some [])) := by
     rw [hgrow8.block _ (by rw [A7.1]; have := B6.size; omega) (fun e => by have := g5 _ e.symm; omega), A7.2.1 _ (by have := B6.size; omega), B6.block _ (by omega)]; exact hD2
   refine ⟨by simp, .inl ⟨_, _, rfl, run_takeDeferred hD8, ?_⟩⟩
   refine ⟨_, results_tmp rfl _ _ _, _, rfl, ?_, ?_⟩
   · have e : scells (Jo.laid g t n) = scells (F :: Jo.dataL L (Jo.many L.length)) ++ (Jo.lastS t n).map by8 := by
       rw [← scells_snoc, HF.out]
       unfold Jo.laid
       rw [hLd, hgl]
       rfl
     have e2 : (Jo.laid g t n).length = Jo.many L.length + 1 + 1 := by rw [Jo.laid_len, hLd]; unfold Jo.secsOf; omega
     rw [e, e2]
     have hZw : w.heap.size ≤ Z.heap.size := Nat.le_trans hb1.size hbZ.size
     refine ⟨hown8.1, ?_⟩
     rcases hown8.2 with h | ⟨q, cap', cur, e1, e2', e3, e4⟩
     · exact .inl h
     · refine .inr ⟨q, cap', cur, e1, by omega, ?_, e4⟩
       have hne : q ≠ Z.heap.size + 4 := fun e => by rw [e, hD8] at e3; cases e3
       rw [World.putObj_heap_other hne]; exact e3
   · exact (hb1.trans (hbZ.mono hb1.size)).trans ((B8.mono (Nat.le_trans hb1.size hbZ.size)).trans ⟨rfl, rfl, rfl, by simp, fun q hq => World.putObj_heap_other (by have := hb1.size; have := hbZ.size; omega)⟩)
end Go.Proofs.YtpolbbdaippclaaGreat
