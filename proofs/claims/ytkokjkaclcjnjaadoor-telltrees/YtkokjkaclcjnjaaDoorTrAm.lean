/-
  leadUpTo of the package tree, out of what its function that yields does.
-/
import Derived.Test.YtkokjkaclcjnjaaDoorTrAl
namespace Go.Proofs.YtkokjkaclcjnjaaDoor
open Go.RowKit Go.ChangeShapes Go.WideShapes Go.ChangeAt Go.Shelf Go.Maps
attribute [local go_sem] Oper.semAt_some
set_option linter.unusedVariables false
set_option linter.unusedSimpArgs false
set_option maxRecDepth 100000
set_option maxHeartbeats 400000 in
theorem upward_c (pb : Nat) (f : Int) (w : World) :
   Calls Tryd.prog 110 #[.map (some pb), .int .u32 f] w fun e w' => e = .returned (.func (.func 127) #[] #[.pointer (some ⟨w.heap.size + 1, 0, none⟩), .pointer (some ⟨w.heap.size, 0, none⟩)]) ∧ w' = (w.alloc (.cells #[.map (some pb)] 129)).alloc (.cells #[.int .u32 f] 29) := by
 go_enter Tryd.func110, Tryd.ntmps110
 go_wp2
 go_ret
 exact ⟨rfl, rfl⟩
set_option maxHeartbeats 2000000 in
theorem leadUpTo_c (pb n : Nat) (G : Int → Option Int) (w : World) (hF : IsFm fdE w pb n G) (hn : n ≤ 1000) (hG : ∀ g p, G g = some p → 0 ≤ p ∧ p < 4294967296) (top f0 : Int) (h0 : 0 ≤ f0) (h1 : f0 < 4294967296) :
   Calls Tryd.prog 93 #[.map (some pb), .int .u32 top, .int .u32 f0] w fun e w' => e = .returned (.bool (leadB G n top f0)) ∧ Below w.heap.size w w' := by
 have UP := hid (fun Rr Rd => upward1_in w pb n G hF hn hG top f0 h0 h1 Rr Rd)
 clear hF hn hG h0 h1
 refine (callsIn_wide (n := 3)).1 ?_
 refine callsIn_of_wp_marks Tryd.func93 rfl trivial ?_ rfl
 simp only [Tryd.ntmps93, List.size_toArray, List.length_cons, List.length_nil, Nat.reduceAdd, Nat.reduceSub, Array.replicate_succ, Array.replicate_zero, List.push_toArray, List.append_toArray, List.nil_append, List.cons_append]
 gi_wp2_with fail
 refine ⟨trivial, (callsIn_wide.2 (upward_c _ _ _)).mono ?_⟩
 rintro _ _ ⟨rfl, rfl⟩
 gi_wp2_with fail
 have b1 := below_1 w (.cells #[.int .u32 top] 29)
 have x1 := heap_alloc_new w (.cells #[.int .u32 top] 29)
 have b2 := below_1 (w.alloc (.cells #[.int .u32 top] 29)) (.cells #[.bool false] 4)
 have x2 := heap_alloc_new (w.alloc (.cells #[.int .u32 top] 29)) (.cells #[.bool false] 4)
 have b3 := below_1 ((w.alloc (.cells #[.int .u32 top] 29)).alloc (.cells #[.bool false] 4)) (.cells #[.map (some pb)] 129)
 have x3 := heap_alloc_new ((w.alloc (.cells #[.int .u32 top] 29)).alloc (.cells #[.bool false] 4)) (.cells #[.map (some pb)] 129)
 have b4 := below_1 (((w.alloc (.cells #[.int .u32 top] 29)).alloc (.cells #[.bool false] 4)).alloc (.cells #[.map (some pb)] 129)) (.cells #[.int .u32 f0] 29)
 have x4 := heap_alloc_new (((w.alloc (.cells #[.int .u32 top] 29)).alloc (.cells #[.bool false] 4)).alloc (.cells #[.map (some pb)] 129)) (.cells #[.int .u32 f0] 29)
 have s1 : (w.alloc (.cells #[.int .u32 top] 29)).heap.size = w.heap.size + 1 := by simp
 have s2 : ((w.alloc (.cells #[.int .u32 top] 29)).alloc (.cells #[.bool false] 4)).heap.size = w.heap.size + 2 := by simp
 have s3 : (((w.alloc (.cells #[.int .u32 top] 29)).alloc (.cells #[.bool false] 4)).alloc (.cells #[.map (some pb)] 129)).heap.size = w.heap.size + 3 := by simp
 have hsz : ((((w.alloc (.cells #[.int .u32 top] 29)).alloc (.cells #[.bool false] 4)).alloc (.cells #[.map (some pb)] 129)).alloc (.cells #[.int .u32 f0] 29)).heap.size = w.heap.size + 4 := by simp
 rw [s1] at b2 x2
 rw [s2] at b3 x3
 rw [s3] at b4 x4
 have q3 := (b4.block _ (by omega)).trans x3
 have q2 := (b4.block _ (by omega)).trans ((b3.block _ (by omega)).trans x2)
 have q1 := (b4.block _ (by omega)).trans ((b3.block _ (by omega)).trans ((b2.block _ (by omega)).trans x1))
 have hA0 := ((b1.trans (b2.mono (by omega))).trans (b3.mono (by omega))).trans (b4.mono (by omega))
 have q4 := x4
 clear b1 b2 b3 b4 x1 x2 x3 x4 s1 s2 s3
 generalize ((((w.alloc (.cells #[.int .u32 top] 29)).alloc (.cells #[.bool false] 4)).alloc (.cells #[.map (some pb)] 129)).alloc (.cells #[.int .u32 f0] 29)) = W at *
 refine range_ret (gf := 127) (lb := #[.pointer (some ⟨w.heap.size + 3, 0, none⟩), .pointer (some ⟨w.heap.size + 2, 0, none⟩)]) (by first | rfl | simp) (enters_of Tryd.func127 (by kernel_rfl) rfl) (fun W' => leadB G n top f0 = false ∧ ∃ cur R, LU w pb top cur false R W') (fun W' => leadB G n top f0 = true ∧ ∃ cur R, LU w pb top cur true R W') ?_ ?_ ?_
 · intro fn
   generalize hR : Rg.recOf fn _ _ _ _ _ = R
   generalize hRD : recD fn _ _ _ _ _ = RD
   have h5 : W.heap.size + 1 = w.heap.size + 5 := by omega
   have hD1 : ((W.alloc (.deferred (some []))).alloc (.loop (R .ready))).heap[w.heap.size + 4]? = some (.deferred (some [])) := by
     rw [Below.heap_alloc _ _ _ (by simp; omega), ← hsz]; exact heap_alloc_new W _
   have hL1 : ((W.alloc (.deferred (some []))).alloc (.loop (R .ready))).heap[w.heap.size + 5]? = some (.loop (R .ready)) := by
     have := heap_alloc_new (W.alloc (.deferred (some []))) (.loop (R .ready)); rw [World.size_alloc, h5] at this; exact this
   have hB1 : Below W.heap.size W ((W.alloc (.deferred (some []))).alloc (.loop (R .ready))) := ((Below.refl _ _).alloc (Nat.le_refl _) _).alloc (by simp) _
   have hz1 : ((W.alloc (.deferred (some []))).alloc (.loop (R .ready))).heap.size = w.heap.size + 6 := by simp; omega
   generalize ((W.alloc (.deferred (some []))).alloc (.loop (R .ready))) = W1 at *
   have hLU : LU w pb top f0 false (.loop (R .ready)) W1 := ⟨hA0.trans (hB1.mono hA0.size), hz1, (hB1.block _ (by omega)).trans q1, (hB1.block _ (by omega)).trans q2, (hB1.block _ (by omega)).trans q3, (hB1.block _ (by omega)).trans q4, hD1, hL1⟩
   rw [hsz, show w.heap.size + 4 + 1 = w.heap.size + 5 from rfl]
   refine (UP.out (.loop (R .ready)) (.loop RD) ?_ W1 hLU).mono ?_
   · intro cur g V hV
     rw [hsz] at hR hRD
     subst hR
     subst hRD
     refine (round_ret (R := fun b W' => b = !(g == top) ∧ LU w pb top cur (!b) (bif b then _ else _) W') hV.2.2.2.2.2.2.2 (by rfl) ?_)
     gi_wp2
     generalize Obj.loop (Rg.recOf fn _ _ _ _ (w.heap.size + 4) LoopState.ready) = Rr at *
     generalize Obj.loop (Rg.recOf fn _ _ _ _ (w.heap.size + 4) LoopState.busy) = Rb at *
     generalize Obj.loop (recD fn _ _ _ _ (w.heap.size + 4)) = Rd at *
     refine ⟨hV.2.2.2.2.2.2.2, ?_⟩
     have hV2 := hV.rec Rb
     have c0 := cell_box hV2.2.2.1
     have c1 := cell_box hV2.2.2.2.1
     have f1 := frozen_box hV2.2.2.2.1
     have HV2 := hid hV2
     clear hV hV2 hLU hD1 hL1
     generalize V.putObj (w.heap.size + 5) Rb = V2 at *
     by_cases q : g = top
     · have qB : (g == top) = true := by rw [q]; simp
       have HV3 := hid (HV2.out.res true)
       clear q
       gi_wp2
       first | exact ⟨HV3.out.2.2.2.2.2.2.2, HV3.out.rec _⟩ | exact ⟨HV3.out.2.2.2.2.2.2.2, .inr ⟨rfl, by rw [qB]; rfl, HV3.out.rec _⟩⟩
     · have qB : (g == top) = false := beq_eq_false_iff_ne.2 q
       gi_wp2
       first | exact ⟨HV2.out.2.2.2.2.2.2.2, HV2.out.rec _⟩ | exact ⟨HV2.out.2.2.2.2.2.2.2, .inl ⟨rfl, by rw [qB]; rfl, HV2.out.rec _⟩⟩
   · rintro e V ⟨he, cur, hV⟩
     refine ⟨he, hV.2.2.2.2.2.2.1, ?_⟩
     cases hb : leadB G n top f0 with
     | true => rw [hb] at hV; exact .inr ⟨hV.2.2.2.2.2.2.2, rfl, cur, _, hV⟩
     | false => rw [hb] at hV; exact .inl ⟨hV.2.2.2.2.2.2.2, rfl, cur, _, hV⟩
 · rintro W' o ⟨hb, cur, R, hV⟩ hD hl
   rw [hsz, show w.heap.size + 4 + 1 = w.heap.size + 5 from rfl]
   have hV2 := hV.rec o
   have c1 := cell_box hV2.2.2.2.1
   have f1 := frozen_box hV2.2.2.2.1
   have HV3 := hid (hV2.res false)
   clear hV hV2 hD hl
   generalize W'.putObj (w.heap.size + 5) o = W2 at *
   gi_wp2
   have hV3 := HV3.out
   generalize W2.setCell ⟨w.heap.size + 1, 0, none⟩ (.bool false) = W3 at *
   have c3 : (W3.putObj (w.heap.size + 4) (.deferred none)).cell? ⟨w.heap.size + 1, 0, none⟩ = some (.bool false) := cell_box ((World.putObj_heap_other (by omega)).trans hV3.2.2.2.1)
   have hB3 : Below w.heap.size w (W3.putObj (w.heap.size + 4) (.deferred none)) := hV3.1.trans ⟨rfl, rfl, rfl, by simp, fun q hq => World.putObj_heap_other (by omega)⟩
   refine ⟨by simp, .inl ⟨_, _, rfl, run_takeDeferred hV3.2.2.2.2.2.2.1, ?_⟩⟩
   exact ⟨.bool false, by simp [results, Tryd.results93, go_sem, c3], by rw [hb], hB3⟩
 · rintro W' o ⟨hb, cur, R, hV⟩ hD hl
   rw [hsz, show w.heap.size + 4 + 1 = w.heap.size + 5 from rfl]
   have hV3 := hV.rec o
   generalize W'.putObj (w.heap.size + 5) o = W3 at *
   have c3 : (W3.putObj (w.heap.size + 4) (.deferred none)).cell? ⟨w.heap.size + 1, 0, none⟩ = some (.bool true) := cell_box ((World.putObj_heap_other (by omega)).trans hV3.2.2.2.1)
   have hB3 : Below w.heap.size w (W3.putObj (w.heap.size + 4) (.deferred none)) := hV3.1.trans ⟨rfl, rfl, rfl, by simp, fun q hq => World.putObj_heap_other (by omega)⟩
   refine ⟨by simp, .inl ⟨_, _, rfl, run_takeDeferred hV3.2.2.2.2.2.2.1, ?_⟩⟩
   exact ⟨.bool true, by simp [results, Tryd.results93, go_sem, c3], by rw [hb], hB3⟩
end Go.Proofs.YtkokjkaclcjnjaaDoor
