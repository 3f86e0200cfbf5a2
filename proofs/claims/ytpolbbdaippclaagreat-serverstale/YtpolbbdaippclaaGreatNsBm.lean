/-
  
-/
import Derived.Test.YtpolbbdaippclaaGreatNsBf
import Derived.Test.YtpolbbdaippclaaGreatNsBc
import Derived.Test.YtpolbbdaippclaaGreatNsAa
import Derived.Test.YtpolbbdaippclaaGreatNsBl
namespace Go.Proofs.YtpolbbdaippclaaGreat
open Go.RowKit Go.ChangeShapes Go.WideShapes Go.ChangeAt Go.Maps Go.Shelf
set_option linter.unusedVariables false
set_option linter.unusedSimpArgs false
set_option maxRecDepth 100000
theorem pgs_none {B : Nat} {w : World} {v : Value} (h : PGs B w v []) : ∃ a c, v = .slice a 0 c := by
 obtain ⟨vals, h1, _⟩ := h
 rcases h1.2 with ⟨e, _⟩ | ⟨g, cap, cur, e, _⟩
 · exact ⟨_, _, e⟩
 · exact ⟨_, _, e⟩
set_option maxHeartbeats 4000000 in
theorem kept_c {w : World} {j : Nat} (GC : Hid (∀ W, Below w.heap.size w W → Calls Tryz.prog 37 #[pB j] W fun e w' => ∃ v, e = .returned v ∧ PGs W.heap.size w' v [] ∧ Below W.heap.size W w')) :
   Calls Tryz.prog 19 #[.agg #[pB j]] w fun e w' => ∃ g s, e = .returned (.agg #[.slice (some ⟨g, 0, none⟩) 1 1, .slice (some ⟨s, 0, none⟩) 1 1, .int .u64 1, .int .u32 0, .int .u32 0, .int .u32 0, .slice none 0 0]) ∧ w.heap.size ≤ g ∧ w.heap.size ≤ s ∧ w'.heap[g]? = some (.cells #[.int .u32 1, .int .u8 2, .int .u16 0, .int .u16 0, .slice none 0 0, .slice none 0 0] 52 (0, 0)) ∧ w'.heap[s]? = some (.cells #[.int .u32 1, .int .u64 1, .int .u8 0] 47 (0, 0)) ∧ Below w.heap.size w w' := by
 have FC := hid (fun W => firstState_c W)
 have b1 := below_1 w (.cells #[pB j] 73)
 have b2 := below_1 (w.alloc (.cells #[pB j] 73)) (.cells #[.slice none 0 0, .slice none 0 0, .int .u64 0, .int .u32 0, .int .u32 0, .int .u32 0, .slice none 0 0] 76)
 have hK := (b2.block _ (lt_blkR (heap_alloc_new w (.cells #[pB j] 73)))).trans (heap_alloc_new w (.cells #[pB j] 73))
 have hz1 : (w.alloc (.cells #[pB j] 73)).heap.size = w.heap.size + 1 := by simp
 have hR := heap_alloc_new (w.alloc (.cells #[pB j] 73)) (.cells #[.slice none 0 0, .slice none 0 0, .int .u64 0, .int .u32 0, .int .u32 0, .int .u32 0, .slice none 0 0] 76)
 rw [hz1] at hR
 have B1 := hid (b1.trans (b2.mono b1.size))
 have c0 : ((w.alloc (.cells #[pB j] 73)).alloc (.cells #[.slice none 0 0, .slice none 0 0, .int .u64 0, .int .u32 0, .int .u32 0, .int .u32 0, .slice none 0 0] 76)).cell? ⟨w.heap.size, 0, none⟩ = some (pB j) := cell_of_row2 hK 0 rfl
 have HR : Hid (∀ W, Below ((w.alloc (.cells #[pB j] 73)).alloc (.cells #[.slice none 0 0, .slice none 0 0, .int .u64 0, .int .u32 0, .int .u32 0, .int .u32 0, .slice none 0 0] 76)).heap.size ((w.alloc (.cells #[pB j] 73)).alloc (.cells #[.slice none 0 0, .slice none 0 0, .int .u64 0, .int .u32 0, .int .u32 0, .int .u32 0, .slice none 0 0] 76)) W → W.heap[w.heap.size + 1]? = some (.cells #[.slice none 0 0, .slice none 0 0, .int .u64 0, .int .u32 0, .int .u32 0, .int .u32 0, .slice none 0 0] 76 (0, 0))) := hid (fun W h => (h.block _ (lt_blkR hR)).trans hR)
 have SZ : Hid (((w.alloc (.cells #[pB j] 73)).alloc (.cells #[.slice none 0 0, .slice none 0 0, .int .u64 0, .int .u32 0, .int .u32 0, .int .u32 0, .slice none 0 0] 76)).heap.size = w.heap.size + 2) := hid (by simp)
 clear b1 b2 hR hK hz1
 go_enter Tryz.func19, Tryz.ntmps19
 go_upto_region 2 with (go_at_call 37; refine (GC.out _ B1.out).mono ?_; rintro _ w1 ⟨v1, rfl, hp1, hb1⟩; obtain ⟨a1, k1, rfl⟩ := pgs_none hp1; have D1 := hid hb1; clear hb1 hp1)
 go_wp2_with (go_at_call 38; refine (FC.out _).mono ?_; rintro _ w2 ⟨g, s, rfl, hg, hs, rg, rs, hb2⟩; have D2 := hid (D1.out.trans (hb2.mono D1.out.size)); have HG := hid hg; have HS := hid hs; have RG := hid rg; have RS := hid rs; have R1 := HR.out _ D2.out; have r0 : w2.cell? ⟨w.heap.size + 1, 0, none⟩ = some (.slice none 0 0) := cell_of_row2 R1 0 rfl; have r1 : w2.cell? ⟨w.heap.size + 1, 1, none⟩ = some (.slice none 0 0) := cell_of_row2 R1 1 rfl; have r2 : w2.cell? ⟨w.heap.size + 1, 2, none⟩ = some (.int .u64 0) := cell_of_row2 R1 2 rfl; have r3 : w2.cell? ⟨w.heap.size + 1, 3, none⟩ = some (.int .u32 0) := cell_of_row2 R1 3 rfl; have r4 : w2.cell? ⟨w.heap.size + 1, 4, none⟩ = some (.int .u32 0) := cell_of_row2 R1 4 rfl; have r5 : w2.cell? ⟨w.heap.size + 1, 5, none⟩ = some (.int .u32 0) := cell_of_row2 R1 5 rfl; have r6 : w2.cell? ⟨w.heap.size + 1, 6, none⟩ = some (.slice none 0 0) := cell_of_row2 R1 6 rfl; have fz : ∀ i, w2.frozen? ⟨w.heap.size + 1, i, none⟩ = false := fun i => (by simp [World.frozen?, R1]); clear hg hs rg rs hb2)
 have Q9 := seven_cells R1 (.slice (some ⟨g, 0, none⟩) 1 1) (.slice (some ⟨s, 0, none⟩) 1 1) (.int .u64 1) (.int .u32 0) (.int .u32 0) (.int .u32 0) (.slice none 0 0)
 have sz := SZ.out
 have lg := Nat.le_trans D1.out.size HG.out
 have ls := Nat.le_trans D1.out.size HS.out
 rw [sz] at lg ls
 have BB := hid (B1.out.trans (D2.out.mono B1.out.size))
 have X1 := hid ((Below.heap_setCell ((((((w2.setCell ⟨w.heap.size + 1, 0, none⟩ (.slice (some ⟨g, 0, none⟩) 1 1)).setCell ⟨w.heap.size + 1, 1, none⟩ (.slice (some ⟨s, 0, none⟩) 1 1)).setCell ⟨w.heap.size + 1, 2, none⟩ (.int .u64 1)).setCell ⟨w.heap.size + 1, 3, none⟩ (.int .u32 0)).setCell ⟨w.heap.size + 1, 4, none⟩ (.int .u32 0)).setCell ⟨w.heap.size + 1, 5, none⟩ (.int .u32 0)) ⟨w.heap.size + 1, 6, none⟩ (.slice none 0 0) g (by simp; omega)).trans ((Below.heap_setCell (((((w2.setCell ⟨w.heap.size + 1, 0, none⟩ (.slice (some ⟨g, 0, none⟩) 1 1)).setCell ⟨w.heap.size + 1, 1, none⟩ (.slice (some ⟨s, 0, none⟩) 1 1)).setCell ⟨w.heap.size + 1, 2, none⟩ (.int .u64 1)).setCell ⟨w.heap.size + 1, 3, none⟩ (.int .u32 0)).setCell ⟨w.heap.size + 1, 4, none⟩ (.int .u32 0)) ⟨w.heap.size + 1, 5, none⟩ (.int .u32 0) g (by simp; omega)).trans ((Below.heap_setCell ((((w2.setCell ⟨w.heap.size + 1, 0, none⟩ (.slice (some ⟨g, 0, none⟩) 1 1)).setCell ⟨w.heap.size + 1, 1, none⟩ (.slice (some ⟨s, 0, none⟩) 1 1)).setCell ⟨w.heap.size + 1, 2, none⟩ (.int .u64 1)).setCell ⟨w.heap.size + 1, 3, none⟩ (.int .u32 0)) ⟨w.heap.size + 1, 4, none⟩ (.int .u32 0) g (by simp; omega)).trans ((Below.heap_setCell (((w2.setCell ⟨w.heap.size + 1, 0, none⟩ (.slice (some ⟨g, 0, none⟩) 1 1)).setCell ⟨w.heap.size + 1, 1, none⟩ (.slice (some ⟨s, 0, none⟩) 1 1)).setCell ⟨w.heap.size + 1, 2, none⟩ (.int .u64 1)) ⟨w.heap.size + 1, 3, none⟩ (.int .u32 0) g (by simp; omega)).trans ((Below.heap_setCell ((w2.setCell ⟨w.heap.size + 1, 0, none⟩ (.slice (some ⟨g, 0, none⟩) 1 1)).setCell ⟨w.heap.size + 1, 1, none⟩ (.slice (some ⟨s, 0, none⟩) 1 1)) ⟨w.heap.size + 1, 2, none⟩ (.int .u64 1) g (by simp; omega)).trans ((Below.heap_setCell (w2.setCell ⟨w.heap.size + 1, 0, none⟩ (.slice (some ⟨g, 0, none⟩) 1 1)) ⟨w.heap.size + 1, 1, none⟩ (.slice (some ⟨s, 0, none⟩) 1 1) g (by simp; omega)).trans ((Below.heap_setCell w2 ⟨w.heap.size + 1, 0, none⟩ (.slice (some ⟨g, 0, none⟩) 1 1) g (by simp; omega)).trans RG.out)))))))
 have X2 := hid ((Below.heap_setCell ((((((w2.setCell ⟨w.heap.size + 1, 0, none⟩ (.slice (some ⟨g, 0, none⟩) 1 1)).setCell ⟨w.heap.size + 1, 1, none⟩ (.slice (some ⟨s, 0, none⟩) 1 1)).setCell ⟨w.heap.size + 1, 2, none⟩ (.int .u64 1)).setCell ⟨w.heap.size + 1, 3, none⟩ (.int .u32 0)).setCell ⟨w.heap.size + 1, 4, none⟩ (.int .u32 0)).setCell ⟨w.heap.size + 1, 5, none⟩ (.int .u32 0)) ⟨w.heap.size + 1, 6, none⟩ (.slice none 0 0) s (by simp; omega)).trans ((Below.heap_setCell (((((w2.setCell ⟨w.heap.size + 1, 0, none⟩ (.slice (some ⟨g, 0, none⟩) 1 1)).setCell ⟨w.heap.size + 1, 1, none⟩ (.slice (some ⟨s, 0, none⟩) 1 1)).setCell ⟨w.heap.size + 1, 2, none⟩ (.int .u64 1)).setCell ⟨w.heap.size + 1, 3, none⟩ (.int .u32 0)).setCell ⟨w.heap.size + 1, 4, none⟩ (.int .u32 0)) ⟨w.heap.size + 1, 5, none⟩ (.int .u32 0) s (by simp; omega)).trans ((Below.heap_setCell ((((w2.setCell ⟨w.heap.size + 1, 0, none⟩ (.slice (some ⟨g, 0, none⟩) 1 1)).setCell ⟨w.heap.size + 1, 1, none⟩ (.slice (some ⟨s, 0, none⟩) 1 1)).setCell ⟨w.heap.size + 1, 2, none⟩ (.int .u64 1)).setCell ⟨w.heap.size + 1, 3, none⟩ (.int .u32 0)) ⟨w.heap.size + 1, 4, none⟩ (.int .u32 0) s (by simp; omega)).trans ((Below.heap_setCell (((w2.setCell ⟨w.heap.size + 1, 0, none⟩ (.slice (some ⟨g, 0, none⟩) 1 1)).setCell ⟨w.heap.size + 1, 1, none⟩ (.slice (some ⟨s, 0, none⟩) 1 1)).setCell ⟨w.heap.size + 1, 2, none⟩ (.int .u64 1)) ⟨w.heap.size + 1, 3, none⟩ (.int .u32 0) s (by simp; omega)).trans ((Below.heap_setCell ((w2.setCell ⟨w.heap.size + 1, 0, none⟩ (.slice (some ⟨g, 0, none⟩) 1 1)).setCell ⟨w.heap.size + 1, 1, none⟩ (.slice (some ⟨s, 0, none⟩) 1 1)) ⟨w.heap.size + 1, 2, none⟩ (.int .u64 1) s (by simp; omega)).trans ((Below.heap_setCell (w2.setCell ⟨w.heap.size + 1, 0, none⟩ (.slice (some ⟨g, 0, none⟩) 1 1)) ⟨w.heap.size + 1, 1, none⟩ (.slice (some ⟨s, 0, none⟩) 1 1) s (by simp; omega)).trans ((Below.heap_setCell w2 ⟨w.heap.size + 1, 0, none⟩ (.slice (some ⟨g, 0, none⟩) 1 1) s (by simp; omega)).trans RS.out)))))))
 have B9 := hid (((((((BB.out.setCell (p := ⟨w.heap.size + 1, 0, none⟩) (Nat.le_succ _) (.slice (some ⟨g, 0, none⟩) 1 1)).setCell (p := ⟨w.heap.size + 1, 1, none⟩) (Nat.le_succ _) (.slice (some ⟨s, 0, none⟩) 1 1)).setCell (p := ⟨w.heap.size + 1, 2, none⟩) (Nat.le_succ _) (.int .u64 1)).setCell (p := ⟨w.heap.size + 1, 3, none⟩) (Nat.le_succ _) (.int .u32 0)).setCell (p := ⟨w.heap.size + 1, 4, none⟩) (Nat.le_succ _) (.int .u32 0)).setCell (p := ⟨w.heap.size + 1, 5, none⟩) (Nat.le_succ _) (.int .u32 0)).setCell (p := ⟨w.heap.size + 1, 6, none⟩) (Nat.le_succ _) (.slice none 0 0))
 clear r0 r1 r2 r3 r4 r5 r6 fz R1 c0
 generalize (((((((w2.setCell ⟨w.heap.size + 1, 0, none⟩ (.slice (some ⟨g, 0, none⟩) 1 1)).setCell ⟨w.heap.size + 1, 1, none⟩ (.slice (some ⟨s, 0, none⟩) 1 1)).setCell ⟨w.heap.size + 1, 2, none⟩ (.int .u64 1)).setCell ⟨w.heap.size + 1, 3, none⟩ (.int .u32 0)).setCell ⟨w.heap.size + 1, 4, none⟩ (.int .u32 0)).setCell ⟨w.heap.size + 1, 5, none⟩ (.int .u32 0)).setCell ⟨w.heap.size + 1, 6, none⟩ (.slice none 0 0)) = W9 at *
 have r0 : W9.cell? ⟨w.heap.size + 1, 0, none⟩ = some (.slice (some ⟨g, 0, none⟩) 1 1) := cell_of_row2 Q9 0 rfl
 have r1 : W9.cell? ⟨w.heap.size + 1, 1, none⟩ = some (.slice (some ⟨s, 0, none⟩) 1 1) := cell_of_row2 Q9 1 rfl
 have r2 : W9.cell? ⟨w.heap.size + 1, 2, none⟩ = some (.int .u64 1) := cell_of_row2 Q9 2 rfl
 have r3 : W9.cell? ⟨w.heap.size + 1, 3, none⟩ = some (.int .u32 0) := cell_of_row2 Q9 3 rfl
 have r4 : W9.cell? ⟨w.heap.size + 1, 4, none⟩ = some (.int .u32 0) := cell_of_row2 Q9 4 rfl
 have r5 : W9.cell? ⟨w.heap.size + 1, 5, none⟩ = some (.int .u32 0) := cell_of_row2 Q9 5 rfl
 have r6 : W9.cell? ⟨w.heap.size + 1, 6, none⟩ = some (.slice none 0 0) := cell_of_row2 Q9 6 rfl
 refine bodyPost_ret (v := .agg #[.slice (some ⟨g, 0, none⟩) 1 1, .slice (some ⟨s, 0, none⟩) 1 1, .int .u64 1, .int .u32 0, .int .u32 0, .int .u32 0, .slice none 0 0]) (by simp [results, Tryz.results19, go_sem, r0, r1, r2, r3, r4, r5, r6]) rfl ⟨g, s, rfl, by omega, by omega, X1.out, X2.out, B9.out⟩
set_option maxHeartbeats 4000000 in
theorem sopen_c {w : World} {x : Value} (hx : ∃ p, x = .pointer p) (J : World → Nat → Prop) (hJ : ∀ W W' j, J W j → Below W.heap.size W W' → J W' j)
   (OC : Calls Tryz.prog 18 #[x] w fun e w' => ∃ j, e = .returned (pB j) ∧ J w' j ∧ Below w.heap.size w w')
   (GC : ∀ W j, J W j → Calls Tryz.prog 37 #[pB j] W fun e w' => ∃ v, e = .returned v ∧ PGs W.heap.size w' v [] ∧ Below W.heap.size W w') :
   Calls Tryz.prog 7 #[x] w fun e w' => ∃ j g s p, e = .returned (.pointer (some ⟨p, 0, none⟩)) ∧ J w' j ∧ w.heap.size ≤ p ∧ w.heap.size ≤ g ∧ w.heap.size ≤ s ∧ w'.heap[p]? = some (.cells #[pB j, .slice (some ⟨g, 0, none⟩) 1 1, .slice (some ⟨s, 0, none⟩) 1 1, .int .u64 1, .int .u32 0, .int .u32 0, .int .u32 0, .slice none 0 0] 79 (0, 0)) ∧ w'.heap[g]? = some (.cells #[.int .u32 1, .int .u8 2, .int .u16 0, .int .u16 0, .slice none 0 0, .slice none 0 0] 52 (0, 0)) ∧ w'.heap[s]? = some (.cells #[.int .u32 1, .int .u64 1, .int .u8 0] 47 (0, 0)) ∧ Below w.heap.size w w' := by
 obtain ⟨p0, rfl⟩ := hx
 have OH := hid OC
 have GH := hid GC
 have JH := hid hJ
 clear OC GC hJ
 go_enter Tryz.func7, Tryz.ntmps7
 go_upto_region 5 with (go_at_call 18; refine OH.out.mono ?_; rintro _ w1 ⟨j, rfl, hj1, hb1⟩; have J1 := hid hj1; have B1 := hid hb1; clear hj1 hb1)
 have b2 := below_1 w1 (.cells #[pB j] 73)
 have hK := heap_alloc_new w1 (.cells #[pB j] 73)
 have B2 := hid (B1.out.trans (b2.mono B1.out.size))
 have J2 := hid (JH.out _ _ _ J1.out b2)
 generalize w1.alloc (.cells #[pB j] 73) = V at *
 generalize w1.heap.size = kb at *
 have D1 := hid (Below.drew (Below.refl V.heap.size V))
 have HK : Hid (∀ W, Below V.heap.size V W → W.heap[kb]? = some (.cells #[pB j] 73 (0, 0))) := hid (fun W h => (h.block _ (lt_blkR hK)).trans hK)
 have GK := hid (fun W (hW : Below V.heap.size V W) => kept_c (w := W) (j := j) (hid (fun X hX => GH.out X j (JH.out _ _ _ J2.out (hW.trans (hX.mono hW.size))))))
 have O0 : ∀ w' : World, w'.heap[kb]? = some (.cells #[pB j] 73 (0, 0)) → w'.cell? ⟨kb, 0, none⟩ = some (pB j) := fun w' h => cell_of_row2 h 0 rfl
 clear hK b2
 go_wp2_with fail
 refine wp_region_held_drew (S := fun w' => w'.heap[kb]? = some (.cells #[pB j] 73 (0, 0))) (by kernel_rfl) (HK.out _ D1.out) (fun hHeld => ?_)
 refine take_l 0 (v := ?_) rfl (by kernel_rfl) (by kernel_rfl) (by kernel_rfl) (fun _ _ _ h => h) (Or.inl ⟨by rfl, ?_⟩) (by assumption) ?_
 rotate_left
 · (intro w' hSw; (have k0 := O0 _ hSw); clear hSw; go_simp; first | done | with_reducible rfl)
 try simp only [Act.put, List.setIfInBounds_toArray, List.set_cons_zero, List.set_cons_succ]
 refine take_l 1 (v := ?_) rfl (by kernel_rfl) (by kernel_rfl) (by kernel_rfl) (fun _ _ _ h => h) (Or.inl ⟨by rfl, ?_⟩) (by assumption) ?_
 rotate_left
 · (intro w' hSw; (have k0 := O0 _ hSw); clear hSw; go_simp; first | done | with_reducible rfl)
 try simp only [Act.put, List.setIfInBounds_toArray, List.set_cons_zero, List.set_cons_succ]
 refine cons_l 2 rfl (by kernel_rfl) (fun K hK => ?_)
 go_simp
 refine (GK.out _ D1.out).mono ?_; rintro _ w2 ⟨g, s, rfl, hg, hs, rg, rs, hb2⟩
 have D2 := hid (D1.out.trans (hb2.mono D1.out.size))
 have HG := hid (Nat.le_trans B2.out.size (Nat.le_trans D1.out.size hg))
 have HS := hid (Nat.le_trans B2.out.size (Nat.le_trans D1.out.size hs))
 have RG := hid rg
 have RS := hid rs
 clear hg hs rg rs hb2
 go_simp
 refine hK.out _ _ (HK.out _ D2.out) (fun hHeld => ?_)
 clear hK K
 try simp only [Act.put, List.setIfInBounds_toArray, List.set_cons_zero, List.set_cons_succ]
 refine take_l 3 (v := ?_) rfl (by kernel_rfl) (by kernel_rfl) (by kernel_rfl) (fun _ _ _ h => h) (Or.inl ⟨by rfl, ?_⟩) (by assumption) ?_
 rotate_left
 · (intro w' hSw; clear hSw; go_simp; first | done | with_reducible rfl)
 try simp only [Act.put, List.setIfInBounds_toArray, List.set_cons_zero, List.set_cons_succ]
 refine cons_l 4 rfl (by kernel_rfl) (fun K hK => ?_)
 go_simp
 have b3 := below_1 w2 (.cells #[pB j, .slice (some ⟨g, 0, none⟩) 1 1, .slice (some ⟨s, 0, none⟩) 1 1, .int .u64 1, .int .u32 0, .int .u32 0, .int .u32 0, .slice none 0 0] 79)
 have N3 := hid (heap_alloc_new w2 (.cells #[pB j, .slice (some ⟨g, 0, none⟩) 1 1, .slice (some ⟨s, 0, none⟩) 1 1, .int .u64 1, .int .u32 0, .int .u32 0, .int .u32 0, .slice none 0 0] 79))
 have D3 := hid (D2.out.trans (b3.mono D2.out.size))
 have RG3 := hid ((b3.block _ (lt_blkR RG.out)).trans RG.out)
 have RS3 := hid ((b3.block _ (lt_blkR RS.out)).trans RS.out)
 have P3 := hid (Nat.le_trans B2.out.size D2.out.size)
 have B9 := hid (B2.out.trans (D3.out.mono B2.out.size))
 have J9 := hid (JH.out _ _ _ J2.out D3.out)
 refine hK.out _ _ (HK.out _ D3.out) (fun hHeld => ?_)
 clear hK K
 try simp only [Act.put, List.setIfInBounds_toArray, List.set_cons_zero, List.set_cons_succ]
 refine take_l 5 (v := ?_) rfl (by kernel_rfl) (by kernel_rfl) (by kernel_rfl) (fun _ _ _ h => h) (Or.inl ⟨by rfl, ?_⟩) (by assumption) ?_
 rotate_left
 · (intro w' hSw; clear hSw; go_simp; first | done | with_reducible rfl)
 try simp only [Act.put, List.setIfInBounds_toArray, List.set_cons_zero, List.set_cons_succ]
 refine wpAnyH_done (by kernel_rfl) ?_ _
 clear hHeld O0 b3
 go_wp2
 go_ret
 exact ⟨j, g, s, _, rfl, J9.out, P3.out, HG.out, HS.out, N3.out, RG3.out, RS3.out, B9.out⟩
end Go.Proofs.YtpolbbdaippclaaGreat
namespace Go.Proofs.YtpolbbdaippclaaGreat
open Go.RowKit Go.ChangeShapes Go.WideShapes Go.ChangeAt
set_option linter.unusedVariables false
set_option linter.unusedSimpArgs false
set_option maxRecDepth 100000
set_option maxHeartbeats 1000000 in
theorem isClient_c (c : Int) (w : World) : Calls Tryz.prog 26 #[.int .u8 c] w fun e w' => e = .returned (.bool (decide (1 ≤ c ∧ c ≤ 3))) ∧ w' = w := by
 by_cases h1 : 1 ≤ c
 · by_cases h2 : c ≤ 3
   · have e : decide (1 ≤ c ∧ c ≤ 3) = true := decide_eq_true ⟨h1, h2⟩
     rw [e]
     go_enter Tryz.func26, Tryz.ntmps26
     go_wp2
     go_ret
     exact ⟨rfl, rfl⟩
   · have e : decide (1 ≤ c ∧ c ≤ 3) = false := decide_eq_false (fun h => h2 h.2)
     rw [e]
     go_enter Tryz.func26, Tryz.ntmps26
     go_wp2
     go_ret
     exact ⟨rfl, rfl⟩
 · have e : decide (1 ≤ c ∧ c ≤ 3) = false := decide_eq_false (fun h => h1 h.1)
   rw [e]
   go_enter Tryz.func26, Tryz.ntmps26
   go_wp2
   go_ret
   exact ⟨rfl, rfl⟩
end Go.Proofs.YtpolbbdaippclaaGreat
namespace Go.Proofs.YtpolbbdaippclaaGreat
open Go.RowKit Go.ChangeShapes Go.WideShapes Go.ChangeAt Go.Maps Go.Shelf
set_option linter.unusedVariables false
set_option linter.unusedSimpArgs false
set_option maxRecDepth 100000
set_option maxHeartbeats 2000000 in
theorem applied1_c {w : World} {p : Nat} {vj tv vv ve : Value} {ver d0 d1 d2 : Int} (h : w.heap[p]? = some (.cells #[vj, tv, vv, .int .u64 ver, .int .u32 d0, .int .u32 d1, .int .u32 d2, ve] 79 (0, 0))) :
   Calls Tryz.prog 14 #[.pointer (some ⟨p, 0, none⟩), .int .u8 1] w fun e w' => e = .returned (.int .u32 d0) ∧ w' = w := by
 have k4 : w.cell? ⟨p, 4, none⟩ = some (.int .u32 d0) := cell_of_row2 h 4 rfl
 have IC := hid (fun W => isClient_c 1 W)
 have e1 : decide ((1 : Int) ≤ 1 ∧ (1 : Int) ≤ 3) = true := by decide
 rw [e1] at IC
 clear h
 go_enter Tryz.func14, Tryz.ntmps14
 go_wp2_with (go_at_call 26; refine (IC.out _).mono ?_; rintro _ _ ⟨rfl, rfl⟩)
 go_ret
 exact ⟨rfl, rfl⟩
set_option maxHeartbeats 1000000 in
theorem swrong_c (o : Rec) (w : World) (hw : o.Wf) (hr : rightF o = true) :
   Calls Tryz.prog 41 #[o.recV] w fun e w' => e = .returned (.bool false) ∧ Below w.heap.size w w' := by
 have RC0 := rightOp_c o (w.alloc (.cells #[.int .u8 o.k, .int .u32 o.fid, .int .u32 o.dir, .string o.nm, .int .u32 o.to, .string o.nm2, .int .u16 o.md, .string o.dt, .int .u64 o.sn] 39)) hw.2.2.2.2.2.2.1 hw.2.2.2.2.2.2.2.1
 rw [hr] at RC0
 have RC := hid RC0
 have h0 := heap_alloc_new w (.cells #[.int .u8 o.k, .int .u32 o.fid, .int .u32 o.dir, .string o.nm, .int .u32 o.to, .string o.nm2, .int .u16 o.md, .string o.dt, .int .u64 o.sn] 39)
 have B0 := hid (below_1 w (.cells #[.int .u8 o.k, .int .u32 o.fid, .int .u32 o.dir, .string o.nm, .int .u32 o.to, .string o.nm2, .int .u16 o.md, .string o.dt, .int .u64 o.sn] 39))
 clear RC0 hw hr
 obtain ⟨k, fid, dir, nm, tof, nm2, md, dt, sn⟩ := o
 simp only [Rec.recV, Rec.opV] at *
 have y0 : (w.alloc (.cells #[.int .u8 k, .int .u32 fid, .int .u32 dir, .string nm, .int .u32 tof, .string nm2, .int .u16 md, .string dt, .int .u64 sn] 39)).cell? ⟨w.heap.size, 0, none⟩ = some (.int .u8 k) := cell_of_row2 h0 0 rfl
 have y1 : (w.alloc (.cells #[.int .u8 k, .int .u32 fid, .int .u32 dir, .string nm, .int .u32 tof, .string nm2, .int .u16 md, .string dt, .int .u64 sn] 39)).cell? ⟨w.heap.size, 1, none⟩ = some (.int .u32 fid) := cell_of_row2 h0 1 rfl
 have y2 : (w.alloc (.cells #[.int .u8 k, .int .u32 fid, .int .u32 dir, .string nm, .int .u32 tof, .string nm2, .int .u16 md, .string dt, .int .u64 sn] 39)).cell? ⟨w.heap.size, 2, none⟩ = some (.int .u32 dir) := cell_of_row2 h0 2 rfl
 have y3 : (w.alloc (.cells #[.int .u8 k, .int .u32 fid, .int .u32 dir, .string nm, .int .u32 tof, .string nm2, .int .u16 md, .string dt, .int .u64 sn] 39)).cell? ⟨w.heap.size, 3, none⟩ = some (.string nm) := cell_of_row2 h0 3 rfl
 have y4 : (w.alloc (.cells #[.int .u8 k, .int .u32 fid, .int .u32 dir, .string nm, .int .u32 tof, .string nm2, .int .u16 md, .string dt, .int .u64 sn] 39)).cell? ⟨w.heap.size, 4, none⟩ = some (.int .u32 tof) := cell_of_row2 h0 4 rfl
 have y5 : (w.alloc (.cells #[.int .u8 k, .int .u32 fid, .int .u32 dir, .string nm, .int .u32 tof, .string nm2, .int .u16 md, .string dt, .int .u64 sn] 39)).cell? ⟨w.heap.size, 5, none⟩ = some (.string nm2) := cell_of_row2 h0 5 rfl
 have y6 : (w.alloc (.cells #[.int .u8 k, .int .u32 fid, .int .u32 dir, .string nm, .int .u32 tof, .string nm2, .int .u16 md, .string dt, .int .u64 sn] 39)).cell? ⟨w.heap.size, 6, none⟩ = some (.int .u16 md) := cell_of_row2 h0 6 rfl
 have y7 : (w.alloc (.cells #[.int .u8 k, .int .u32 fid, .int .u32 dir, .string nm, .int .u32 tof, .string nm2, .int .u16 md, .string dt, .int .u64 sn] 39)).cell? ⟨w.heap.size, 7, none⟩ = some (.string dt) := cell_of_row2 h0 7 rfl
 have y8 : (w.alloc (.cells #[.int .u8 k, .int .u32 fid, .int .u32 dir, .string nm, .int .u32 tof, .string nm2, .int .u16 md, .string dt, .int .u64 sn] 39)).cell? ⟨w.heap.size, 8, none⟩ = some (.int .u64 sn) := cell_of_row2 h0 8 rfl
 clear h0
 go_enter Tryz.func41, Tryz.ntmps41
 go_wp2_with (go_at_call 70; refine RC.out.mono ?_; rintro _ w1 ⟨rfl, hb1⟩)
 go_ret
 exact ⟨rfl, B0.out.trans (hb1.mono B0.out.size)⟩
set_option maxHeartbeats 2000000 in
theorem idxRec_c (lb cl : Nat) (o : Rec) (w : World) (hlb : w.heap[lb]? = some (.cells #[.int .u8 o.k, .int .u32 o.fid, .int .u32 o.dir, .string o.nm, .int .u32 o.to, .string o.nm2, .int .u16 o.md, .string o.dt, .int .u64 o.sn] 39 (0, 0))) (hw : o.Wf) (hr : rightF o = true) :
   Calls Tryz.prog 69 #[.slice (some ⟨lb, 0, none⟩) 1 cl, .func (.func 41) #[] #[]] w fun e w' => e = .returned (.int .i64 (-1)) ∧ Below w.heap.size w w' := by
 have WC := hid (swrong_c o w hw hr)
 clear hw hr
 obtain ⟨k, fid, dir, nm, tof, nm2, md, dt, sn⟩ := o
 simp only [Rec.recV] at *
 have y0 : w.cell? ⟨lb, 0, none⟩ = some (.int .u8 k) := cell_of_row2 hlb 0 rfl
 have y1 : w.cell? ⟨lb, 1, none⟩ = some (.int .u32 fid) := cell_of_row2 hlb 1 rfl
 have y2 : w.cell? ⟨lb, 2, none⟩ = some (.int .u32 dir) := cell_of_row2 hlb 2 rfl
 have y3 : w.cell? ⟨lb, 3, none⟩ = some (.string nm) := cell_of_row2 hlb 3 rfl
 have y4 : w.cell? ⟨lb, 4, none⟩ = some (.int .u32 tof) := cell_of_row2 hlb 4 rfl
 have y5 : w.cell? ⟨lb, 5, none⟩ = some (.string nm2) := cell_of_row2 hlb 5 rfl
 have y6 : w.cell? ⟨lb, 6, none⟩ = some (.int .u16 md) := cell_of_row2 hlb 6 rfl
 have y7 : w.cell? ⟨lb, 7, none⟩ = some (.string dt) := cell_of_row2 hlb 7 rfl
 have y8 : w.cell? ⟨lb, 8, none⟩ = some (.int .u64 sn) := cell_of_row2 hlb 8 rfl
 clear hlb
 go_enter Tryz.func69, Tryz.ntmps69
 go_wp2
 refine wp_loop_rounds 2 ?_
 rw [rounds_succ]
 go_wp2_with (go_at_call 41; refine WC.out.mono ?_; rintro _ w1 ⟨rfl, hb1⟩)
 rw [rounds_succ]
 go_wp2
 go_ret
 exact ⟨rfl, hb1⟩
set_option maxHeartbeats 1000000 in
theorem conRec_c (lb cl : Nat) (o : Rec) (w : World) (hlb : w.heap[lb]? = some (.cells #[.int .u8 o.k, .int .u32 o.fid, .int .u32 o.dir, .string o.nm, .int .u32 o.to, .string o.nm2, .int .u16 o.md, .string o.dt, .int .u64 o.sn] 39 (0, 0))) (hw : o.Wf) (hr : rightF o = true) :
   Calls Tryz.prog 40 #[.slice (some ⟨lb, 0, none⟩) 1 cl, .func (.func 41) #[] #[]] w fun e w' => e = .returned (.bool false) ∧ Below w.heap.size w w' := by
 have IC := hid (idxRec_c lb cl o w hlb hw hr)
 clear hlb hw hr
 go_enter Tryz.func40, Tryz.ntmps40
 go_wp2_with (go_at_call 69; refine IC.out.mono ?_; rintro _ w1 ⟨rfl, hb1⟩)
 go_ret
 exact ⟨rfl, hb1⟩
set_option maxHeartbeats 2000000 in
theorem fault1_c {p j : Nat} {w : World} (tv vv : Value) (ver d0 d1 d2 : Int) (hrow : w.heap[p]? = some (.cells #[pB j, tv, vv, .int .u64 ver, .int .u32 d0, .int .u32 d1, .int .u32 d2, .slice none 0 0] 79 (0, 0))) (lb cl : Nat) (o : Rec) (hlb : w.heap[lb]? = some (.cells #[.int .u8 o.k, .int .u32 o.fid, .int .u32 o.dir, .string o.nm, .int .u32 o.to, .string o.nm2, .int .u16 o.md, .string o.dt, .int .u64 o.sn] 39 (0, 0))) (hw : o.Wf) (hr : rightF o = true)
   (num : Int) (h1 : 1 ≤ num) (h2 : num ≤ d0 + 1) (h3 : num < 4294967295) (hd : 0 ≤ d0 ∧ d0 < 4294967295) :
   Calls Tryz.prog 20 #[.pointer (some ⟨p, 0, none⟩), .int .u8 1, .int .u32 num, .slice (some ⟨lb, 0, none⟩) 1 cl] w fun e w' => e = .returned (.int .i64 0) ∧ Below w.heap.size w w' := by
 have CC := hid (conRec_c lb cl o w hlb hw hr)
 have AC := hid (fun (W : World) (hW : Below w.heap.size w W) => applied1_c (w := W) (p := p) ((hW.block _ (lt_blkR hrow)).trans hrow))
 have IC := hid (fun W => isClient_c 1 W)
 have e1 : decide ((1 : Int) ≤ 1 ∧ (1 : Int) ≤ 3) = true := by decide
 rw [e1] at IC
 have n0 : (num == 0) = false := beq_eq_false_iff_ne.2 (by omega)
 have c1 : IntKind.u64.wrap num = num := by rw [IntKind.wrap_u64]; omega
 have c2 : IntKind.u64.wrap d0 = d0 := by rw [IntKind.wrap_u64]; omega
 have c3 : IntKind.u64.wrap (d0 + 1) = d0 + 1 := by rw [IntKind.wrap_u64]; omega
 have c4 : IntKind.u64.wrap (num + 1) = num + 1 := by rw [IntKind.wrap_u64]; omega
 have l1 : ¬ d0 + 1 < num := by omega
 have l2 : ¬ 4294967295 < num + 1 := by omega
 clear hrow hlb hw hr
 go_enter Tryz.func20, Tryz.ntmps20
 go_wp2_with (first
   | (go_at_call 14; refine (AC.out _ B1.out).mono ?_; rintro _ wz ⟨rfl, hwz⟩; rw [hwz]; clear hwz)
   | (go_at_call 40; refine CC.out.mono ?_; rintro _ w1 ⟨rfl, hb1⟩; have B1 := hid hb1; clear hb1)
   | (go_at_call 26; refine (IC.out _).mono ?_; rintro _ wz ⟨rfl, hwz⟩; rw [hwz]; clear hwz))
 go_ret
 exact ⟨rfl, B1.out⟩
set_option maxHeartbeats 4000000 in
theorem ship1_old {p j : Nat} {w : World} (ad bd : Addr) (ca cb : Nat) (l : List Nd) (ss : List St) (ver d0 d1 d2 : Int) (hrow : w.heap[p]? = some (.cells #[pB j, .slice (some ad) l.length ca, .slice (some bd) ss.length cb, .int .u64 ver, .int .u32 d0, .int .u32 d1, .int .u32 d2, .slice none 0 0] 79 (0, 0))) (h : Tr w (some ad) l) (hs : IsSs w (some bd) ss) (hl0 : 0 < l.length) (hm : l.length ≤ 900) (hll : ss.length = l.length)
   (lb cl : Nat) (o : Rec) (hlb : w.heap[lb]? = some (.cells #[.int .u8 o.k, .int .u32 o.fid, .int .u32 o.dir, .string o.nm, .int .u32 o.to, .string o.nm2, .int .u16 o.md, .string o.dt, .int .u64 o.sn] 39 (0, 0))) (hw : o.Wf) (hr : rightF o = true) (num : Int) (h1 : 1 ≤ num) (h2 : num ≤ d0) (hd : d0 < 4294967295) :
   Calls Tryz.prog 9 #[.pointer (some ⟨p, 0, none⟩), .int .u8 1, .int .u32 num, .slice (some ⟨lb, 0, none⟩) 1 cl] w fun e w' => ∃ ve, e = .returned (.tuple #[ve, .int .i64 0]) ∧ OwE w' w.heap.size ve [0] ∧ Below w.heap.size w w' := by
 have FC := hid (fault1_c _ _ ver d0 d1 d2 hrow lb cl o hlb hw hr num h1 (by omega) (by omega) (by omega))
 have BC := hid (fun (W : World) (hW : Below w.heap.size w W) => behind1_old p j lb cl o num ad bd ca cb l ss ver d0 d1 d2 W ((hW.block _ (lt_blkR hrow)).trans hrow) ((hW.block _ (lt_blkR hlb)).trans hlb) (h.later hW) (hs.later hW) hl0 hm hll (by omega) h2)
 have EC := hid (fun (W : World) (hW : Below w.heap.size w W) (tv2 vv2 : Value) => enter_old (j := j) (p := p) (w := W) (.slice (some ad) l.length ca) (.slice (some bd) ss.length cb) tv2 vv2 ver ver d0 d1 d2 ((hW.block _ (lt_blkR hrow)).trans hrow))
 clear hrow h hs hlb hw hr
 go_enter Tryz.func9, Tryz.ntmps9
 go_upto_region 5 with (first
   | (go_at_call 21; refine (BC.out _ B1.out).mono ?_; rintro _ w2 ⟨ag, ng, cg, ah, nh, ch, ve, rfl, ho2, hb2⟩; have O2 := hid (own_low ho2 (Nat.le_trans B1.out.size (Nat.le_succ _))); obtain ⟨va, vn, vc, rfl⟩ := own_sliceY ho2; have B2 := hid (B1.out.trans (hb2.mono B1.out.size)); clear ho2 hb2)
   | (go_at_call 20; refine FC.out.mono ?_; rintro _ w1 ⟨rfl, hb1⟩; have B1 := hid hb1; clear hb1))
 have b3 := below_1 w2 (.cells #[.slice ag ng cg, .slice ah nh ch, .int .u64 ver, .int .u32 d0, .int .u32 d1, .int .u32 d2, .slice none 0 0] 76)
 have g3 := heap_alloc_new w2 (.cells #[.slice ag ng cg, .slice ah nh ch, .int .u64 ver, .int .u32 d0, .int .u32 d1, .int .u32 d2, .slice none 0 0] 76)
 have B3 := hid (B2.out.trans (b3.mono B2.out.size))
 have O3 : Hid (OwE (w2.alloc (.cells #[.slice ag ng cg, .slice ah nh ch, .int .u64 ver, .int .u32 d0, .int .u32 d1, .int .u32 d2, .slice none 0 0] 76)) w.heap.size (.slice va vn vc) [0]) := hid (own_latR O2.out b3)
 clear b3
 generalize (w2.alloc (.cells #[.slice ag ng cg, .slice ah nh ch, .int .u64 ver, .int .u32 d0, .int .u32 d1, .int .u32 d2, .slice none 0 0] 76)) = V3 at *
 have q0 : V3.cell? ⟨w2.heap.size, 0, none⟩ = some (.slice ag ng cg) := cell_of_row2 g3 0 rfl
 have q1 : V3.cell? ⟨w2.heap.size, 1, none⟩ = some (.slice ah nh ch) := cell_of_row2 g3 1 rfl
 have q2 : V3.cell? ⟨w2.heap.size, 2, none⟩ = some (.int .u64 ver) := cell_of_row2 g3 2 rfl
 have q3 : V3.cell? ⟨w2.heap.size, 3, none⟩ = some (.int .u32 d0) := cell_of_row2 g3 3 rfl
 have q4 : V3.cell? ⟨w2.heap.size, 4, none⟩ = some (.int .u32 d1) := cell_of_row2 g3 4 rfl
 have q5 : V3.cell? ⟨w2.heap.size, 5, none⟩ = some (.int .u32 d2) := cell_of_row2 g3 5 rfl
 have q6 : V3.cell? ⟨w2.heap.size, 6, none⟩ = some (.slice none 0 0) := cell_of_row2 g3 6 rfl
 have EV := hid (EC.out V3 B3.out (.slice ag ng cg) (.slice ah nh ch))
 clear g3
 go_wp2_with (go_at_call 22; refine EV.out.mono ?_; rintro _ w4 ⟨rfl, hb4⟩)
 go_ret2
 exact ⟨_, rfl, own_latR O3.out hb4, B3.out.trans (hb4.mono B3.out.size)⟩
set_option maxHeartbeats 2000000 in
theorem appliedG_c {w : World} {p : Nat} {vj tv vv ve : Value} {ver d0 d1 d2 : Int} (cl dc : Int) (hcl : (cl = 1 ∧ dc = d0) ∨ (cl = 2 ∧ dc = d1) ∨ (cl = 3 ∧ dc = d2)) (h : w.heap[p]? = some (.cells #[vj, tv, vv, .int .u64 ver, .int .u32 d0, .int .u32 d1, .int .u32 d2, ve] 79 (0, 0))) :
   Calls Tryz.prog 14 #[.pointer (some ⟨p, 0, none⟩), .int .u8 cl] w fun e w' => e = .returned (.int .u32 dc) ∧ w' = w := by
 have k4 : w.cell? ⟨p, 4, none⟩ = some (.int .u32 d0) := cell_of_row2 h 4 rfl
 have k5 : w.cell? ⟨p, 5, none⟩ = some (.int .u32 d1) := cell_of_row2 h 5 rfl
 have k6 : w.cell? ⟨p, 6, none⟩ = some (.int .u32 d2) := cell_of_row2 h 6 rfl
 have IC := hid (fun W => isClient_c cl W)
 have e1 : decide (1 ≤ cl ∧ cl ≤ 3) = true := decide_eq_true (by omega)
 rw [e1] at IC
 clear h e1
 rcases hcl with ⟨rfl, rfl⟩ | ⟨rfl, rfl⟩ | ⟨rfl, rfl⟩ <;> (
   go_enter Tryz.func14, Tryz.ntmps14
   go_wp2_with (go_at_call 26; refine (IC.out _).mono ?_; rintro _ _ ⟨rfl, rfl⟩)
   go_ret
   exact ⟨rfl, rfl⟩)
set_option maxHeartbeats 2000000 in
theorem faultG_c {p j : Nat} {w : World} (tv vv : Value) (ver d0 d1 d2 : Int) (hrow : w.heap[p]? = some (.cells #[pB j, tv, vv, .int .u64 ver, .int .u32 d0, .int .u32 d1, .int .u32 d2, .slice none 0 0] 79 (0, 0))) (lb lc : Nat) (o : Rec) (hlb : w.heap[lb]? = some (.cells #[.int .u8 o.k, .int .u32 o.fid, .int .u32 o.dir, .string o.nm, .int .u32 o.to, .string o.nm2, .int .u16 o.md, .string o.dt, .int .u64 o.sn] 39 (0, 0))) (hw : o.Wf) (hr : rightF o = true)
   (num : Int) (h1 : 1 ≤ num) (cl dc : Int) (hcl : (cl = 1 ∧ dc = d0) ∨ (cl = 2 ∧ dc = d1) ∨ (cl = 3 ∧ dc = d2)) (h2 : num ≤ dc + 1) (h3 : num < 4294967295) (hd : 0 ≤ dc ∧ dc < 4294967295) :
   Calls Tryz.prog 20 #[.pointer (some ⟨p, 0, none⟩), .int .u8 cl, .int .u32 num, .slice (some ⟨lb, 0, none⟩) 1 lc] w fun e w' => e = .returned (.int .i64 0) ∧ Below w.heap.size w w' := by
 have CC := hid (conRec_c lb lc o w hlb hw hr)
 have AC := hid (fun (W : World) (hW : Below w.heap.size w W) => appliedG_c (w := W) (p := p) cl dc hcl ((hW.block _ (lt_blkR hrow)).trans hrow))
 have IC := hid (fun W => isClient_c cl W)
 have e1 : decide (1 ≤ cl ∧ cl ≤ 3) = true := decide_eq_true (by omega)
 rw [e1] at IC
 have n0 : (num == 0) = false := beq_eq_false_iff_ne.2 (by omega)
 have c1 : IntKind.u64.wrap num = num := by rw [IntKind.wrap_u64]; omega
 have c2 : IntKind.u64.wrap dc = dc := by rw [IntKind.wrap_u64]; omega
 have c3 : IntKind.u64.wrap (dc + 1) = dc + 1 := by rw [IntKind.wrap_u64]; omega
 have c4 : IntKind.u64.wrap (num + 1) = num + 1 := by rw [IntKind.wrap_u64]; omega
 have l1 : ¬ dc + 1 < num := by omega
 have l2 : ¬ 4294967295 < num + 1 := by omega
 clear hrow hlb hw hr
 go_enter Tryz.func20, Tryz.ntmps20
 go_wp2_with (first
   | (go_at_call 14; refine (AC.out _ B1.out).mono ?_; rintro _ wz ⟨rfl, hwz⟩; rw [hwz]; clear hwz)
   | (go_at_call 40; refine CC.out.mono ?_; rintro _ w1 ⟨rfl, hb1⟩; have B1 := hid hb1; clear hb1)
   | (go_at_call 26; refine (IC.out _).mono ?_; rintro _ wz ⟨rfl, hwz⟩; rw [hwz]; clear hwz))
 go_ret
 exact ⟨rfl, B1.out⟩
set_option maxHeartbeats 4000000 in
theorem shipG_c {base p j N : Nat} {t : Int} {w : World} (hJ : JH base w j N t) (hbp : base ≤ p) (ad bd : Addr) (ca cb : Nat) (l : List Nd) (ss : List St) (ver d0 d1 d2 : Int) (hrow : w.heap[p]? = some (.cells #[pB j, .slice (some ad) l.length ca, .slice (some bd) ss.length cb, .int .u64 ver, .int .u32 d0, .int .u32 d1, .int .u32 d2, .slice none 0 0] 79 (0, 0))) (h : Tr w (some ad) l) (hs : IsSs w (some bd) ss) (hl0 : 0 < l.length) (hm : l.length ≤ 900) (hll : ss.length = l.length)
   (lb lc : Nat) (o : Rec) (hlb : w.heap[lb]? = some (.cells #[.int .u8 o.k, .int .u32 o.fid, .int .u32 o.dir, .string o.nm, .int .u32 o.to, .string o.nm2, .int .u16 o.md, .string o.dt, .int .u64 o.sn] 39 (0, 0))) (hw : o.Wf) (hr : rightF o = true) (cl num : Int) (hcl : (cl = 1 ∧ num = d0 + 1) ∨ (cl = 2 ∧ num = d1 + 1) ∨ (cl = 3 ∧ num = d2 + 1)) (hd0 : 0 ≤ d0 ∧ d0 < 4294967294) (hd1 : 0 ≤ d1 ∧ d1 < 4294967294) (hd2 : 0 ≤ d2 ∧ d2 < 4294967294)
   (er : Int) (LF : List Nd) (SS : List St) (ver2 e0 e1 e2 : Int) (vs : List Vd) (hSW : ∀ s ∈ SS, s.Wf) (hSL : SS.length = LF.length) (hL0 : 0 < LF.length) (hL : LF.length ≤ 900)
   (DOP : ∀ (W : World) (nb base g g2 cap cap2 : Nat) (L : List Nd), base ≤ W.heap.size → W.heap[nb]? = some (.cells #[.slice (some ⟨g, 0, none⟩) L.length cap, .slice (some ⟨g2, 0, none⟩) ss.length cap2, .int .u64 ver, .int .u32 d0, .int .u32 d1, .int .u32 d2, .slice none 0 0] 76 (0, 0)) → NsO W base (.slice (some ⟨g, 0, none⟩) L.length cap) L → OwT W base (.slice (some ⟨g2, 0, none⟩) ss.length cap2) ss → L.map Nd.er = l.map Nd.er → Calls Tryz.prog 43 #[.pointer (some ⟨nb, 0, none⟩), .int .u8 cl, .int .u32 num, o.recV] W (DoG er LF SS ver2 e0 e1 e2 vs base nb W))
   (hok : ∀ x ∈ vs, x.Ok) (hv2 : 0 ≤ ver2 ∧ ver2 < 72057594037927936) (hle : ver ≤ ver2) (he0 : 0 ≤ e0 ∧ e0 < 4294967296) (he1 : 0 ≤ e1 ∧ e1 < 4294967296) (he2 : 0 ≤ e2 ∧ e2 < 4294967296) (hne : (e0 == d0 && (e1 == d1 && e2 == d2)) = false)
   (hRS : ∀ lw : List Nd, lw.map Nd.er = LF → RSnap lw SS) (hWF : ∀ lw : List Nd, lw.map Nd.er = LF → ∀ x ∈ lw, x.Wf)
   (hG : ∀ lw : List Nd, lw.map Nd.er = LF → Jo.okG [snapB lw SS, numB ver2 e0 e1 e2 ++ vsB vs] = true ∧ Jo.needF [snapB lw SS, numB ver2 e0 e1 e2 ++ vsB vs] ≤ asz N) (ht : t ≠ 4294967295) :
   Calls Tryz.prog 9 #[.pointer (some ⟨p, 0, none⟩), .int .u8 cl, .int .u32 num, .slice (some ⟨lb, 0, none⟩) 1 lc] w fun e w' => ∃ ve g cap g2 cap2 L2 qa qn qc, e = .returned (.tuple #[ve, .int .i64 0]) ∧ OwE w' w.heap.size ve [er] ∧ JH base w' j N (t + 1) ∧
     w'.heap[p]? = some (.cells #[pB j, .slice (some ⟨g, 0, none⟩) L2.length cap, .slice (some ⟨g2, 0, none⟩) SS.length cap2, .int .u64 ver2, .int .u32 e0, .int .u32 e1, .int .u32 e2, .slice qa qn qc] 79 (0, 0)) ∧ Tr w' (some ⟨g, 0, none⟩) L2 ∧ L2.map Nd.er = LF ∧ IsSs w' (some ⟨g2, 0, none⟩) SS ∧ IsVs w' (.slice qa qn qc) vs ∧ KeepP p w w' ∧ Below base w w' := by
 have hpl : p < w.heap.size := lt_blkR hrow
 obtain ⟨dc, hdc⟩ : ∃ dc, dc = num - 1 := ⟨_, rfl⟩
 have FC := hid (faultG_c _ _ ver d0 d1 d2 hrow lb lc o hlb hw hr num (by omega) cl dc (by omega) (by omega) (by omega) (by omega))
 have SWF := hid hSW
 have BC := hid (fun (W : World) (hW : Below w.heap.size w W) => behindG_c p j lb lc o num ad bd ca cb l ss ver d0 d1 d2 W ((hW.block _ (lt_blkR hrow)).trans hrow) ((hW.block _ (lt_blkR hlb)).trans hlb) (h.later hW) (hs.later hW) hl0 hm hll (by omega) cl (by omega) er LF SS ver2 e0 e1 e2 vs DOP)
 have SLN := hid hSL
 have EC := hid (fun (W : World) (hW : Below w.heap.size w W) (a2 b2 : Addr) (c2 c3 : Nat) (lw : List Nd) (hlw : lw.map Nd.er = LF) (hN : IsNs W (some a2) lw) (hS : IsSs W (some b2) SS) (qa : Option Addr) (qn qc : Nat) (hV : IsVs W (.slice qa qn qc) vs) =>
   enterG_c (hJ.later hW) hbp (.slice (some ad) l.length ca) (.slice (some bd) ss.length cb) ver d0 d1 d2 ((hW.block _ hpl).trans hrow) a2 b2 c2 c3 lw SS ver2 e0 e1 e2 hN hS (by have := congrArg List.length hlw; simp only [List.length_map] at this; omega) (by omega) qa qn qc vs hV hok (hRS lw hlw) (hWF lw hlw) hv2 he0 he1 he2 (hG lw hlw).1 (hG lw hlw).2 ht hne hle)
 have HPL := hid hpl
 have HL0 := hid hL0
 have HL9 := hid hL
 clear hrow h hs hlb hw hr DOP hok hRS hWF hG ht hJ hSW hSL hne hdc
 go_enter Tryz.func9, Tryz.ntmps9
 go_upto_region 5 with (first
   | (go_at_call 21; refine (BC.out _ B1.out).mono ?_; rintro _ w2 ⟨g, cap, g2, cap2, L2, qa, qn, qc, ve, rfl, hn2, he2, ht2, hq2, ho2, hb2⟩; have O2 := hid ho2; have Q2 := hid hq2; obtain ⟨va, vn, vc, rfl⟩ := own_sliceY ho2; have N2 := hid hn2; have E2 := hid he2; have T2 := hid ht2; have B2 := hid (B1.out.trans (hb2.mono B1.out.size)); clear ho2 hb2 hn2 he2 ht2 hq2)
   | (go_at_call 20; refine FC.out.mono ?_; rintro _ w1 ⟨rfl, hb1⟩; have B1 := hid hb1; clear hb1))
 obtain ⟨sl, hsl⟩ : ∃ sl, sl = SS.length := ⟨_, rfl⟩
 rw [← hsl]
 have HSL := hid hsl
 clear hsl
 have b3 := below_1 w2 (.cells #[.slice (some ⟨g, 0, none⟩) L2.length cap, .slice (some ⟨g2, 0, none⟩) sl cap2, .int .u64 ver2, .int .u32 e0, .int .u32 e1, .int .u32 e2, .slice qa qn qc] 76)
 have g3 := heap_alloc_new w2 (.cells #[.slice (some ⟨g, 0, none⟩) L2.length cap, .slice (some ⟨g2, 0, none⟩) sl cap2, .int .u64 ver2, .int .u32 e0, .int .u32 e1, .int .u32 e2, .slice qa qn qc] 76)
 have B3 := hid (B2.out.trans (b3.mono B2.out.size))
 have O3 : Hid (OwE (w2.alloc (.cells #[.slice (some ⟨g, 0, none⟩) L2.length cap, .slice (some ⟨g2, 0, none⟩) sl cap2, .int .u64 ver2, .int .u32 e0, .int .u32 e1, .int .u32 e2, .slice qa qn qc] 76)) (w1.heap.size + 1) (.slice va vn vc) [er]) := hid (own_latR O2.out b3)
 have N3 := hid (N2.out.later b3)
 have T3 := hid (T2.out.later b3)
 have Q3 := hid (Q2.out.later b3)
 clear b3
 generalize (w2.alloc (.cells #[.slice (some ⟨g, 0, none⟩) L2.length cap, .slice (some ⟨g2, 0, none⟩) sl cap2, .int .u64 ver2, .int .u32 e0, .int .u32 e1, .int .u32 e2, .slice qa qn qc] 76)) = V3 at *
 have q0 : V3.cell? ⟨w2.heap.size, 0, none⟩ = some (.slice (some ⟨g, 0, none⟩) L2.length cap) := cell_of_row2 g3 0 rfl
 have q1 : V3.cell? ⟨w2.heap.size, 1, none⟩ = some (.slice (some ⟨g2, 0, none⟩) sl cap2) := cell_of_row2 g3 1 rfl
 have q2 : V3.cell? ⟨w2.heap.size, 2, none⟩ = some (.int .u64 ver2) := cell_of_row2 g3 2 rfl
 have q3 : V3.cell? ⟨w2.heap.size, 3, none⟩ = some (.int .u32 e0) := cell_of_row2 g3 3 rfl
 have q4 : V3.cell? ⟨w2.heap.size, 4, none⟩ = some (.int .u32 e1) := cell_of_row2 g3 4 rfl
 have q5 : V3.cell? ⟨w2.heap.size, 5, none⟩ = some (.int .u32 e2) := cell_of_row2 g3 5 rfl
 have q6 : V3.cell? ⟨w2.heap.size, 6, none⟩ = some (.slice qa qn qc) := cell_of_row2 g3 6 rfl
 have LL2 : Hid (L2.length = LF.length) := hid (by have := congrArg List.length E2.out; simpa using this)
 obtain ⟨gx, cx, ex, _, htr⟩ := OwN.trN N3.out.1 (fun x hx => N3.out.2 x hx) (by rw [LL2.out]; exact hL0) (by rw [LL2.out]; omega)
 obtain ⟨q8, q9⟩ : gx = g ∧ cx = cap := by simp only [Value.slice.injEq, Option.some.injEq, Addr.mk.injEq] at ex; exact ⟨ex.1.1.symm, ex.2.2.symm⟩
 subst q8 q9
 obtain ⟨gy, cy, ey, _, hst⟩ := OwT.is T3.out SWF.out (by rw [SLN.out]; exact hL0) (by rw [SLN.out]; omega)
 obtain ⟨q8, q9⟩ : gy = g2 ∧ cy = cap2 := by simp only [Value.slice.injEq, Option.some.injEq, Addr.mk.injEq] at ey; exact ⟨ey.1.1.symm, ey.2.2.symm⟩
 subst q8 q9
 have EV0 := EC.out V3 B3.out ⟨gx, 0, none⟩ ⟨gy, 0, none⟩ cx cy L2 E2.out htr.1 hst qa qn qc Q3.out.is
 rw [← HSL.out] at EV0
 have EV := hid EV0
 have BZ := hid (Nat.le_trans B1.out.size (Nat.le_refl w1.heap.size))
 have Z3 : Hid (w1.heap.size + 1 ≤ V3.heap.size) := hid (by have := lt_blkR g3; have h1 := (own_of N3.out.1).1; obtain ⟨_, _, _, cu, hcu, _⟩ := own_of N3.out.1; have := lt_blkR hcu; omega)
 clear g3 ex ey htr hst EV0
 go_wp2_with (go_at_call 22; refine EV.out.mono ?_; rintro _ w4 ⟨rfl, hj4, hr4, hk4, hb4, hz4⟩)
 go_ret2
 have K4 := hk4.kb (base := w1.heap.size + 1) (by have := BZ.out; have := HPL.out; omega)
 have N4 := N3.out.kb K4
 have T4 := T3.out.kb K4
 have Q4 := (Q3.out.kb K4).is
 obtain ⟨gz, cz, ez, _, htr⟩ := OwN.trN N4.1 (fun x hx => N4.2 x hx) (by rw [LL2.out]; exact hL0) (by rw [LL2.out]; omega)
 obtain ⟨q8, q9⟩ : gz = gx ∧ cz = cx := by simp only [Value.slice.injEq, Option.some.injEq, Addr.mk.injEq] at ez; exact ⟨ez.1.1.symm, ez.2.2.symm⟩
 subst q8 q9
 obtain ⟨gw, cw, ew, _, hst⟩ := OwT.is T4 SWF.out (by rw [SLN.out]; exact hL0) (by rw [SLN.out]; omega)
 obtain ⟨q8, q9⟩ : gw = gy ∧ cw = cy := by simp only [Value.slice.injEq, Option.some.injEq, Addr.mk.injEq] at ew; exact ⟨ew.1.1.symm, ew.2.2.symm⟩
 subst q8 q9
 refine ⟨_, gz, cz, gw, cw, L2, qa, qn, qc, rfl, own_low (own_kbS O3.out K4) (Nat.le_trans BZ.out (Nat.le_succ _)), hj4, ?_, htr, E2.out, hst, Q4, (KeepP.of B3.out).trans hk4, (B3.out.mono (Nat.le_trans hbp (Nat.le_of_lt HPL.out))).trans hb4⟩
 rw [← HSL.out]
 exact hr4
end Go.Proofs.YtpolbbdaippclaaGreat
