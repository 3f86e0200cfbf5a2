/-
  The first state of a server.
  A state copied, with lists of its own (copied).
-/
import Derived.Test.YtpolbbdaippclaaGreatNnAu
import Derived.Test.YtpolbbdaippclaaGreatNnBg
import Derived.Test.YtpolbbdaippclaaGreatNnBh
namespace Go.Proofs.YtpolbbdaippclaaGreat
open Go.RowKit Go.ChangeShapes Go.WideShapes Go.ChangeAt Go.Maps Go.Shelf
set_option linter.unusedVariables false
set_option linter.unusedSimpArgs false
set_option maxRecDepth 100000
theorem seven_cells {W : World} {A T : Nat} {u0 u1 u2 u3 u4 u5 u6 : Value} (h : W.heap[A]? = some (.cells #[u0, u1, u2, u3, u4, u5, u6] T (0, 0))) (v0 v1 v2 v3 v4 v5 v6 : Value) :
   (((((((W.setCell ⟨A, 0, none⟩ (v0)).setCell ⟨A, 1, none⟩ (v1)).setCell ⟨A, 2, none⟩ (v2)).setCell ⟨A, 3, none⟩ (v3)).setCell ⟨A, 4, none⟩ (v4)).setCell ⟨A, 5, none⟩ (v5)).setCell ⟨A, 6, none⟩ (v6)).heap[A]? = some (.cells #[v0, v1, v2, v3, v4, v5, v6] T (0, 0)) := by
 simp only [World.setCell]
 simp [Array.getElem?_modify, h]
set_option maxHeartbeats 4000000 in
theorem firstState_c (w : World) : Calls Tryz.prog 38 #[] w fun e w' => ∃ g s, e = .returned (.agg #[.slice (some ⟨g, 0, none⟩) 1 1, .slice (some ⟨s, 0, none⟩) 1 1, .int .u64 1, .int .u32 0, .int .u32 0, .int .u32 0, .slice none 0 0]) ∧ w.heap.size ≤ g ∧ w.heap.size ≤ s ∧ w'.heap[g]? = some (.cells #[.int .u32 1, .int .u8 2, .int .u16 0, .int .u16 0, .slice none 0 0, .slice none 0 0] 52 (0, 0)) ∧ w'.heap[s]? = some (.cells #[.int .u32 1, .int .u64 1, .int .u8 0] 47 (0, 0)) ∧ Below w.heap.size w w' := by
 have FC := hid (fun W => firstSnap_c W)
 have b1 := below_1 w (.cells #[.slice none 0 0, .slice none 0 0, .int .u64 0, .int .u32 0, .int .u32 0, .int .u32 0, .slice none 0 0] 76)
 have hR := heap_alloc_new w (.cells #[.slice none 0 0, .slice none 0 0, .int .u64 0, .int .u32 0, .int .u32 0, .int .u32 0, .slice none 0 0] 76)
 have B1 := hid b1
 have HR : Hid (∀ W, Below (w.alloc (.cells #[.slice none 0 0, .slice none 0 0, .int .u64 0, .int .u32 0, .int .u32 0, .int .u32 0, .slice none 0 0] 76)).heap.size (w.alloc (.cells #[.slice none 0 0, .slice none 0 0, .int .u64 0, .int .u32 0, .int .u32 0, .int .u32 0, .slice none 0 0] 76)) W → W.heap[w.heap.size]? = some (.cells #[.slice none 0 0, .slice none 0 0, .int .u64 0, .int .u32 0, .int .u32 0, .int .u32 0, .slice none 0 0] 76 (0, 0))) := hid (fun W h => (h.block _ (lt_blkR hR)).trans hR)
 have SZ : Hid ((w.alloc (.cells #[.slice none 0 0, .slice none 0 0, .int .u64 0, .int .u32 0, .int .u32 0, .int .u32 0, .slice none 0 0] 76)).heap.size = w.heap.size + 1) := hid (by simp)
 clear b1 hR
 go_enter Tryz.func38, Tryz.ntmps38
 go_wp2_with (go_at_call 62; refine (FC.out _).mono ?_; rintro _ w1 ⟨g, s, rfl, hg, hs, rg, rs, hb1⟩; have D1 := hid hb1; have HG := hid hg; have HS := hid hs; have RG := hid rg; have RS := hid rs; have R1 := HR.out _ hb1; have r0 : w1.cell? ⟨w.heap.size, 0, none⟩ = some (.slice none 0 0) := cell_of_row2 R1 0 rfl; have r1 : w1.cell? ⟨w.heap.size, 1, none⟩ = some (.slice none 0 0) := cell_of_row2 R1 1 rfl; have r2 : w1.cell? ⟨w.heap.size, 2, none⟩ = some (.int .u64 0) := cell_of_row2 R1 2 rfl; have r3 : w1.cell? ⟨w.heap.size, 3, none⟩ = some (.int .u32 0) := cell_of_row2 R1 3 rfl; have r4 : w1.cell? ⟨w.heap.size, 4, none⟩ = some (.int .u32 0) := cell_of_row2 R1 4 rfl; have r5 : w1.cell? ⟨w.heap.size, 5, none⟩ = some (.int .u32 0) := cell_of_row2 R1 5 rfl; have r6 : w1.cell? ⟨w.heap.size, 6, none⟩ = some (.slice none 0 0) := cell_of_row2 R1 6 rfl; have fz : ∀ i, w1.frozen? ⟨w.heap.size, i, none⟩ = false := fun i => (by simp [World.frozen?, R1]); clear hg hs rg rs hb1)
 have Q9 := seven_cells R1 (.slice (some ⟨g, 0, none⟩) 1 1) (.slice (some ⟨s, 0, none⟩) 1 1) (.int .u64 1) (.int .u32 0) (.int .u32 0) (.int .u32 0) (.slice none 0 0)
 have sz := SZ.out
 have lg := HG.out
 have ls := HS.out
 rw [sz] at lg ls
 have X1 := hid ((Below.heap_setCell ((((((w1.setCell ⟨w.heap.size, 0, none⟩ (.slice (some ⟨g, 0, none⟩) 1 1)).setCell ⟨w.heap.size, 1, none⟩ (.slice (some ⟨s, 0, none⟩) 1 1)).setCell ⟨w.heap.size, 2, none⟩ (.int .u64 1)).setCell ⟨w.heap.size, 3, none⟩ (.int .u32 0)).setCell ⟨w.heap.size, 4, none⟩ (.int .u32 0)).setCell ⟨w.heap.size, 5, none⟩ (.int .u32 0)) ⟨w.heap.size, 6, none⟩ (.slice none 0 0) g (by simp; omega)).trans ((Below.heap_setCell (((((w1.setCell ⟨w.heap.size, 0, none⟩ (.slice (some ⟨g, 0, none⟩) 1 1)).setCell ⟨w.heap.size, 1, none⟩ (.slice (some ⟨s, 0, none⟩) 1 1)).setCell ⟨w.heap.size, 2, none⟩ (.int .u64 1)).setCell ⟨w.heap.size, 3, none⟩ (.int .u32 0)).setCell ⟨w.heap.size, 4, none⟩ (.int .u32 0)) ⟨w.heap.size, 5, none⟩ (.int .u32 0) g (by simp; omega)).trans ((Below.heap_setCell ((((w1.setCell ⟨w.heap.size, 0, none⟩ (.slice (some ⟨g, 0, none⟩) 1 1)).setCell ⟨w.heap.size, 1, none⟩ (.slice (some ⟨s, 0, none⟩) 1 1)).setCell ⟨w.heap.size, 2, none⟩ (.int .u64 1)).setCell ⟨w.heap.size, 3, none⟩ (.int .u32 0)) ⟨w.heap.size, 4, none⟩ (.int .u32 0) g (by simp; omega)).trans ((Below.heap_setCell (((w1.setCell ⟨w.heap.size, 0, none⟩ (.slice (some ⟨g, 0, none⟩) 1 1)).setCell ⟨w.heap.size, 1, none⟩ (.slice (some ⟨s, 0, none⟩) 1 1)).setCell ⟨w.heap.size, 2, none⟩ (.int .u64 1)) ⟨w.heap.size, 3, none⟩ (.int .u32 0) g (by simp; omega)).trans ((Below.heap_setCell ((w1.setCell ⟨w.heap.size, 0, none⟩ (.slice (some ⟨g, 0, none⟩) 1 1)).setCell ⟨w.heap.size, 1, none⟩ (.slice (some ⟨s, 0, none⟩) 1 1)) ⟨w.heap.size, 2, none⟩ (.int .u64 1) g (by simp; omega)).trans ((Below.heap_setCell (w1.setCell ⟨w.heap.size, 0, none⟩ (.slice (some ⟨g, 0, none⟩) 1 1)) ⟨w.heap.size, 1, none⟩ (.slice (some ⟨s, 0, none⟩) 1 1) g (by simp; omega)).trans ((Below.heap_setCell w1 ⟨w.heap.size, 0, none⟩ (.slice (some ⟨g, 0, none⟩) 1 1) g (by simp; omega)).trans RG.out)))))))
 have X2 := hid ((Below.heap_setCell ((((((w1.setCell ⟨w.heap.size, 0, none⟩ (.slice (some ⟨g, 0, none⟩) 1 1)).setCell ⟨w.heap.size, 1, none⟩ (.slice (some ⟨s, 0, none⟩) 1 1)).setCell ⟨w.heap.size, 2, none⟩ (.int .u64 1)).setCell ⟨w.heap.size, 3, none⟩ (.int .u32 0)).setCell ⟨w.heap.size, 4, none⟩ (.int .u32 0)).setCell ⟨w.heap.size, 5, none⟩ (.int .u32 0)) ⟨w.heap.size, 6, none⟩ (.slice none 0 0) s (by simp; omega)).trans ((Below.heap_setCell (((((w1.setCell ⟨w.heap.size, 0, none⟩ (.slice (some ⟨g, 0, none⟩) 1 1)).setCell ⟨w.heap.size, 1, none⟩ (.slice (some ⟨s, 0, none⟩) 1 1)).setCell ⟨w.heap.size, 2, none⟩ (.int .u64 1)).setCell ⟨w.heap.size, 3, none⟩ (.int .u32 0)).setCell ⟨w.heap.size, 4, none⟩ (.int .u32 0)) ⟨w.heap.size, 5, none⟩ (.int .u32 0) s (by simp; omega)).trans ((Below.heap_setCell ((((w1.setCell ⟨w.heap.size, 0, none⟩ (.slice (some ⟨g, 0, none⟩) 1 1)).setCell ⟨w.heap.size, 1, none⟩ (.slice (some ⟨s, 0, none⟩) 1 1)).setCell ⟨w.heap.size, 2, none⟩ (.int .u64 1)).setCell ⟨w.heap.size, 3, none⟩ (.int .u32 0)) ⟨w.heap.size, 4, none⟩ (.int .u32 0) s (by simp; omega)).trans ((Below.heap_setCell (((w1.setCell ⟨w.heap.size, 0, none⟩ (.slice (some ⟨g, 0, none⟩) 1 1)).setCell ⟨w.heap.size, 1, none⟩ (.slice (some ⟨s, 0, none⟩) 1 1)).setCell ⟨w.heap.size, 2, none⟩ (.int .u64 1)) ⟨w.heap.size, 3, none⟩ (.int .u32 0) s (by simp; omega)).trans ((Below.heap_setCell ((w1.setCell ⟨w.heap.size, 0, none⟩ (.slice (some ⟨g, 0, none⟩) 1 1)).setCell ⟨w.heap.size, 1, none⟩ (.slice (some ⟨s, 0, none⟩) 1 1)) ⟨w.heap.size, 2, none⟩ (.int .u64 1) s (by simp; omega)).trans ((Below.heap_setCell (w1.setCell ⟨w.heap.size, 0, none⟩ (.slice (some ⟨g, 0, none⟩) 1 1)) ⟨w.heap.size, 1, none⟩ (.slice (some ⟨s, 0, none⟩) 1 1) s (by simp; omega)).trans ((Below.heap_setCell w1 ⟨w.heap.size, 0, none⟩ (.slice (some ⟨g, 0, none⟩) 1 1) s (by simp; omega)).trans RS.out)))))))
 have B9 := hid ((((((((B1.out.trans (D1.out.mono B1.out.size)).setCell (p := ⟨w.heap.size, 0, none⟩) (Nat.le_refl _) (.slice (some ⟨g, 0, none⟩) 1 1)).setCell (p := ⟨w.heap.size, 1, none⟩) (Nat.le_refl _) (.slice (some ⟨s, 0, none⟩) 1 1)).setCell (p := ⟨w.heap.size, 2, none⟩) (Nat.le_refl _) (.int .u64 1)).setCell (p := ⟨w.heap.size, 3, none⟩) (Nat.le_refl _) (.int .u32 0)).setCell (p := ⟨w.heap.size, 4, none⟩) (Nat.le_refl _) (.int .u32 0)).setCell (p := ⟨w.heap.size, 5, none⟩) (Nat.le_refl _) (.int .u32 0)).setCell (p := ⟨w.heap.size, 6, none⟩) (Nat.le_refl _) (.slice none 0 0))
 clear r0 r1 r2 r3 r4 r5 r6 fz R1
 generalize (((((((w1.setCell ⟨w.heap.size, 0, none⟩ (.slice (some ⟨g, 0, none⟩) 1 1)).setCell ⟨w.heap.size, 1, none⟩ (.slice (some ⟨s, 0, none⟩) 1 1)).setCell ⟨w.heap.size, 2, none⟩ (.int .u64 1)).setCell ⟨w.heap.size, 3, none⟩ (.int .u32 0)).setCell ⟨w.heap.size, 4, none⟩ (.int .u32 0)).setCell ⟨w.heap.size, 5, none⟩ (.int .u32 0)).setCell ⟨w.heap.size, 6, none⟩ (.slice none 0 0)) = W9 at *
 have r0 : W9.cell? ⟨w.heap.size, 0, none⟩ = some (.slice (some ⟨g, 0, none⟩) 1 1) := cell_of_row2 Q9 0 rfl
 have r1 : W9.cell? ⟨w.heap.size, 1, none⟩ = some (.slice (some ⟨s, 0, none⟩) 1 1) := cell_of_row2 Q9 1 rfl
 have r2 : W9.cell? ⟨w.heap.size, 2, none⟩ = some (.int .u64 1) := cell_of_row2 Q9 2 rfl
 have r3 : W9.cell? ⟨w.heap.size, 3, none⟩ = some (.int .u32 0) := cell_of_row2 Q9 3 rfl
 have r4 : W9.cell? ⟨w.heap.size, 4, none⟩ = some (.int .u32 0) := cell_of_row2 Q9 4 rfl
 have r5 : W9.cell? ⟨w.heap.size, 5, none⟩ = some (.int .u32 0) := cell_of_row2 Q9 5 rfl
 have r6 : W9.cell? ⟨w.heap.size, 6, none⟩ = some (.slice none 0 0) := cell_of_row2 Q9 6 rfl
 refine bodyPost_ret (v := .agg #[.slice (some ⟨g, 0, none⟩) 1 1, .slice (some ⟨s, 0, none⟩) 1 1, .int .u64 1, .int .u32 0, .int .u32 0, .int .u32 0, .slice none 0 0]) (by simp [results, Tryz.results38, go_sem, r0, r1, r2, r3, r4, r5, r6]) rfl ⟨g, s, rfl, by omega, by omega, X1.out, X2.out, B9.out⟩
theorem two_cells2 {W : World} {A T : Nat} {u0 u1 u2 u3 u4 u5 u6 : Value} (h : W.heap[A]? = some (.cells #[u0, u1, u2, u3, u4, u5, u6] T (0, 0))) (v0 v1 : Value) :
   ((W.setCell ⟨A, 0, none⟩ v0).setCell ⟨A, 1, none⟩ v1).heap[A]? = some (.cells #[v0, v1, u2, u3, u4, u5, u6] T (0, 0)) := by
 simp only [World.setCell]
 simp [Array.getElem?_modify, h]
set_option maxHeartbeats 1000000 in
theorem cloneV_nil (w : World) : Calls Tryz.prog 24 #[.slice none 0 0] w fun e w' => e = .returned (.slice none 0 0) ∧ w' = w := by
 have hq : ∀ w, (binOp .eql 55 (.slice none 0 0) (.slice none 0 0)).run Tryz.prog w = .ok (.bool true) w := fun w => Lib.run_eql_slice_nil w _ _ _ _ _ _ _ Tryz.underlying55
 go_enter Tryz.func24, Tryz.ntmps24
 go_wp2
 go_ret
 exact ⟨rfl, rfl⟩
set_option maxHeartbeats 8000000 in
theorem copied_c (p j : Nat) (ad bd : Addr) (ca cb : Nat) (l : List Nd) (ss : List St) (ver d0 d1 d2 : Int) (w : World) (hrow : w.heap[p]? = some (.cells #[pB j, .slice (some ad) l.length ca, .slice (some bd) ss.length cb, .int .u64 ver, .int .u32 d0, .int .u32 d1, .int .u32 d2, .slice none 0 0] 79 (0, 0))) (h : Tr w (some ad) l) (hs : IsSs w (some bd) ss) (hm : l.length ≤ 900) (hm' : ss.length ≤ 900) :
   Calls Tryz.prog 34 #[.pointer (some ⟨p, 1, none⟩)] w fun e w' => ∃ v u L, e = .returned (.agg #[v, u, .int .u64 ver, .int .u32 d0, .int .u32 d1, .int .u32 d2, .slice none 0 0]) ∧ OwN w' w.heap.size v L ∧ L.map Nd.er = l.map Nd.er ∧ (∀ x ∈ L, NdR w' w.heap.size x) ∧ OwT w' w.heap.size u ss ∧ Below w.heap.size w w' := by
 have k1 : w.cell? ⟨p, 1, none⟩ = some (.slice (some ad) l.length ca) := cell_of_row2 hrow 1 rfl
 have k2 : w.cell? ⟨p, 2, none⟩ = some (.slice (some bd) ss.length cb) := cell_of_row2 hrow 2 rfl
 have k3 : w.cell? ⟨p, 3, none⟩ = some (.int .u64 ver) := cell_of_row2 hrow 3 rfl
 have k4 : w.cell? ⟨p, 4, none⟩ = some (.int .u32 d0) := cell_of_row2 hrow 4 rfl
 have k5 : w.cell? ⟨p, 5, none⟩ = some (.int .u32 d1) := cell_of_row2 hrow 5 rfl
 have k6 : w.cell? ⟨p, 6, none⟩ = some (.int .u32 d2) := cell_of_row2 hrow 6 rfl
 have k7 : w.cell? ⟨p, 7, none⟩ = some (.slice none 0 0) := cell_of_row2 hrow 7 rfl
 have hpl : p < w.heap.size := lt_blkR hrow
 have HROW := hid hrow
 have HT := hid h
 have HS := hid hs
 have b1 := below_1 w (.cells #[.slice none 0 0, .slice none 0 0, .int .u64 0, .int .u32 0, .int .u32 0, .int .u32 0, .slice none 0 0] 76)
 have g1 := heap_alloc_new w (.cells #[.slice none 0 0, .slice none 0 0, .int .u64 0, .int .u32 0, .int .u32 0, .int .u32 0, .slice none 0 0] 76)
 have b2 := below_1 (w.alloc (.cells #[.slice none 0 0, .slice none 0 0, .int .u64 0, .int .u32 0, .int .u32 0, .int .u32 0, .slice none 0 0] 76)) (.cells #[.slice (some ad) l.length ca, .slice (some bd) ss.length cb, .int .u64 ver, .int .u32 d0, .int .u32 d1, .int .u32 d2, .slice none 0 0] 76)
 have g2 := heap_alloc_new (w.alloc (.cells #[.slice none 0 0, .slice none 0 0, .int .u64 0, .int .u32 0, .int .u32 0, .int .u32 0, .slice none 0 0] 76)) (.cells #[.slice (some ad) l.length ca, .slice (some bd) ss.length cb, .int .u64 ver, .int .u32 d0, .int .u32 d1, .int .u32 d2, .slice none 0 0] 76)
 rw [show (w.alloc (.cells #[.slice none 0 0, .slice none 0 0, .int .u64 0, .int .u32 0, .int .u32 0, .int .u32 0, .slice none 0 0] 76)).heap.size = w.heap.size + 1 by simp] at g2
 have g1' := (b2.block _ (lt_blkR g1)).trans g1
 have BV := hid (b1.trans (b2.mono b1.size))
 have LV : Hid (((w.alloc (.cells #[.slice none 0 0, .slice none 0 0, .int .u64 0, .int .u32 0, .int .u32 0, .int .u32 0, .slice none 0 0] 76)).alloc (.cells #[.slice (some ad) l.length ca, .slice (some bd) ss.length cb, .int .u64 ver, .int .u32 d0, .int .u32 d1, .int .u32 d2, .slice none 0 0] 76)).heap.size = w.heap.size + 2) := hid (by simp)
 clear b2 g1 h hs hrow
 go_enter Tryz.func34, Tryz.ntmps34
 go_upto_region 1 with fail
 have m1 : (w.alloc (.cells #[.slice none 0 0, .slice none 0 0, .int .u64 0, .int .u32 0, .int .u32 0, .int .u32 0, .slice none 0 0] 76)).cell? ⟨p, 1, none⟩ = some (.slice (some ad) l.length ca) := cell_later b1 k1
 have m2 : (w.alloc (.cells #[.slice none 0 0, .slice none 0 0, .int .u64 0, .int .u32 0, .int .u32 0, .int .u32 0, .slice none 0 0] 76)).cell? ⟨p, 2, none⟩ = some (.slice (some bd) ss.length cb) := cell_later b1 k2
 have m3 : (w.alloc (.cells #[.slice none 0 0, .slice none 0 0, .int .u64 0, .int .u32 0, .int .u32 0, .int .u32 0, .slice none 0 0] 76)).cell? ⟨p, 3, none⟩ = some (.int .u64 ver) := cell_later b1 k3
 have m4 : (w.alloc (.cells #[.slice none 0 0, .slice none 0 0, .int .u64 0, .int .u32 0, .int .u32 0, .int .u32 0, .slice none 0 0] 76)).cell? ⟨p, 4, none⟩ = some (.int .u32 d0) := cell_later b1 k4
 have m5 : (w.alloc (.cells #[.slice none 0 0, .slice none 0 0, .int .u64 0, .int .u32 0, .int .u32 0, .int .u32 0, .slice none 0 0] 76)).cell? ⟨p, 5, none⟩ = some (.int .u32 d1) := cell_later b1 k5
 have m6 : (w.alloc (.cells #[.slice none 0 0, .slice none 0 0, .int .u64 0, .int .u32 0, .int .u32 0, .int .u32 0, .slice none 0 0] 76)).cell? ⟨p, 6, none⟩ = some (.int .u32 d2) := cell_later b1 k6
 have m7 : (w.alloc (.cells #[.slice none 0 0, .slice none 0 0, .int .u64 0, .int .u32 0, .int .u32 0, .int .u32 0, .slice none 0 0] 76)).cell? ⟨p, 7, none⟩ = some (.slice none 0 0) := cell_later b1 k7
 clear k1 k2 k3 k4 k5 k6 k7 b1
 have z1 : (w.alloc (.cells #[.slice none 0 0, .slice none 0 0, .int .u64 0, .int .u32 0, .int .u32 0, .int .u32 0, .slice none 0 0] 76)).heap.size = w.heap.size + 1 := by simp
 generalize (w.alloc (.cells #[.slice none 0 0, .slice none 0 0, .int .u64 0, .int .u32 0, .int .u32 0, .int .u32 0, .slice none 0 0] 76)) = V1 at *
 go_upto_region 2 with fail
 clear m1 m2 m3 m4 m5 m6 m7
 generalize (V1.alloc (.cells #[.slice (some ad) l.length ca, .slice (some bd) ss.length cb, .int .u64 ver, .int .u32 d0, .int .u32 d1, .int .u32 d2, .slice none 0 0] 76)) = V at *
 clear z1
 have HZ := hid g1'
 have HR := hid g2
 have hp2 := (BV.out.block p hpl).trans HROW.out
 have m1 : V.cell? ⟨p, 1, none⟩ = some (.slice (some ad) l.length ca) := cell_of_row2 hp2 1 rfl
 have m2 : V.cell? ⟨p, 2, none⟩ = some (.slice (some bd) ss.length cb) := cell_of_row2 hp2 2 rfl
 have CS := hid (copySnap_c ad bd ca cb l ss V (HT.out.later BV.out) (HS.out.later BV.out) hm hm')
 clear g1' g2 hp2
 go_upto_region 3 with (go_at_call 23; refine CS.out.mono ?_; rintro _ w1 ⟨v1, u1, L, rfl, ho1, he1, hn1, ht1, hb1⟩; obtain ⟨va, vc, rfl⟩ := OwN.shape ho1; obtain ⟨ua, un, uc, rfl⟩ := own_sliceY ht1; have O1 := hid ho1; have E1 := hid he1; have N1 := hid hn1; have T1 := hid ht1; have B1 := hid hb1; have R1 := (hb1.block _ (lt_blkR HR.out)).trans HR.out; have q0 : w1.cell? ⟨w.heap.size + 1, 0, none⟩ = some (.slice (some ad) l.length ca) := cell_of_row2 R1 0 rfl; have q1 : w1.cell? ⟨w.heap.size + 1, 1, none⟩ = some (.slice (some bd) ss.length cb) := cell_of_row2 R1 1 rfl; have fz : ∀ i, w1.frozen? ⟨w.heap.size + 1, i, none⟩ = false := fun i => (by simp [World.frozen?, R1]); clear ho1 he1 hn1 ht1 hb1)
 obtain ⟨vn, hvn⟩ : ∃ vn, vn = L.length := ⟨_, rfl⟩
 rw [← hvn]
 have HVN := hid hvn
 clear hvn m1 m2
 have R2 := two_cells2 R1 (.slice va vn vc) (.slice ua un uc)
 have S1 := heap_setCell_same w1 (w.heap.size + 1) 0 _ _ (.slice va vn vc) R1
 have LW : Hid (w.heap.size ≤ V.heap.size) := hid (by have := LV.out; omega)
 have KW : Hid (w.heap.size + 1 < V.heap.size) := hid (by have := LV.out; omega)
 have B2 : Hid (Below w.heap.size w ((w1.setCell ⟨w.heap.size + 1, 0, none⟩ (.slice va vn vc)).setCell ⟨w.heap.size + 1, 1, none⟩ (.slice ua un uc))) := hid (((BV.out.trans (B1.out.mono LW.out)).setCell (p := ⟨w.heap.size + 1, 0, none⟩) (Nat.le_succ _) _).setCell (p := ⟨w.heap.size + 1, 1, none⟩) (Nat.le_succ _) _)
 have K2 : Hid (KeepB V.heap.size w1 ((w1.setCell ⟨w.heap.size + 1, 0, none⟩ (.slice va vn vc)).setCell ⟨w.heap.size + 1, 1, none⟩ (.slice ua un uc))) := hid (((KeepB.stay (Stay.refl w1)).set KW.out).set KW.out)
 have hp3 := (B2.out.block p hpl).trans HROW.out
 have Z2 : Hid (((w1.setCell ⟨w.heap.size + 1, 0, none⟩ (.slice va vn vc)).setCell ⟨w.heap.size + 1, 1, none⟩ (.slice ua un uc)).heap[w.heap.size]? = some (.cells #[.slice none 0 0, .slice none 0 0, .int .u64 0, .int .u32 0, .int .u32 0, .int .u32 0, .slice none 0 0] 76 (0, 0))) := hid (by
   rw [heap_setCell_other _ _ w.heap.size _ (by show w.heap.size ≠ w.heap.size + 1; omega), heap_setCell_other _ _ w.heap.size _ (by show w.heap.size ≠ w.heap.size + 1; omega)]
   exact (B1.out.block _ (lt_blkR HZ.out)).trans HZ.out)
 clear q0 q1 fz R1 S1
 generalize ((w1.setCell ⟨w.heap.size + 1, 0, none⟩ (.slice va vn vc)).setCell ⟨w.heap.size + 1, 1, none⟩ (.slice ua un uc)) = w2 at *
 have m7 : w2.cell? ⟨p, 7, none⟩ = some (.slice none 0 0) := cell_of_row2 hp3 7 rfl
 have q6 : w2.cell? ⟨w.heap.size + 1, 6, none⟩ = some (.slice none 0 0) := cell_of_row2 R2 6 rfl
 have fz : ∀ i, w2.frozen? ⟨w.heap.size + 1, i, none⟩ = false := fun i => by simp [World.frozen?, R2]
 have HR2 := hid R2
 clear hp3 R2
 go_upto_region 4 with (go_at_call 24; refine (cloneV_nil _).mono ?_; rintro _ wz ⟨rfl, hwz⟩; rw [hwz]; clear hwz)
 have R3 := heap_setCell_same w2 (w.heap.size + 1) 6 _ _ (.slice none 0 0) HR2.out
 have Z3 : (w2.setCell ⟨w.heap.size + 1, 6, none⟩ (.slice none 0 0)).heap[w.heap.size]? = some (.cells #[.slice none 0 0, .slice none 0 0, .int .u64 0, .int .u32 0, .int .u32 0, .int .u32 0, .slice none 0 0] 76 (0, 0)) := (heap_setCell_other _ ⟨w.heap.size + 1, 6, none⟩ w.heap.size _ (by show w.heap.size ≠ w.heap.size + 1; omega)).trans Z2.out
 have B3 := hid (B2.out.setCell (p := ⟨w.heap.size + 1, 6, none⟩) (Nat.le_succ _) (.slice none 0 0))
 have K3 := hid (K2.out.set (o := 6) (v := .slice none 0 0) KW.out)
 clear m7 q6 fz
 generalize (w2.setCell ⟨w.heap.size + 1, 6, none⟩ (.slice none 0 0)) = w3 at *
 have q0 : w3.cell? ⟨w.heap.size + 1, 0, none⟩ = some (.slice va vn vc) := cell_of_row2 R3 0 rfl
 have q1 : w3.cell? ⟨w.heap.size + 1, 1, none⟩ = some (.slice ua un uc) := cell_of_row2 R3 1 rfl
 have q2 : w3.cell? ⟨w.heap.size + 1, 2, none⟩ = some (.int .u64 ver) := cell_of_row2 R3 2 rfl
 have q3 : w3.cell? ⟨w.heap.size + 1, 3, none⟩ = some (.int .u32 d0) := cell_of_row2 R3 3 rfl
 have q4 : w3.cell? ⟨w.heap.size + 1, 4, none⟩ = some (.int .u32 d1) := cell_of_row2 R3 4 rfl
 have q5 : w3.cell? ⟨w.heap.size + 1, 5, none⟩ = some (.int .u32 d2) := cell_of_row2 R3 5 rfl
 have q6 : w3.cell? ⟨w.heap.size + 1, 6, none⟩ = some (.slice none 0 0) := cell_of_row2 R3 6 rfl
 have r0 : w3.cell? ⟨w.heap.size, 0, none⟩ = some (.slice none 0 0) := cell_of_row2 Z3 0 rfl
 have r1 : w3.cell? ⟨w.heap.size, 1, none⟩ = some (.slice none 0 0) := cell_of_row2 Z3 1 rfl
 have r2 : w3.cell? ⟨w.heap.size, 2, none⟩ = some (.int .u64 0) := cell_of_row2 Z3 2 rfl
 have r3 : w3.cell? ⟨w.heap.size, 3, none⟩ = some (.int .u32 0) := cell_of_row2 Z3 3 rfl
 have r4 : w3.cell? ⟨w.heap.size, 4, none⟩ = some (.int .u32 0) := cell_of_row2 Z3 4 rfl
 have r5 : w3.cell? ⟨w.heap.size, 5, none⟩ = some (.int .u32 0) := cell_of_row2 Z3 5 rfl
 have r6 : w3.cell? ⟨w.heap.size, 6, none⟩ = some (.slice none 0 0) := cell_of_row2 Z3 6 rfl
 have fz : ∀ i, w3.frozen? ⟨w.heap.size, i, none⟩ = false := fun i => by simp [World.frozen?, Z3]
 have HZ3 := hid Z3
 clear R3 Z3
 go_wp2
 have Q9 := seven_cells HZ3.out (.slice va vn vc) (.slice ua un uc) (.int .u64 ver) (.int .u32 d0) (.int .u32 d1) (.int .u32 d2) (.slice none 0 0)
 have LZ : w.heap.size < V.heap.size := by have := LV.out; omega
 have B9 := hid (((((((B3.out.setCell (p := ⟨w.heap.size, 0, none⟩) (Nat.le_refl _) (.slice va vn vc)).setCell (p := ⟨w.heap.size, 1, none⟩) (Nat.le_refl _) (.slice ua un uc)).setCell (p := ⟨w.heap.size, 2, none⟩) (Nat.le_refl _) (.int .u64 ver)).setCell (p := ⟨w.heap.size, 3, none⟩) (Nat.le_refl _) (.int .u32 d0)).setCell (p := ⟨w.heap.size, 4, none⟩) (Nat.le_refl _) (.int .u32 d1)).setCell (p := ⟨w.heap.size, 5, none⟩) (Nat.le_refl _) (.int .u32 d2)).setCell (p := ⟨w.heap.size, 6, none⟩) (Nat.le_refl _) (.slice none 0 0))
 have K9 := hid (((((((K3.out.set (o := 0) (v := .slice va vn vc) LZ).set (o := 1) (v := .slice ua un uc) LZ).set (o := 2) (v := .int .u64 ver) LZ).set (o := 3) (v := .int .u32 d0) LZ).set (o := 4) (v := .int .u32 d1) LZ).set (o := 5) (v := .int .u32 d2) LZ).set (o := 6) (v := .slice none 0 0) LZ)
 clear q0 q1 q2 q3 q4 q5 q6 r0 r1 r2 r3 r4 r5 r6 fz
 generalize (((((((w3.setCell ⟨w.heap.size, 0, none⟩ (.slice va vn vc)).setCell ⟨w.heap.size, 1, none⟩ (.slice ua un uc)).setCell ⟨w.heap.size, 2, none⟩ (.int .u64 ver)).setCell ⟨w.heap.size, 3, none⟩ (.int .u32 d0)).setCell ⟨w.heap.size, 4, none⟩ (.int .u32 d1)).setCell ⟨w.heap.size, 5, none⟩ (.int .u32 d2)).setCell ⟨w.heap.size, 6, none⟩ (.slice none 0 0)) = W9 at *
 have r0 : W9.cell? ⟨w.heap.size, 0, none⟩ = some (.slice va vn vc) := cell_of_row2 Q9 0 rfl
 have r1 : W9.cell? ⟨w.heap.size, 1, none⟩ = some (.slice ua un uc) := cell_of_row2 Q9 1 rfl
 have r2 : W9.cell? ⟨w.heap.size, 2, none⟩ = some (.int .u64 ver) := cell_of_row2 Q9 2 rfl
 have r3 : W9.cell? ⟨w.heap.size, 3, none⟩ = some (.int .u32 d0) := cell_of_row2 Q9 3 rfl
 have r4 : W9.cell? ⟨w.heap.size, 4, none⟩ = some (.int .u32 d1) := cell_of_row2 Q9 4 rfl
 have r5 : W9.cell? ⟨w.heap.size, 5, none⟩ = some (.int .u32 d2) := cell_of_row2 Q9 5 rfl
 have r6 : W9.cell? ⟨w.heap.size, 6, none⟩ = some (.slice none 0 0) := cell_of_row2 Q9 6 rfl
 have NF : NsO W9 V.heap.size (.slice va L.length vc) L := NsO.kb ⟨O1.out, N1.out⟩ K9.out
 have TF : OwT W9 V.heap.size (.slice ua un uc) ss := OwT.kb T1.out K9.out
 have NF2 := hid (NF.low LW.out)
 have TF2 := hid (own_low TF LW.out)
 refine bodyPost_ret (v := .agg #[.slice va vn vc, .slice ua un uc, .int .u64 ver, .int .u32 d0, .int .u32 d1, .int .u32 d2, .slice none 0 0]) (by simp [results, Tryz.results34, go_sem, r0, r1, r2, r3, r4, r5, r6]) rfl ⟨_, _, L, rfl, ?_, E1.out, fun x hx => NF2.out.2 x hx, TF2.out, B9.out⟩
 rw [HVN.out]
 exact NF2.out.1
end Go.Proofs.YtpolbbdaippclaaGreat
