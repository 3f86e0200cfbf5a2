/-
  The document's tree: dir, Look, less.
-/
import Derived.Test.YtkokjkaclcjnjaaGreatDoorPtAo
namespace Go.Proofs.YtkokjkaclcjnjaaGreatDoor
open Go.RowKit Go.ChangeShapes Go.WideShapes Go.ChangeAt Go.Maps Go.Shelf
set_option linter.unusedVariables false
set_option linter.unusedSimpArgs false
set_option maxRecDepth 100000
def dirE (o : Option Nd) : Int := match o with
 | none => 5
 | some x => if x.k = 2 then 0 else 7
def dirN (o : Option Nd) : Nd := match o with
 | none => Nd.no
 | some x => if x.k = 2 then x else Nd.no
set_option maxHeartbeats 2000000 in
theorem rdir_c (a : Option Addr) (cap : Nat) (l : List Nd) (f : Int) (w : World) (h : IsNs w a l) (hm : l.length ≤ 100000) :
   Calls Tryz.prog 62 #[.slice a l.length cap, .int .u32 f] w fun e w' => e = .returned (.tuple #[(dirN (getF l f)).val, .int .i64 (dirE (getF l f))]) ∧ Below w.heap.size w w' := by
 have b0 := below_1 w (.cells Nd.no.cells.toArray 37)
 have H0 := hid (heap_alloc_new w (.cells Nd.no.cells.toArray 37))
 have GC := hid (get2_c a cap l f _ (h.later b0) hm)
 have B0 := hid b0
 unfold gotV at GC
 generalize getF l f = o at *
 clear h b0
 simp only [Nd.no, Nd.cells, List.length_nil] at H0 B0
 cases o with
 | none =>
   simp only [Option.getD_none, Option.isSome_none, dirN, dirE, Nd.no, Nd.val, Nd.cells, List.length_nil] at GC ⊢
   go_enter Tryz.func62, Tryz.ntmps62
   go_upto_region 2 with (go_at_call 8; refine GC.out.mono ?_; rintro _ w1 ⟨rfl, hb1⟩; have B1 := hid hb1; clear hb1)
   have bV := below_1 w1 (.cells #[.int .u32 0, .int .u8 0, .int .u16 0, .int .u16 0, .slice none 0 0, .slice none 0 0] 37)
   have gh := heap_alloc_new w1 (.cells #[.int .u32 0, .int .u8 0, .int .u16 0, .int .u16 0, .slice none 0 0, .slice none 0 0] 37)
   have rh := (bV.block _ (lt_blkR ((B1.out.block _ (lt_blkR H0.out)).trans H0.out))).trans ((B1.out.block _ (lt_blkR H0.out)).trans H0.out)
   have hne : w.heap.size ≠ w1.heap.size := by have := lt_blkR ((B1.out.block _ (lt_blkR H0.out)).trans H0.out); omega
   have hne2 : w1.heap.size ≠ w.heap.size := hne.symm
   have BV := hid (B0.out.trans ((B1.out.trans (bV.mono B1.out.size)).mono B0.out.size))
   generalize w1.alloc (.cells #[.int .u32 0, .int .u8 0, .int .u16 0, .int .u16 0, .slice none 0 0, .slice none 0 0] 37) = V at *
   generalize w1.heap.size = G at *
   have fz : ∀ i, V.frozen? ⟨w.heap.size, i, none⟩ = false := fun i => by simp [World.frozen?, rh]
   have r0 : V.cell? ⟨w.heap.size, 0, none⟩ = some (.int .u32 0) := cell_of_row2 rh 0 rfl
   have r1 : V.cell? ⟨w.heap.size, 1, none⟩ = some (.int .u8 0) := cell_of_row2 rh 1 rfl
   have r2 : V.cell? ⟨w.heap.size, 2, none⟩ = some (.int .u16 0) := cell_of_row2 rh 2 rfl
   have r3 : V.cell? ⟨w.heap.size, 3, none⟩ = some (.int .u16 0) := cell_of_row2 rh 3 rfl
   have r4 : V.cell? ⟨w.heap.size, 4, none⟩ = some (.slice none 0 0) := cell_of_row2 rh 4 rfl
   have r5 : V.cell? ⟨w.heap.size, 5, none⟩ = some (.slice none 0 0) := cell_of_row2 rh 5 rfl
   have g0 : V.cell? ⟨G, 0, none⟩ = some (.int .u32 0) := cell_of_row2 gh 0 rfl
   have g1 : V.cell? ⟨G, 1, none⟩ = some (.int .u8 0) := cell_of_row2 gh 1 rfl
   have g2 : V.cell? ⟨G, 2, none⟩ = some (.int .u16 0) := cell_of_row2 gh 2 rfl
   have g3 : V.cell? ⟨G, 3, none⟩ = some (.int .u16 0) := cell_of_row2 gh 3 rfl
   have g4 : V.cell? ⟨G, 4, none⟩ = some (.slice none 0 0) := cell_of_row2 gh 4 rfl
   have g5 : V.cell? ⟨G, 5, none⟩ = some (.slice none 0 0) := cell_of_row2 gh 5 rfl
   generalize hBB : w.heap.size = B at *
   have HBB := hid hBB
   clear hBB rh gh bV B1 H0 B0
   go_wp2
   refine bodyPost_ret (v := .tuple #[.agg #[.int .u32 0, .int .u8 0, .int .u16 0, .int .u16 0, .slice none 0 0, .slice none 0 0], .int .i64 5]) (by simp [results, Tryz.results62, go_sem, r0, r1, r2, r3, r4, r5]) rfl ⟨rfl, ?_⟩
   rw [HBB.out]
   exact (((((BV.out.setCell (p := ⟨B, 0, none⟩) (Nat.le_refl _) _).setCell (p := ⟨B, 1, none⟩) (Nat.le_refl _) _).setCell (p := ⟨B, 2, none⟩) (Nat.le_refl _) _).setCell (p := ⟨B, 3, none⟩) (Nat.le_refl _) _).setCell (p := ⟨B, 4, none⟩) (Nat.le_refl _) _).setCell (p := ⟨B, 5, none⟩) (Nat.le_refl _) _
 | some x =>
   obtain ⟨fid, k, md, ln, da, dc, zs, ka, kc, ks⟩ := x
   simp only [Option.getD_some, Option.isSome_some, dirN, dirE, Nd.val, Nd.cells, List.length_nil] at GC ⊢
   by_cases q : k = 2
   · subst q
     simp only [if_true]
     go_enter Tryz.func62, Tryz.ntmps62
     go_upto_region 2 with (go_at_call 8; refine GC.out.mono ?_; rintro _ w1 ⟨rfl, hb1⟩; have B1 := hid hb1; clear hb1)
     have bV := below_1 w1 (.cells #[.int .u32 fid, .int .u8 2, .int .u16 md, .int .u16 ln, .slice da zs.length dc, .slice ka ks.length kc] 37)
     have gh := heap_alloc_new w1 (.cells #[.int .u32 fid, .int .u8 2, .int .u16 md, .int .u16 ln, .slice da zs.length dc, .slice ka ks.length kc] 37)
     have rh := (bV.block _ (lt_blkR ((B1.out.block _ (lt_blkR H0.out)).trans H0.out))).trans ((B1.out.block _ (lt_blkR H0.out)).trans H0.out)
     have hne : w.heap.size ≠ w1.heap.size := by have := lt_blkR ((B1.out.block _ (lt_blkR H0.out)).trans H0.out); omega
     have hne2 : w1.heap.size ≠ w.heap.size := hne.symm
     have BV := hid (B0.out.trans ((B1.out.trans (bV.mono B1.out.size)).mono B0.out.size))
     generalize w1.alloc (.cells #[.int .u32 fid, .int .u8 2, .int .u16 md, .int .u16 ln, .slice da zs.length dc, .slice ka ks.length kc] 37) = V at *
     generalize w1.heap.size = G at *
     have fz : ∀ i, V.frozen? ⟨w.heap.size, i, none⟩ = false := fun i => by simp [World.frozen?, rh]
     have r0 : V.cell? ⟨w.heap.size, 0, none⟩ = some (.int .u32 0) := cell_of_row2 rh 0 rfl
     have r1 : V.cell? ⟨w.heap.size, 1, none⟩ = some (.int .u8 0) := cell_of_row2 rh 1 rfl
     have r2 : V.cell? ⟨w.heap.size, 2, none⟩ = some (.int .u16 0) := cell_of_row2 rh 2 rfl
     have r3 : V.cell? ⟨w.heap.size, 3, none⟩ = some (.int .u16 0) := cell_of_row2 rh 3 rfl
     have r4 : V.cell? ⟨w.heap.size, 4, none⟩ = some (.slice none 0 0) := cell_of_row2 rh 4 rfl
     have r5 : V.cell? ⟨w.heap.size, 5, none⟩ = some (.slice none 0 0) := cell_of_row2 rh 5 rfl
     have g0 : V.cell? ⟨G, 0, none⟩ = some (.int .u32 fid) := cell_of_row2 gh 0 rfl
     have g1 : V.cell? ⟨G, 1, none⟩ = some (.int .u8 2) := cell_of_row2 gh 1 rfl
     have g2 : V.cell? ⟨G, 2, none⟩ = some (.int .u16 md) := cell_of_row2 gh 2 rfl
     have g3 : V.cell? ⟨G, 3, none⟩ = some (.int .u16 ln) := cell_of_row2 gh 3 rfl
     have g4 : V.cell? ⟨G, 4, none⟩ = some (.slice da zs.length dc) := cell_of_row2 gh 4 rfl
     have g5 : V.cell? ⟨G, 5, none⟩ = some (.slice ka ks.length kc) := cell_of_row2 gh 5 rfl
     generalize hBB : w.heap.size = B at *
     have HBB := hid hBB
     clear hBB rh gh bV B1 H0 B0
     go_wp2
     refine bodyPost_ret (v := .tuple #[.agg #[.int .u32 fid, .int .u8 2, .int .u16 md, .int .u16 ln, .slice da zs.length dc, .slice ka ks.length kc], .int .i64 0]) (by simp [results, Tryz.results62, go_sem, r0, r1, r2, r3, r4, r5]) rfl ⟨rfl, ?_⟩
     rw [HBB.out]
     exact (((((BV.out.setCell (p := ⟨B, 0, none⟩) (Nat.le_refl _) _).setCell (p := ⟨B, 1, none⟩) (Nat.le_refl _) _).setCell (p := ⟨B, 2, none⟩) (Nat.le_refl _) _).setCell (p := ⟨B, 3, none⟩) (Nat.le_refl _) _).setCell (p := ⟨B, 4, none⟩) (Nat.le_refl _) _).setCell (p := ⟨B, 5, none⟩) (Nat.le_refl _) _
   · have qB : (k != 2) = true := by simp [q]
     simp only [if_neg q, Nd.no, List.length_nil]
     go_enter Tryz.func62, Tryz.ntmps62
     go_upto_region 2 with (go_at_call 8; refine GC.out.mono ?_; rintro _ w1 ⟨rfl, hb1⟩; have B1 := hid hb1; clear hb1)
     have bV := below_1 w1 (.cells #[.int .u32 fid, .int .u8 k, .int .u16 md, .int .u16 ln, .slice da zs.length dc, .slice ka ks.length kc] 37)
     have gh := heap_alloc_new w1 (.cells #[.int .u32 fid, .int .u8 k, .int .u16 md, .int .u16 ln, .slice da zs.length dc, .slice ka ks.length kc] 37)
     have rh := (bV.block _ (lt_blkR ((B1.out.block _ (lt_blkR H0.out)).trans H0.out))).trans ((B1.out.block _ (lt_blkR H0.out)).trans H0.out)
     have hne : w.heap.size ≠ w1.heap.size := by have := lt_blkR ((B1.out.block _ (lt_blkR H0.out)).trans H0.out); omega
     have hne2 : w1.heap.size ≠ w.heap.size := hne.symm
     have BV := hid (B0.out.trans ((B1.out.trans (bV.mono B1.out.size)).mono B0.out.size))
     generalize w1.alloc (.cells #[.int .u32 fid, .int .u8 k, .int .u16 md, .int .u16 ln, .slice da zs.length dc, .slice ka ks.length kc] 37) = V at *
     generalize w1.heap.size = G at *
     have fz : ∀ i, V.frozen? ⟨w.heap.size, i, none⟩ = false := fun i => by simp [World.frozen?, rh]
     have r0 : V.cell? ⟨w.heap.size, 0, none⟩ = some (.int .u32 0) := cell_of_row2 rh 0 rfl
     have r1 : V.cell? ⟨w.heap.size, 1, none⟩ = some (.int .u8 0) := cell_of_row2 rh 1 rfl
     have r2 : V.cell? ⟨w.heap.size, 2, none⟩ = some (.int .u16 0) := cell_of_row2 rh 2 rfl
     have r3 : V.cell? ⟨w.heap.size, 3, none⟩ = some (.int .u16 0) := cell_of_row2 rh 3 rfl
     have r4 : V.cell? ⟨w.heap.size, 4, none⟩ = some (.slice none 0 0) := cell_of_row2 rh 4 rfl
     have r5 : V.cell? ⟨w.heap.size, 5, none⟩ = some (.slice none 0 0) := cell_of_row2 rh 5 rfl
     have g0 : V.cell? ⟨G, 0, none⟩ = some (.int .u32 fid) := cell_of_row2 gh 0 rfl
     have g1 : V.cell? ⟨G, 1, none⟩ = some (.int .u8 k) := cell_of_row2 gh 1 rfl
     have g2 : V.cell? ⟨G, 2, none⟩ = some (.int .u16 md) := cell_of_row2 gh 2 rfl
     have g3 : V.cell? ⟨G, 3, none⟩ = some (.int .u16 ln) := cell_of_row2 gh 3 rfl
     have g4 : V.cell? ⟨G, 4, none⟩ = some (.slice da zs.length dc) := cell_of_row2 gh 4 rfl
     have g5 : V.cell? ⟨G, 5, none⟩ = some (.slice ka ks.length kc) := cell_of_row2 gh 5 rfl
     generalize hBB : w.heap.size = B at *
     have HBB := hid hBB
     clear hBB rh gh bV B1 H0 B0
     go_wp2
     refine bodyPost_ret (v := .tuple #[.agg #[.int .u32 0, .int .u8 0, .int .u16 0, .int .u16 0, .slice none 0 0, .slice none 0 0], .int .i64 7]) (by simp [results, Tryz.results62, go_sem, r0, r1, r2, r3, r4, r5]) rfl ⟨rfl, ?_⟩
     rw [HBB.out]
     exact (((((BV.out.setCell (p := ⟨B, 0, none⟩) (Nat.le_refl _) _).setCell (p := ⟨B, 1, none⟩) (Nat.le_refl _) _).setCell (p := ⟨B, 2, none⟩) (Nat.le_refl _) _).setCell (p := ⟨B, 3, none⟩) (Nat.le_refl _) _).setCell (p := ⟨B, 4, none⟩) (Nat.le_refl _) _).setCell (p := ⟨B, 5, none⟩) (Nat.le_refl _) _
def lookI (o : Option Nd) (s : ByteArray) : Int := match o with
 | none => 0
 | some x => if x.k = 2 then kidI x.ks s else 0
def lookE (o : Option Nd) (s : ByteArray) : Int := match o with
 | none => 5
 | some x => if x.k = 2 then (if kidI x.ks s = 0 then 5 else 0) else 7
set_option maxHeartbeats 2000000 in
theorem rlook_c (a : Option Addr) (cap : Nat) (l : List Nd) (f : Int) (s : ByteArray) (w : World) (h : IsNs w a l) (hm : l.length ≤ 100000) (hk : ∀ x ∈ l, x.ks.length ≤ 100000) :
   Calls Tryz.prog 17 #[.slice a l.length cap, .int .u32 f, .string s] w fun e w' => e = .returned (.tuple #[.int .u32 (lookI (getF l f) s), .int .i64 (lookE (getF l f) s)]) ∧ Below w.heap.size w w' := by
 have GC := hid (get2_c a cap l f _ h hm)
 have GO : Hid (∀ x, getF l f = some x → x.Ok w ∧ x.ks.length ≤ 100000) := hid (fun x hx => ⟨getF_ok h hx, hk x (getF_mem hx).1⟩)
 unfold gotV at GC
 generalize getF l f = o at *
 clear h hk
 cases o with
 | none =>
   simp only [Option.getD_none, Option.isSome_none, lookI, lookE, Nd.no, Nd.val, Nd.cells, List.length_nil] at GC ⊢
   go_enter Tryz.func17, Tryz.ntmps17
   go_upto_region 2 with (go_at_call 8; refine GC.out.mono ?_; rintro _ w1 ⟨rfl, hb1⟩; have B1 := hid hb1; clear hb1)
   have bV := below_1 w1 (.cells #[.int .u32 0, .int .u8 0, .int .u16 0, .int .u16 0, .slice none 0 0, .slice none 0 0] 37)
   have gh := heap_alloc_new w1 (.cells #[.int .u32 0, .int .u8 0, .int .u16 0, .int .u16 0, .slice none 0 0, .slice none 0 0] 37)
   have BV := hid (B1.out.trans (bV.mono B1.out.size))
   generalize w1.alloc (.cells #[.int .u32 0, .int .u8 0, .int .u16 0, .int .u16 0, .slice none 0 0, .slice none 0 0] 37) = V at *
   generalize w1.heap.size = G at *
   have g0 : V.cell? ⟨G, 0, none⟩ = some (.int .u32 0) := cell_of_row2 gh 0 rfl
   have g1 : V.cell? ⟨G, 1, none⟩ = some (.int .u8 0) := cell_of_row2 gh 1 rfl
   have g2 : V.cell? ⟨G, 2, none⟩ = some (.int .u16 0) := cell_of_row2 gh 2 rfl
   have g3 : V.cell? ⟨G, 3, none⟩ = some (.int .u16 0) := cell_of_row2 gh 3 rfl
   have g4 : V.cell? ⟨G, 4, none⟩ = some (.slice none 0 0) := cell_of_row2 gh 4 rfl
   have g5 : V.cell? ⟨G, 5, none⟩ = some (.slice none 0 0) := cell_of_row2 gh 5 rfl
   clear gh bV B1
   go_wp2
   refine bodyPost_ret (v := .tuple #[.int .u32 0, .int .i64 5]) (by simp [results, Tryz.results17, go_sem]) rfl ⟨rfl, BV.out⟩
 | some x =>
   have HO := hid (GO.out x rfl).1
   have HM := hid (GO.out x rfl).2
   clear GO
   obtain ⟨fid, k, md, ln, da, dc, zs, ka, kc, ks⟩ := x
   simp only [Option.getD_some, Option.isSome_some, lookI, lookE, Nd.val, Nd.cells, List.length_nil] at GC ⊢
   by_cases q : k = 2
   · subst q
     simp only [if_true]
     generalize hki : kidI ks s = ki
     generalize hle : (if ki = 0 then (5 : Int) else 0) = le
     have HKI := hid hki
     have HLE := hid hle
     clear hki hle
     go_enter Tryz.func17, Tryz.ntmps17
     go_upto_region 2 with (go_at_call 8; refine GC.out.mono ?_; rintro _ w1 ⟨rfl, hb1⟩; have B1 := hid hb1; clear hb1)
     have bV := below_1 w1 (.cells #[.int .u32 fid, .int .u8 2, .int .u16 md, .int .u16 ln, .slice da zs.length dc, .slice ka ks.length kc] 37)
     have gh := heap_alloc_new w1 (.cells #[.int .u32 fid, .int .u8 2, .int .u16 md, .int .u16 ln, .slice da zs.length dc, .slice ka ks.length kc] 37)
     have BV := hid (B1.out.trans (bV.mono B1.out.size))
     generalize w1.alloc (.cells #[.int .u32 fid, .int .u8 2, .int .u16 md, .int .u16 ln, .slice da zs.length dc, .slice ka ks.length kc] 37) = V at *
     generalize w1.heap.size = G at *
     have g0 : V.cell? ⟨G, 0, none⟩ = some (.int .u32 fid) := cell_of_row2 gh 0 rfl
     have g1 : V.cell? ⟨G, 1, none⟩ = some (.int .u8 2) := cell_of_row2 gh 1 rfl
     have g2 : V.cell? ⟨G, 2, none⟩ = some (.int .u16 md) := cell_of_row2 gh 2 rfl
     have g3 : V.cell? ⟨G, 3, none⟩ = some (.int .u16 ln) := cell_of_row2 gh 3 rfl
     have g4 : V.cell? ⟨G, 4, none⟩ = some (.slice da zs.length dc) := cell_of_row2 gh 4 rfl
     have g5 : V.cell? ⟨G, 5, none⟩ = some (.slice ka ks.length kc) := cell_of_row2 gh 5 rfl
     have KC := hid (fun W (hW : Below w.heap.size w W) => kid_c ⟨fid, 2, md, ln, da, dc, zs, ka, kc, ks⟩ s W (HO.out.later hW) HM.out)
     simp only [Nd.val] at KC
     have LG : Hid (G < V.heap.size) := hid (lt_blkR gh)
     have GH := hid gh
     clear gh bV B1
     rw [HKI.out] at KC
     by_cases q0 : ki = 0
     · subst q0
       have LE0 : Hid (le = 5) := hid (by rw [← HLE.out]; rfl)
       clear HLE HKI
       go_wp2_with (go_at_call 36; refine (KC.out _ BV.out).mono ?_; rintro _ w2 ⟨rfl, hb2⟩; have B2 := hid hb2; clear hb2)
       refine bodyPost_ret (v := .tuple #[.int .u32 0, .int .i64 5]) (by simp [results, Tryz.results17, go_sem]) rfl ⟨by rw [LE0.out], BV.out.trans (B2.out.mono BV.out.size)⟩
     · have q0B : (ki == 0) = false := beq_eq_false_iff_ne.2 q0
       have ES : Hid (le = 0) := hid (by rw [← HLE.out]; exact if_neg q0)
       clear HLE HKI
       go_upto_region 8 with (go_at_call 36; refine (KC.out _ BV.out).mono ?_; rintro _ w2 ⟨rfl, hb2⟩; have B2 := hid hb2; clear hb2)
       have BW := hid (BV.out.trans (B2.out.mono BV.out.size))
       have gh := (B2.out.block _ LG.out).trans GH.out
       clear g0 g1 g2 g3 g4 g5
       have g0 : w2.cell? ⟨G, 0, none⟩ = some (.int .u32 fid) := cell_of_row2 gh 0 rfl
       have g1 : w2.cell? ⟨G, 1, none⟩ = some (.int .u8 2) := cell_of_row2 gh 1 rfl
       have g2 : w2.cell? ⟨G, 2, none⟩ = some (.int .u16 md) := cell_of_row2 gh 2 rfl
       have g3 : w2.cell? ⟨G, 3, none⟩ = some (.int .u16 ln) := cell_of_row2 gh 3 rfl
       have g4 : w2.cell? ⟨G, 4, none⟩ = some (.slice da zs.length dc) := cell_of_row2 gh 4 rfl
       have g5 : w2.cell? ⟨G, 5, none⟩ = some (.slice ka ks.length kc) := cell_of_row2 gh 5 rfl
       clear gh
       go_wp2_with (go_at_call 36; refine (KC.out _ BW.out).mono ?_; rintro _ w3 ⟨rfl, hb3⟩)
       refine bodyPost_ret (v := .tuple #[.int .u32 ki, .int .i64 0]) (by simp [results, Tryz.results17, go_sem]) rfl ⟨by rw [ES.out], BW.out.trans (hb3.mono BW.out.size)⟩
   · have qB : (k != 2) = true := by simp [q]
     simp only [if_neg q]
     go_enter Tryz.func17, Tryz.ntmps17
     go_upto_region 2 with (go_at_call 8; refine GC.out.mono ?_; rintro _ w1 ⟨rfl, hb1⟩; have B1 := hid hb1; clear hb1)
     have bV := below_1 w1 (.cells #[.int .u32 fid, .int .u8 k, .int .u16 md, .int .u16 ln, .slice da zs.length dc, .slice ka ks.length kc] 37)
     have gh := heap_alloc_new w1 (.cells #[.int .u32 fid, .int .u8 k, .int .u16 md, .int .u16 ln, .slice da zs.length dc, .slice ka ks.length kc] 37)
     have BV := hid (B1.out.trans (bV.mono B1.out.size))
     generalize w1.alloc (.cells #[.int .u32 fid, .int .u8 k, .int .u16 md, .int .u16 ln, .slice da zs.length dc, .slice ka ks.length kc] 37) = V at *
     generalize w1.heap.size = G at *
     have g0 : V.cell? ⟨G, 0, none⟩ = some (.int .u32 fid) := cell_of_row2 gh 0 rfl
     have g1 : V.cell? ⟨G, 1, none⟩ = some (.int .u8 k) := cell_of_row2 gh 1 rfl
     have g2 : V.cell? ⟨G, 2, none⟩ = some (.int .u16 md) := cell_of_row2 gh 2 rfl
     have g3 : V.cell? ⟨G, 3, none⟩ = some (.int .u16 ln) := cell_of_row2 gh 3 rfl
     have g4 : V.cell? ⟨G, 4, none⟩ = some (.slice da zs.length dc) := cell_of_row2 gh 4 rfl
     have g5 : V.cell? ⟨G, 5, none⟩ = some (.slice ka ks.length kc) := cell_of_row2 gh 5 rfl
     clear gh bV B1
     go_wp2
     refine bodyPost_ret (v := .tuple #[.int .u32 0, .int .i64 7]) (by simp [results, Tryz.results17, go_sem]) rfl ⟨rfl, BV.out⟩
def lessL (l : List Nd) (x : Nd) : List Nd := if x.ln = 1 then outL l x.fid else setL l ⟨x.fid, x.k, x.md, x.ln - 1, x.da, x.dc, x.zs, x.ka, x.kc, x.ks⟩
set_option maxHeartbeats 2000000 in
theorem rless_c (a : Option Addr) (cap : Nat) (l : List Nd) (x : Nd) (w : World) (h : IsNs w a l) (hm : l.length ≤ 1000) (hl1 : 1 ≤ x.ln) (hl2 : x.ln < 65536) :
   Calls Tryz.prog 64 #[.slice a l.length cap, x.val] w fun e w' => ∃ v, e = .returned v ∧ OwN w' w.heap.size v (lessL l x) ∧ Below w.heap.size w w' := by
 have H := hid h
 obtain ⟨fid, k, md, ln, da, dc, zs, ka, kc, ks⟩ := x
 have bV := below_1 w (.cells (⟨fid, k, md, ln, da, dc, zs, ka, kc, ks⟩ : Nd).cells.toArray 37)
 have gh := heap_alloc_new w (.cells (⟨fid, k, md, ln, da, dc, zs, ka, kc, ks⟩ : Nd).cells.toArray 37)
 obtain ⟨R, hR⟩ : ∃ R, R = lessL l ⟨fid, k, md, ln, da, dc, zs, ka, kc, ks⟩ := ⟨_, rfl⟩
 rw [← hR]
 have R1 : Hid (ln = 1 → R = outL l fid) := hid (fun h => by rw [hR, h]; rfl)
 have R2 : Hid (ln ≠ 1 → R = setL l ⟨fid, k, md, ln - 1, da, dc, zs, ka, kc, ks⟩) := hid (fun h => by rw [hR]; exact if_neg h)
 clear hR
 simp only [Nd.val, Nd.cells] at *
 have hw : IntKind.u16.wrap (ln - 1) = ln - 1 := by rw [IntKind.wrap_u16]; omega
 have BV := hid bV
 have SC : Hid (∀ W, Below w.heap.size w W → Calls Tryz.prog 49 #[.slice a l.length cap, .agg #[.int .u32 fid, .int .u8 k, .int .u16 md, .int .u16 (ln - 1), .slice da zs.length dc, .slice ka ks.length kc]] W fun e w' => ∃ v, e = .returned v ∧ OwN w' W.heap.size v (setL l ⟨fid, k, md, ln - 1, da, dc, zs, ka, kc, ks⟩) ∧ Below W.heap.size W w') := hid (fun W hW => rset_c a cap l ⟨fid, k, md, ln - 1, da, dc, zs, ka, kc, ks⟩ W (H.out.later hW) hm)
 have OC : Hid (∀ W, Below w.heap.size w W → Calls Tryz.prog 78 #[.slice a l.length cap, .int .u32 fid] W fun e w' => ∃ v, e = .returned v ∧ OwN w' W.heap.size v (outL l fid) ∧ Below W.heap.size W w') := hid (fun W hW => rwithout_c a cap l fid W (H.out.later hW) hm)
 clear h H
 go_enter Tryz.func64, Tryz.ntmps64
 go_upto_region 1 with fail
 generalize w.alloc (.cells #[.int .u32 fid, .int .u8 k, .int .u16 md, .int .u16 ln, .slice da zs.length dc, .slice ka ks.length kc] 37) = V at *
 have fz : ∀ i, V.frozen? ⟨w.heap.size, i, none⟩ = false := fun i => by simp [World.frozen?, gh]
 have g0 : V.cell? ⟨w.heap.size, 0, none⟩ = some (.int .u32 fid) := cell_of_row2 gh 0 rfl
 have g1 : V.cell? ⟨w.heap.size, 1, none⟩ = some (.int .u8 k) := cell_of_row2 gh 1 rfl
 have g2 : V.cell? ⟨w.heap.size, 2, none⟩ = some (.int .u16 md) := cell_of_row2 gh 2 rfl
 have g3 : V.cell? ⟨w.heap.size, 3, none⟩ = some (.int .u16 ln) := cell_of_row2 gh 3 rfl
 have g4 : V.cell? ⟨w.heap.size, 4, none⟩ = some (.slice da zs.length dc) := cell_of_row2 gh 4 rfl
 have g5 : V.cell? ⟨w.heap.size, 5, none⟩ = some (.slice ka ks.length kc) := cell_of_row2 gh 5 rfl
 have BS : Hid (∀ u, Below w.heap.size w (V.setCell ⟨w.heap.size, 3, none⟩ u)) := hid (fun u => BV.out.setCell (p := ⟨w.heap.size, 3, none⟩) (Nat.le_refl _) u)
 clear gh bV
 by_cases q : ln = 1
 · subst q
   have OC2 := hid (OC.out _ (BS.out (.int .u16 0)))
   rw [← R1.out rfl] at OC2
   clear R1 R2 OC SC
   go_wp2_with (go_at_call 78; refine OC2.out.mono ?_; rintro _ w2 ⟨v2, rfl, ho2, hb2⟩)
   go_ret
   exact ⟨_, rfl, own_low ho2 (BS.out _).size, (BS.out _).trans (hb2.mono (BS.out _).size)⟩
 · have qB : (ln - 1 == 0) = false := beq_eq_false_iff_ne.2 (by omega)
   have q2 : ¬ ln - 1 = 0 := by omega
   have SC2 := hid (SC.out _ (BS.out (.int .u16 (ln - 1))))
   rw [← R2.out q] at SC2
   clear R1 R2 OC SC
   go_wp2_with (go_at_call 49; refine SC2.out.mono ?_; rintro _ w2 ⟨v2, rfl, ho2, hb2⟩)
   go_ret
   exact ⟨_, rfl, own_low ho2 (BS.out _).size, (BS.out _).trans (hb2.mono (BS.out _).size)⟩
end Go.Proofs.YtkokjkaclcjnjaaGreatDoor
