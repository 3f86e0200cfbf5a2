/-
  
-/
import Derived.Test.YtfmghbennahlfaaGreatCnBr
import Derived.Test.YtfmghbennahlfaaGreatCnAs
namespace Go.Proofs.YtfmghbennahlfaaGreat
open Go.RowKit Go.ChangeShapes Go.WideShapes Go.ChangeAt Go.Maps Go.Shelf
set_option linter.unusedVariables false
set_option linter.unusedSimpArgs false
set_option maxRecDepth 100000
theorem Below.set0 {B : Nat} {w w1 : World} (h : Below B w w1) (hz : B ≤ w1.heap.size) {g o : Nat} {v : Value} {cs : Array Value} {T : TypeId} (hr : w1.heap[g]? = some (.cells cs T (0, 0))) (hs : cs.setIfInBounds o v = cs) : Below B w (w1.setCell ⟨g, o, none⟩ v) := by
 have hO : Ou (fun k => k = g) w1 (w1.setCell ⟨g, o, none⟩ v) := (Ou.of (Below.refl w1.heap.size w1)).set rfl
 have hb : Below w1.heap.size w1 (w1.setCell ⟨g, o, none⟩ v) := ⟨hO.os, hO.tape, hO.output, hO.size, fun k hk => by
   by_cases e : k = g
   · subst e
     rw [heap_setCell_same w1 k o _ _ v hr, hs, hr]
   · exact hO.block k hk e⟩
 exact h.trans (hb.mono hz)
theorem heap_drewAt (X : World) (k : Nat) : X.drew.heap[k]? = X.heap[k]? := rfl
theorem eight_all {W : World} {A T : Nat} {u0 u1 u2 u3 u4 u5 u6 u7 : Value} (h : W.heap[A]? = some (.cells #[u0, u1, u2, u3, u4, u5, u6, u7] T (0, 0))) (v0 v1 v2 v3 v4 v5 v6 v7 : Value) :
   ((((((((W.setCell ⟨A, 0, none⟩ (v0)).setCell ⟨A, 1, none⟩ (v1)).setCell ⟨A, 2, none⟩ (v2)).setCell ⟨A, 3, none⟩ (v3)).setCell ⟨A, 4, none⟩ (v4)).setCell ⟨A, 5, none⟩ (v5)).setCell ⟨A, 6, none⟩ (v6)).setCell ⟨A, 7, none⟩ (v7)).heap[A]? = some (.cells #[v0, v1, v2, v3, v4, v5, v6, v7] T (0, 0)) := by
 simp only [World.setCell]
 simp [Array.getElem?_modify, h]
theorem ou_eight (W : World) (A : Nat) (v0 v1 v2 v3 v4 v5 v6 v7 : Value) : Ou (fun k => k = A) W ((((((((W.setCell ⟨A, 0, none⟩ (v0)).setCell ⟨A, 1, none⟩ (v1)).setCell ⟨A, 2, none⟩ (v2)).setCell ⟨A, 3, none⟩ (v3)).setCell ⟨A, 4, none⟩ (v4)).setCell ⟨A, 5, none⟩ (v5)).setCell ⟨A, 6, none⟩ (v6)).setCell ⟨A, 7, none⟩ (v7)) := by
 exact (((((((((Ou.of (S := fun k => k = A) (Below.refl _ _)).set rfl).set rfl).set rfl).set rfl).set rfl).set rfl).set rfl).set rfl)
theorem object_c {w : World} (fb : Nat) (a : Option Addr) (cap : Nat) (l : List Nd) (h : IsNs w a l) (hf : FdOk l) (hb : w.heap[fb]? = some (.cells #[.slice a l.length cap, .int .i64 0] 224 (0, 0))) :
   Calls Tryz.prog 140 #[.pointer (some ⟨fb, 0, none⟩), .string ⟨#[47]⟩] w fun e w' => e = .returned (.int .u32 1) ∧ w'.heap[fb]? = some (.cells #[.slice a l.length cap, .int .i64 0] 224 (0, 0)) ∧ Below w.heap.size w w' := by
 have FC := hid (find1_c a cap l w h hf)
 have HB := hid hb
 have c0 : w.cell? ⟨fb, 0, none⟩ = some (.slice a l.length cap) := cell_of_row2 hb 0 rfl
 have c1 : w.cell? ⟨fb, 1, none⟩ = some (.int .i64 0) := cell_of_row2 hb 1 rfl
 clear h hf hb
 go_enter Tryz.func140, Tryz.ntmps140
 go_wp2_with (go_at_call 26; refine FC.out.mono ?_; rintro _ w1 ⟨rfl, hb1⟩; have R1 := (hb1.block _ (lt_blkR HB.out)).trans HB.out; have r1 : w1.cell? ⟨fb, 1, none⟩ = some (.int .i64 0) := cell_of_row2 R1 1 rfl; have fz : w1.frozen? ⟨fb, 1, none⟩ = false := (by simp [World.frozen?, R1]); have B1 := hid hb1; have RR := hid R1; clear hb1 R1)
 go_ret
 exact ⟨rfl, heap_setCell_same w1 fb 1 _ _ _ RR.out, Below.set0 B1.out B1.out.size RR.out rfl⟩
theorem entry_c {w : World} (fb : Nat) (a : Option Addr) (cap : Nat) (l : List Nd) (h : IsNs w a l) (hf : FdOk l) (hb : w.heap[fb]? = some (.cells #[.slice a l.length cap, .int .i64 0] 224 (0, 0))) :
   Calls Tryz.prog 138 #[.pointer (some ⟨fb, 0, none⟩), .string ⟨#[47, 97]⟩] w fun e w' => e = .returned (.tuple #[.int .u32 1, .string ⟨#[97]⟩]) ∧ w'.heap[fb]? = some (.cells #[.slice a l.length cap, .int .i64 0] 224 (0, 0)) ∧ Below w.heap.size w w' := by
 have HB := hid hb
 have OC := hid (fun W (hW : Below w.heap.size w W) => object_c fb a cap l (h.later hW) hf ((hW.block _ (lt_blkR hb)).trans hb))
 have DC := hid (fun W => dirA_c W)
 have BC := hid (fun W => baseA_c W)
 have c1 : w.cell? ⟨fb, 1, none⟩ = some (.int .i64 0) := cell_of_row2 hb 1 rfl
 clear h hf hb
 go_enter Tryz.func138, Tryz.ntmps138
 go_wp2_with (first
   | (go_at_call 140; refine (OC.out _ B2.out).mono ?_; rintro _ w3 ⟨rfl, hr3, hb3⟩; have R3 := hid hr3; have B3 := hid (B2.out.trans (hb3.mono B2.out.size)); clear hr3 hb3)
   | (go_at_call 197; refine (BC.out _).mono ?_; rintro _ w2 ⟨rfl, hb2⟩; have B2 := hid (B1.out.trans (hb2.mono B1.out.size)); clear hb2)
   | (go_at_call 196; refine (DC.out _).mono ?_; rintro _ w1 ⟨rfl, hb1⟩; have B1 := hid hb1; clear hb1))
 go_ret2
 exact ⟨rfl, R3.out, B3.out⟩
theorem fresh_c {w : World} (fb : Nat) (hb : w.cell? ⟨fb, 1, none⟩ = some (.int .i64 0)) :
   Calls Tryz.prog 139 #[.pointer (some ⟨fb, 0, none⟩), .int .u8 1, .int .u32 1] w fun e w' => e = .returned (.int .u32 16777217) ∧ w' = w := by
 have MC := hid (make_ok 1 1 (by decide) (by decide) (by decide) (by decide) w)
 rw [show M.makeF 1 1 = 16777217 from rfl] at MC
 go_enter Tryz.func139, Tryz.ntmps139
 go_wp2_with (go_at_call 198; refine MC.out.mono ?_; rintro _ w1 ⟨rfl, hw1⟩; rw [hw1]; clear hw1)
 go_ret
 exact ⟨rfl, rfl⟩
set_option maxHeartbeats 4000000 in
theorem operation_c {w : World} (p : Nat) (a : Option Addr) (cap : Nat) (l : List Nd) (h : IsNs w a l) (hf : FdOk l) (hp0 : w.cell? ⟨p, 0, none⟩ = some (.int .u8 1)) (hp9 : w.cell? ⟨p, 9, none⟩ = some (.int .u32 1)) :
   Calls Tryz.prog 74 #[.pointer (some ⟨p, 0, none⟩), .slice a l.length cap, .agg #[.int .u8 2, .string ⟨#[47, 97]⟩, .string ⟨#[]⟩, .int .u16 0, .string ⟨#[]⟩]] w fun e w' => e = .returned (.tuple #[.agg #[.int .u8 2, .int .u32 16777217, .int .u32 1, .string ⟨#[97]⟩, .int .u32 0, .string ⟨#[]⟩, .int .u16 0, .string ⟨#[]⟩], .int .i64 0]) ∧ Below w.heap.size w w' := by
 obtain ⟨wb, hwb⟩ : ∃ wb, wb = w.heap.size := ⟨_, rfl⟩
 have b0 := below_1 w (.cells #[.int .u8 2, .string ⟨#[47, 97]⟩, .string ⟨#[]⟩, .int .u16 0, .string ⟨#[]⟩] 93)
 have g0 := heap_alloc_new w (.cells #[.int .u8 2, .string ⟨#[47, 97]⟩, .string ⟨#[]⟩, .int .u16 0, .string ⟨#[]⟩] 93)
 have b1 := below_1 (w.alloc (.cells #[.int .u8 2, .string ⟨#[47, 97]⟩, .string ⟨#[]⟩, .int .u16 0, .string ⟨#[]⟩] 93)) (.cells #[.int .u8 0, .int .u32 0, .int .u32 0, .string ⟨#[]⟩, .int .u32 0, .string ⟨#[]⟩, .int .u16 0, .string ⟨#[]⟩] 111)
 have g1 := heap_alloc_new (w.alloc (.cells #[.int .u8 2, .string ⟨#[47, 97]⟩, .string ⟨#[]⟩, .int .u16 0, .string ⟨#[]⟩] 93)) (.cells #[.int .u8 0, .int .u32 0, .int .u32 0, .string ⟨#[]⟩, .int .u32 0, .string ⟨#[]⟩, .int .u16 0, .string ⟨#[]⟩] 111)
 have b2 := below_1 ((w.alloc (.cells #[.int .u8 2, .string ⟨#[47, 97]⟩, .string ⟨#[]⟩, .int .u16 0, .string ⟨#[]⟩] 93)).alloc (.cells #[.int .u8 0, .int .u32 0, .int .u32 0, .string ⟨#[]⟩, .int .u32 0, .string ⟨#[]⟩, .int .u16 0, .string ⟨#[]⟩] 111)) (.cells #[.int .u8 2, .int .u32 0, .int .u32 0, .string ⟨#[]⟩, .int .u32 0, .string ⟨#[]⟩, .int .u16 0, .string ⟨#[]⟩] 111)
 have g2 := heap_alloc_new ((w.alloc (.cells #[.int .u8 2, .string ⟨#[47, 97]⟩, .string ⟨#[]⟩, .int .u16 0, .string ⟨#[]⟩] 93)).alloc (.cells #[.int .u8 0, .int .u32 0, .int .u32 0, .string ⟨#[]⟩, .int .u32 0, .string ⟨#[]⟩, .int .u16 0, .string ⟨#[]⟩] 111)) (.cells #[.int .u8 2, .int .u32 0, .int .u32 0, .string ⟨#[]⟩, .int .u32 0, .string ⟨#[]⟩, .int .u16 0, .string ⟨#[]⟩] 111)
 have b3 := below_1 (((w.alloc (.cells #[.int .u8 2, .string ⟨#[47, 97]⟩, .string ⟨#[]⟩, .int .u16 0, .string ⟨#[]⟩] 93)).alloc (.cells #[.int .u8 0, .int .u32 0, .int .u32 0, .string ⟨#[]⟩, .int .u32 0, .string ⟨#[]⟩, .int .u16 0, .string ⟨#[]⟩] 111)).alloc (.cells #[.int .u8 2, .int .u32 0, .int .u32 0, .string ⟨#[]⟩, .int .u32 0, .string ⟨#[]⟩, .int .u16 0, .string ⟨#[]⟩] 111)) (.cells #[.slice a l.length cap, .int .i64 0] 224)
 have g3 := heap_alloc_new (((w.alloc (.cells #[.int .u8 2, .string ⟨#[47, 97]⟩, .string ⟨#[]⟩, .int .u16 0, .string ⟨#[]⟩] 93)).alloc (.cells #[.int .u8 0, .int .u32 0, .int .u32 0, .string ⟨#[]⟩, .int .u32 0, .string ⟨#[]⟩, .int .u16 0, .string ⟨#[]⟩] 111)).alloc (.cells #[.int .u8 2, .int .u32 0, .int .u32 0, .string ⟨#[]⟩, .int .u32 0, .string ⟨#[]⟩, .int .u16 0, .string ⟨#[]⟩] 111)) (.cells #[.slice a l.length cap, .int .i64 0] 224)
 have z0 : (w.alloc (.cells #[.int .u8 2, .string ⟨#[47, 97]⟩, .string ⟨#[]⟩, .int .u16 0, .string ⟨#[]⟩] 93)).heap.size = w.heap.size + 1 := by simp
 have z1 : ((w.alloc (.cells #[.int .u8 2, .string ⟨#[47, 97]⟩, .string ⟨#[]⟩, .int .u16 0, .string ⟨#[]⟩] 93)).alloc (.cells #[.int .u8 0, .int .u32 0, .int .u32 0, .string ⟨#[]⟩, .int .u32 0, .string ⟨#[]⟩, .int .u16 0, .string ⟨#[]⟩] 111)).heap.size = w.heap.size + 1 + 1 := by simp
 have z2 : (((w.alloc (.cells #[.int .u8 2, .string ⟨#[47, 97]⟩, .string ⟨#[]⟩, .int .u16 0, .string ⟨#[]⟩] 93)).alloc (.cells #[.int .u8 0, .int .u32 0, .int .u32 0, .string ⟨#[]⟩, .int .u32 0, .string ⟨#[]⟩, .int .u16 0, .string ⟨#[]⟩] 111)).alloc (.cells #[.int .u8 2, .int .u32 0, .int .u32 0, .string ⟨#[]⟩, .int .u32 0, .string ⟨#[]⟩, .int .u16 0, .string ⟨#[]⟩] 111)).heap.size = w.heap.size + 1 + 1 + 1 := by simp
 have z3 : ((((w.alloc (.cells #[.int .u8 2, .string ⟨#[47, 97]⟩, .string ⟨#[]⟩, .int .u16 0, .string ⟨#[]⟩] 93)).alloc (.cells #[.int .u8 0, .int .u32 0, .int .u32 0, .string ⟨#[]⟩, .int .u32 0, .string ⟨#[]⟩, .int .u16 0, .string ⟨#[]⟩] 111)).alloc (.cells #[.int .u8 2, .int .u32 0, .int .u32 0, .string ⟨#[]⟩, .int .u32 0, .string ⟨#[]⟩, .int .u16 0, .string ⟨#[]⟩] 111)).alloc (.cells #[.slice a l.length cap, .int .i64 0] 224)).heap.size = w.heap.size + 1 + 1 + 1 + 1 := by simp
 have b12 := b2.trans (b3.mono b2.size)
 have b13 := b1.trans (b12.mono b1.size)
 have BV := hid (b0.trans (b13.mono b0.size))
 have h0 := (b13.block _ (lt_blkR g0)).trans g0
 have h1 := (b12.block _ (lt_blkR g1)).trans g1
 have h2 := (b3.block _ (lt_blkR g2)).trans g2
 rw [z0] at h1
 rw [z1] at h2
 rw [z2] at g3
 have OE := hid (fun W (hW : Below ((((w.alloc (.cells #[.int .u8 2, .string ⟨#[47, 97]⟩, .string ⟨#[]⟩, .int .u16 0, .string ⟨#[]⟩] 93)).alloc (.cells #[.int .u8 0, .int .u32 0, .int .u32 0, .string ⟨#[]⟩, .int .u32 0, .string ⟨#[]⟩, .int .u16 0, .string ⟨#[]⟩] 111)).alloc (.cells #[.int .u8 2, .int .u32 0, .int .u32 0, .string ⟨#[]⟩, .int .u32 0, .string ⟨#[]⟩, .int .u16 0, .string ⟨#[]⟩] 111)).alloc (.cells #[.slice a l.length cap, .int .i64 0] 224)).heap.size ((((w.alloc (.cells #[.int .u8 2, .string ⟨#[47, 97]⟩, .string ⟨#[]⟩, .int .u16 0, .string ⟨#[]⟩] 93)).alloc (.cells #[.int .u8 0, .int .u32 0, .int .u32 0, .string ⟨#[]⟩, .int .u32 0, .string ⟨#[]⟩, .int .u16 0, .string ⟨#[]⟩] 111)).alloc (.cells #[.int .u8 2, .int .u32 0, .int .u32 0, .string ⟨#[]⟩, .int .u32 0, .string ⟨#[]⟩, .int .u16 0, .string ⟨#[]⟩] 111)).alloc (.cells #[.slice a l.length cap, .int .i64 0] 224)) W) => entry_c (w := W) (w.heap.size + 1 + 1 + 1) a cap l ((h.later BV.out).later hW) hf ((hW.block _ (lt_blkR g3)).trans g3))
 have P0 := hid (fun W (hW : Below w.heap.size w W) => cell_later hW hp0)
 have P9 := hid (fun W (hW : Below w.heap.size w W) => cell_later hW hp9)
 have FRH := hid (fun W (hW : W.cell? ⟨w.heap.size + 1 + 1 + 1, 1, none⟩ = some (.int .i64 0)) => fresh_c (w := W) (w.heap.size + 1 + 1 + 1) hW)
 clear h hf b0 b1 b2 b3 b12 b13 g0 g1 g2
 go_enter Tryz.func74, Tryz.ntmps74
 go_upto_region 3 with fail
 generalize ((((w.alloc (.cells #[.int .u8 2, .string ⟨#[47, 97]⟩, .string ⟨#[]⟩, .int .u16 0, .string ⟨#[]⟩] 93)).alloc (.cells #[.int .u8 0, .int .u32 0, .int .u32 0, .string ⟨#[]⟩, .int .u32 0, .string ⟨#[]⟩, .int .u16 0, .string ⟨#[]⟩] 111)).alloc (.cells #[.int .u8 2, .int .u32 0, .int .u32 0, .string ⟨#[]⟩, .int .u32 0, .string ⟨#[]⟩, .int .u16 0, .string ⟨#[]⟩] 111)).alloc (.cells #[.slice a l.length cap, .int .i64 0] 224)) = V at *
 have x0 : V.cell? ⟨w.heap.size, 0, none⟩ = some (.int .u8 2) := cell_of_row2 h0 0 rfl
 have x1 : V.cell? ⟨w.heap.size, 1, none⟩ = some (.string ⟨#[47, 97]⟩) := cell_of_row2 h0 1 rfl
 have H0 := hid h0
 have H1 := hid h1
 have H2 := hid h2
 have Z := hid z3
 clear h0 h1 h2 g3 z0 z1 z2 z3
 go_upto_region 15 with (go_at_call 138; refine (OE.out _ (Below.refl _ _)).mono ?_; rintro _ w1 ⟨rfl, hr1, hb1⟩; have R1 := hid hr1; have B1 := hid hb1; have y2 := (hb1.block _ (lt_blkR H2.out)).trans H2.out; have fz : ∀ i, w1.frozen? ⟨w.heap.size + 1 + 1, i, none⟩ = false := fun i => (by simp [World.frozen?, y2]); have k2 : w1.cell? ⟨w.heap.size + 1 + 1, 2, none⟩ = some (.int .u32 0) := cell_of_row2 y2 2 rfl; have k3 : w1.cell? ⟨w.heap.size + 1 + 1, 3, none⟩ = some (.string ⟨#[]⟩) := cell_of_row2 y2 3 rfl; have Y2 := hid y2; clear hr1 hb1 y2)
 have Q15 : ((w1.setCell ⟨w.heap.size + 1 + 1, 2, none⟩ (.int .u32 1)).setCell ⟨w.heap.size + 1 + 1, 3, none⟩ (.string ⟨#[97]⟩)).heap[w.heap.size + 1 + 1]? = some (.cells #[.int .u8 2, .int .u32 0, .int .u32 1, .string ⟨#[97]⟩, .int .u32 0, .string ⟨#[]⟩, .int .u16 0, .string ⟨#[]⟩] 111 (0, 0)) := by simp only [World.setCell]; simp [Array.getElem?_modify, Y2.out]
 have O15 : Ou (fun k => k = w.heap.size + 1 + 1) w1 ((w1.setCell ⟨w.heap.size + 1 + 1, 2, none⟩ (.int .u32 1)).setCell ⟨w.heap.size + 1 + 1, 3, none⟩ (.string ⟨#[97]⟩)) := (((Ou.of (S := fun k => k = w.heap.size + 1 + 1) (Below.refl _ _)).set rfl).set rfl)
 have F15 := (O15.block (w.heap.size + 1 + 1 + 1) (lt_blkR R1.out) (by omega)).trans R1.out
 have E15 := (O15.block (w.heap.size + 1) (lt_blkR ((B1.out.block _ (lt_blkR H1.out)).trans H1.out)) (by omega)).trans ((B1.out.block _ (lt_blkR H1.out)).trans H1.out)
 have A15 := (O15.block (w.heap.size) (lt_blkR ((B1.out.block _ (lt_blkR H0.out)).trans H0.out)) (by omega)).trans ((B1.out.block _ (lt_blkR H0.out)).trans H0.out)
 have bw1 := BV.out.trans (B1.out.mono BV.out.size)
 have B15 := hid (bw1.trans (O15.below bw1.size (fun k e => by omega)))
 clear k2 k3 fz O15 bw1 x0 x1
 generalize ((w1.setCell ⟨w.heap.size + 1 + 1, 2, none⟩ (.int .u32 1)).setCell ⟨w.heap.size + 1 + 1, 3, none⟩ (.string ⟨#[97]⟩)) = W at *
 have q0 := P0.out _ B15.out
 have q9 := P9.out _ B15.out
 have d1 : W.drew.cell? ⟨w.heap.size + 1 + 1, 1, none⟩ = some (.int .u32 0) := cell_of_row2 (show W.drew.heap[w.heap.size + 1 + 1]? = _ from Q15) 1 rfl
 have fz : ∀ i, W.drew.frozen? ⟨w.heap.size + 1 + 1, i, none⟩ = false := fun i => (by simp [World.frozen?, show W.drew.heap[w.heap.size + 1 + 1]? = _ from Q15])
 have f1 : W.drew.cell? ⟨w.heap.size + 1 + 1 + 1, 1, none⟩ = some (.int .i64 0) := cell_of_row2 (show W.drew.heap[w.heap.size + 1 + 1 + 1]? = _ from F15) 1 rfl
 have FRW := hid (FRH.out W.drew f1)
 clear f1
 go_wp2_with fail
 refine wp_region_held_drew (S := fun w' => w'.cell? ⟨p, 0, none⟩ = some (.int .u8 1) ∧ w'.cell? ⟨p, 9, none⟩ = some (.int .u32 1)) (by kernel_rfl) ⟨q0, q9⟩ (fun hHeld => ?_)
 refine take_l 0 (v := ?_) rfl (by kernel_rfl) (by kernel_rfl) (by kernel_rfl) (fun _ _ _ h => h) (Or.inl ⟨by rfl, ?_⟩) (by assumption) ?_
 rotate_left
 · (intro w' hSw; clear hSw; go_simp; first | done | with_reducible rfl)
 try simp only [Act.put, List.setIfInBounds_toArray, List.set_cons_zero, List.set_cons_succ]
 refine take_l 1 (v := ?_) rfl (by kernel_rfl) (by kernel_rfl) (by kernel_rfl) (fun _ _ _ h => h) (Or.inl ⟨by rfl, ?_⟩) (by assumption) ?_
 rotate_left
 · (intro w' hSw; clear hSw; go_simp; first | done | with_reducible rfl)
 try simp only [Act.put, List.setIfInBounds_toArray, List.set_cons_zero, List.set_cons_succ]
 refine take_l 2 (v := ?_) rfl (by kernel_rfl) (by kernel_rfl) (by kernel_rfl) (fun _ _ _ h => h) (Or.inl ⟨by rfl, ?_⟩) (by assumption) ?_
 rotate_left
 · (intro w' hSw; clear hSw; go_simp; first | done | with_reducible rfl)
 try simp only [Act.put, List.setIfInBounds_toArray, List.set_cons_zero, List.set_cons_succ]
 refine take_l 3 (v := ?_) rfl (by kernel_rfl) (by kernel_rfl) (by kernel_rfl) (fun _ _ _ h => h) (Or.inl ⟨by rfl, ?_⟩) (by assumption) ?_
 rotate_left
 · (intro w' hSw; have kq0 := hSw.1; have kq9 := hSw.2; clear hSw; go_simp; first | done | with_reducible rfl)
 try simp only [Act.put, List.setIfInBounds_toArray, List.set_cons_zero, List.set_cons_succ]
 refine take_l 4 (v := ?_) rfl (by kernel_rfl) (by kernel_rfl) (by kernel_rfl) (fun _ _ _ h => h) (Or.inl ⟨by rfl, ?_⟩) (by assumption) ?_
 rotate_left
 · (intro w' hSw; clear hSw; go_simp; first | done | with_reducible rfl)
 try simp only [Act.put, List.setIfInBounds_toArray, List.set_cons_zero, List.set_cons_succ]
 refine take_l 5 (v := ?_) rfl (by kernel_rfl) (by kernel_rfl) (by kernel_rfl) (fun _ _ _ h => h) (Or.inl ⟨by rfl, ?_⟩) (by assumption) ?_
 rotate_left
 · (intro w' hSw; clear hSw; go_simp; first | done | with_reducible rfl)
 try simp only [Act.put, List.setIfInBounds_toArray, List.set_cons_zero, List.set_cons_succ]
 refine take_l 6 (v := ?_) rfl (by kernel_rfl) (by kernel_rfl) (by kernel_rfl) (fun _ _ _ h => h) (Or.inl ⟨by rfl, ?_⟩) (by assumption) ?_
 rotate_left
 · (intro w' hSw; clear hSw; go_simp; first | done | with_reducible rfl)
 try simp only [Act.put, List.setIfInBounds_toArray, List.set_cons_zero, List.set_cons_succ]
 refine take_l 7 (v := ?_) rfl (by kernel_rfl) (by kernel_rfl) (by kernel_rfl) (fun _ _ _ h => h) (Or.inl ⟨by rfl, ?_⟩) (by assumption) ?_
 rotate_left
 · (intro w' hSw; clear hSw; go_simp; first | done | with_reducible rfl)
 try simp only [Act.put, List.setIfInBounds_toArray, List.set_cons_zero, List.set_cons_succ]
 refine take_l 8 (v := ?_) rfl (by kernel_rfl) (by kernel_rfl) (by kernel_rfl) (fun _ _ _ h => h) (Or.inl ⟨by rfl, ?_⟩) (by assumption) ?_
 rotate_left
 · (intro w' hSw; have kq0 := hSw.1; have kq9 := hSw.2; clear hSw; go_simp; first | done | with_reducible rfl)
 try simp only [Act.put, List.setIfInBounds_toArray, List.set_cons_zero, List.set_cons_succ]
 refine cons_l 9 rfl (by kernel_rfl) (fun K hK => ?_)
 go_simp
 refine FRW.out.mono ?_; rintro _ w2 ⟨rfl, hw2⟩
 subst hw2
 go_simp
 refine hK.out _ _ ⟨q0, q9⟩ (fun hHeld => ?_)
 clear hK K
 try simp only [Act.put, List.setIfInBounds_toArray, List.set_cons_zero, List.set_cons_succ]
 refine take_l 10 (v := ?_) rfl (by kernel_rfl) (by kernel_rfl) (by kernel_rfl) (fun _ _ _ h => h) (Or.inl ⟨by rfl, ?_⟩) (by assumption) ?_
 rotate_left
 · (intro w' hSw; clear hSw; go_simp; first | done | with_reducible rfl)
 try simp only [Act.put, List.setIfInBounds_toArray, List.set_cons_zero, List.set_cons_succ]
 refine cons_l 11 rfl (by kernel_rfl) (fun K hK => ?_)
 go_simp
 have Q16 : (W.setCell ⟨w.heap.size + 1 + 1, 1, none⟩ (.int .u32 16777217)).drew.heap[w.heap.size + 1 + 1]? = some (.cells #[.int .u8 2, .int .u32 16777217, .int .u32 1, .string ⟨#[97]⟩, .int .u32 0, .string ⟨#[]⟩, .int .u16 0, .string ⟨#[]⟩] 111 (0, 0)) := by show (W.setCell ⟨w.heap.size + 1 + 1, 1, none⟩ (.int .u32 16777217)).heap[w.heap.size + 1 + 1]? = _; simp only [World.setCell]; simp [Array.getElem?_modify, Q15]
 have O16 : Ou (fun k => k = w.heap.size + 1 + 1) W (W.setCell ⟨w.heap.size + 1 + 1, 1, none⟩ (.int .u32 16777217)) := ((Ou.of (S := fun k => k = w.heap.size + 1 + 1) (Below.refl _ _)).set rfl)
 have F16 : (W.setCell ⟨w.heap.size + 1 + 1, 1, none⟩ (.int .u32 16777217)).drew.heap[w.heap.size + 1 + 1 + 1]? = _ := (O16.block (w.heap.size + 1 + 1 + 1) (lt_blkR F15) (by omega)).trans F15
 have E16 : (W.setCell ⟨w.heap.size + 1 + 1, 1, none⟩ (.int .u32 16777217)).drew.heap[w.heap.size + 1]? = _ := (O16.block (w.heap.size + 1) (lt_blkR E15) (by omega)).trans E15
 have A16 : (W.setCell ⟨w.heap.size + 1 + 1, 1, none⟩ (.int .u32 16777217)).drew.heap[w.heap.size]? = _ := (O16.block (w.heap.size) (lt_blkR A15) (by omega)).trans A15
 have B16 := hid (Below.drew (B15.out.trans (O16.below B15.out.size (fun k e => by omega))))
 have r0 := P0.out _ B16.out
 have r9 := P9.out _ B16.out
 refine hK.out _ _ ⟨r0, r9⟩ (fun hHeld => ?_)
 clear hK K
 try simp only [Act.put, List.setIfInBounds_toArray, List.set_cons_zero, List.set_cons_succ]
 refine wpAnyH_done (by kernel_rfl) ?_ _
 clear hHeld d1 fz O16 r0 r9 q0 q9 Q15 F15 E15 A15 FRW
 generalize (W.setCell ⟨w.heap.size + 1 + 1, 1, none⟩ (.int .u32 16777217)).drew = W2 at *
 have m3 : W2.cell? ⟨w.heap.size, 3, none⟩ = some (.int .u16 0) := cell_of_row2 A16 3 rfl
 have m6 : W2.cell? ⟨w.heap.size + 1 + 1, 6, none⟩ = some (.int .u16 0) := cell_of_row2 Q16 6 rfl
 have fz : ∀ i, W2.frozen? ⟨w.heap.size + 1 + 1, i, none⟩ = false := fun i => (by simp [World.frozen?, Q16])
 go_upto_region 25 with fail
 have Q17 : (W2.setCell ⟨w.heap.size + 1 + 1, 6, none⟩ (.int .u16 0)).heap[w.heap.size + 1 + 1]? = some (.cells #[.int .u8 2, .int .u32 16777217, .int .u32 1, .string ⟨#[97]⟩, .int .u32 0, .string ⟨#[]⟩, .int .u16 0, .string ⟨#[]⟩] 111 (0, 0)) := by simp only [World.setCell]; simp [Array.getElem?_modify, Q16]
 have O17 : Ou (fun k => k = w.heap.size + 1 + 1) W2 (W2.setCell ⟨w.heap.size + 1 + 1, 6, none⟩ (.int .u16 0)) := ((Ou.of (S := fun k => k = w.heap.size + 1 + 1) (Below.refl _ _)).set rfl)
 have F17 := (O17.block (w.heap.size + 1 + 1 + 1) (lt_blkR F16) (by omega)).trans F16
 have E17 := (O17.block (w.heap.size + 1) (lt_blkR E16) (by omega)).trans E16
 have B17 := hid (B16.out.trans (O17.below B16.out.size (fun k e => by omega)))
 clear m3 m6 fz O17 Q16 F16 E16 A16
 generalize (W2.setCell ⟨w.heap.size + 1 + 1, 6, none⟩ (.int .u16 0)) = W3 at *
 have Q17' : W3.drew.heap[w.heap.size + 1 + 1]? = _ := Q17
 have F17' : W3.drew.heap[w.heap.size + 1 + 1 + 1]? = _ := F17
 have E17' : W3.drew.heap[w.heap.size + 1]? = _ := E17
 have fz : ∀ i, W3.frozen? ⟨w.heap.size + 1, i, none⟩ = false := fun i => (by simp [World.frozen?, E17])
 have e0 : W3.cell? ⟨w.heap.size + 1, 0, none⟩ = some (.int .u8 0) := cell_of_row2 E17 0 rfl
 have e1 : W3.cell? ⟨w.heap.size + 1, 1, none⟩ = some (.int .u32 0) := cell_of_row2 E17 1 rfl
 have e2 : W3.cell? ⟨w.heap.size + 1, 2, none⟩ = some (.int .u32 0) := cell_of_row2 E17 2 rfl
 have e3 : W3.cell? ⟨w.heap.size + 1, 3, none⟩ = some (.string ⟨#[]⟩) := cell_of_row2 E17 3 rfl
 have e4 : W3.cell? ⟨w.heap.size + 1, 4, none⟩ = some (.int .u32 0) := cell_of_row2 E17 4 rfl
 have e5 : W3.cell? ⟨w.heap.size + 1, 5, none⟩ = some (.string ⟨#[]⟩) := cell_of_row2 E17 5 rfl
 have e6 : W3.cell? ⟨w.heap.size + 1, 6, none⟩ = some (.int .u16 0) := cell_of_row2 E17 6 rfl
 have e7 : W3.cell? ⟨w.heap.size + 1, 7, none⟩ = some (.string ⟨#[]⟩) := cell_of_row2 E17 7 rfl
 go_wp2_with fail
 refine wp_region_held_drew (S := fun w' => w'.heap[w.heap.size + 1 + 1]? = some (.cells #[.int .u8 2, .int .u32 16777217, .int .u32 1, .string ⟨#[97]⟩, .int .u32 0, .string ⟨#[]⟩, .int .u16 0, .string ⟨#[]⟩] 111 (0, 0)) ∧ w'.heap[w.heap.size + 1 + 1 + 1]? = some (.cells #[.slice a l.length cap, .int .i64 0] 224 (0, 0))) (by kernel_rfl) ⟨Q17', F17'⟩ (fun hHeld => ?_)
 refine take_l 0 (v := ?_) rfl (by kernel_rfl) (by kernel_rfl) (by kernel_rfl) (fun _ _ _ h => h) (Or.inl ⟨by rfl, ?_⟩) (by assumption) ?_
 rotate_left
 · (intro w' hSw; have kk0 : w'.cell? ⟨w.heap.size + 1 + 1, 0, none⟩ = some (.int .u8 2) := cell_of_row2 hSw.1 0 rfl; have kk1 : w'.cell? ⟨w.heap.size + 1 + 1, 1, none⟩ = some (.int .u32 16777217) := cell_of_row2 hSw.1 1 rfl; have kk2 : w'.cell? ⟨w.heap.size + 1 + 1, 2, none⟩ = some (.int .u32 1) := cell_of_row2 hSw.1 2 rfl; have kk3 : w'.cell? ⟨w.heap.size + 1 + 1, 3, none⟩ = some (.string ⟨#[97]⟩) := cell_of_row2 hSw.1 3 rfl; have kk4 : w'.cell? ⟨w.heap.size + 1 + 1, 4, none⟩ = some (.int .u32 0) := cell_of_row2 hSw.1 4 rfl; have kk5 : w'.cell? ⟨w.heap.size + 1 + 1, 5, none⟩ = some (.string ⟨#[]⟩) := cell_of_row2 hSw.1 5 rfl; have kk6 : w'.cell? ⟨w.heap.size + 1 + 1, 6, none⟩ = some (.int .u16 0) := cell_of_row2 hSw.1 6 rfl; have kk7 : w'.cell? ⟨w.heap.size + 1 + 1, 7, none⟩ = some (.string ⟨#[]⟩) := cell_of_row2 hSw.1 7 rfl; clear hSw; go_simp; first | done | with_reducible rfl)
 try simp only [Act.put, List.setIfInBounds_toArray, List.set_cons_zero, List.set_cons_succ]
 refine take_l 1 (v := ?_) rfl (by kernel_rfl) (by kernel_rfl) (by kernel_rfl) (fun _ _ _ h => h) (Or.inl ⟨by rfl, ?_⟩) (by assumption) ?_
 rotate_left
 · (intro w' hSw; clear hSw; go_simp; first | done | with_reducible rfl)
 try simp only [Act.put, List.setIfInBounds_toArray, List.set_cons_zero, List.set_cons_succ]
 refine take_l 2 (v := ?_) rfl (by kernel_rfl) (by kernel_rfl) (by kernel_rfl) (fun _ _ _ h => h) (Or.inl ⟨by rfl, ?_⟩) (by assumption) ?_
 rotate_left
 · (intro w' hSw; have kf : w'.cell? ⟨w.heap.size + 1 + 1 + 1, 1, none⟩ = some (.int .i64 0) := cell_of_row2 hSw.2 1 rfl; clear hSw; go_simp; first | done | with_reducible rfl)
 try simp only [Act.put, List.setIfInBounds_toArray, List.set_cons_zero, List.set_cons_succ]
 refine cons_l 3 rfl (by kernel_rfl) (fun K hK => ?_)
 go_simp
 have Q18 : ((((((((W3.setCell ⟨w.heap.size + 1, 0, none⟩ (.int .u8 2)).setCell ⟨w.heap.size + 1, 1, none⟩ (.int .u32 16777217)).setCell ⟨w.heap.size + 1, 2, none⟩ (.int .u32 1)).setCell ⟨w.heap.size + 1, 3, none⟩ (.string ⟨#[97]⟩)).setCell ⟨w.heap.size + 1, 4, none⟩ (.int .u32 0)).setCell ⟨w.heap.size + 1, 5, none⟩ (.string ⟨#[]⟩)).setCell ⟨w.heap.size + 1, 6, none⟩ (.int .u16 0)).setCell ⟨w.heap.size + 1, 7, none⟩ (.string ⟨#[]⟩)).drew.heap[w.heap.size + 1]? = some (.cells #[.int .u8 2, .int .u32 16777217, .int .u32 1, .string ⟨#[97]⟩, .int .u32 0, .string ⟨#[]⟩, .int .u16 0, .string ⟨#[]⟩] 111 (0, 0)) := (heap_drewAt _ _).trans (eight_all E17 _ _ _ _ _ _ _ _)
 have O18 : Ou (fun k => k = w.heap.size + 1) W3 ((((((((W3.setCell ⟨w.heap.size + 1, 0, none⟩ (.int .u8 2)).setCell ⟨w.heap.size + 1, 1, none⟩ (.int .u32 16777217)).setCell ⟨w.heap.size + 1, 2, none⟩ (.int .u32 1)).setCell ⟨w.heap.size + 1, 3, none⟩ (.string ⟨#[97]⟩)).setCell ⟨w.heap.size + 1, 4, none⟩ (.int .u32 0)).setCell ⟨w.heap.size + 1, 5, none⟩ (.string ⟨#[]⟩)).setCell ⟨w.heap.size + 1, 6, none⟩ (.int .u16 0)).setCell ⟨w.heap.size + 1, 7, none⟩ (.string ⟨#[]⟩)) := ou_eight _ _ _ _ _ _ _ _ _ _
 have G18 : ((((((((W3.setCell ⟨w.heap.size + 1, 0, none⟩ (.int .u8 2)).setCell ⟨w.heap.size + 1, 1, none⟩ (.int .u32 16777217)).setCell ⟨w.heap.size + 1, 2, none⟩ (.int .u32 1)).setCell ⟨w.heap.size + 1, 3, none⟩ (.string ⟨#[97]⟩)).setCell ⟨w.heap.size + 1, 4, none⟩ (.int .u32 0)).setCell ⟨w.heap.size + 1, 5, none⟩ (.string ⟨#[]⟩)).setCell ⟨w.heap.size + 1, 6, none⟩ (.int .u16 0)).setCell ⟨w.heap.size + 1, 7, none⟩ (.string ⟨#[]⟩)).drew.heap[w.heap.size + 1 + 1]? = _ := (heap_drewAt _ _).trans ((O18.block (w.heap.size + 1 + 1) (lt_blkR Q17) (by omega)).trans Q17)
 have F18 : ((((((((W3.setCell ⟨w.heap.size + 1, 0, none⟩ (.int .u8 2)).setCell ⟨w.heap.size + 1, 1, none⟩ (.int .u32 16777217)).setCell ⟨w.heap.size + 1, 2, none⟩ (.int .u32 1)).setCell ⟨w.heap.size + 1, 3, none⟩ (.string ⟨#[97]⟩)).setCell ⟨w.heap.size + 1, 4, none⟩ (.int .u32 0)).setCell ⟨w.heap.size + 1, 5, none⟩ (.string ⟨#[]⟩)).setCell ⟨w.heap.size + 1, 6, none⟩ (.int .u16 0)).setCell ⟨w.heap.size + 1, 7, none⟩ (.string ⟨#[]⟩)).drew.heap[w.heap.size + 1 + 1 + 1]? = _ := (heap_drewAt _ _).trans ((O18.block (w.heap.size + 1 + 1 + 1) (lt_blkR F17) (by omega)).trans F17)
 have B18 := hid (Below.drew (B17.out.trans (O18.below B17.out.size (fun k e => by omega))))
 refine hK.out _ _ ⟨G18, F18⟩ (fun hHeld => ?_)
 clear hK K
 try simp only [Act.put, List.setIfInBounds_toArray, List.set_cons_zero, List.set_cons_succ]
 refine take_l 4 (v := ?_) rfl (by kernel_rfl) (by kernel_rfl) (by kernel_rfl) (fun _ _ _ h => h) (Or.inl ⟨by rfl, ?_⟩) (by assumption) ?_
 rotate_left
 · (intro w' hSw; clear hSw; go_simp; first | done | with_reducible rfl)
 try simp only [Act.put, List.setIfInBounds_toArray, List.set_cons_zero, List.set_cons_succ]
 refine wpAnyH_done (by kernel_rfl) ?_ _
 clear hHeld e0 e1 e2 e3 e4 e5 e6 e7 fz O18 Q17 Q17' F17 F17' E17 E17'
 generalize ((((((((W3.setCell ⟨w.heap.size + 1, 0, none⟩ (.int .u8 2)).setCell ⟨w.heap.size + 1, 1, none⟩ (.int .u32 16777217)).setCell ⟨w.heap.size + 1, 2, none⟩ (.int .u32 1)).setCell ⟨w.heap.size + 1, 3, none⟩ (.string ⟨#[97]⟩)).setCell ⟨w.heap.size + 1, 4, none⟩ (.int .u32 0)).setCell ⟨w.heap.size + 1, 5, none⟩ (.string ⟨#[]⟩)).setCell ⟨w.heap.size + 1, 6, none⟩ (.int .u16 0)).setCell ⟨w.heap.size + 1, 7, none⟩ (.string ⟨#[]⟩)).drew = W4 at *
 have r0 : W4.cell? ⟨w.heap.size + 1, 0, none⟩ = some (.int .u8 2) := cell_of_row2 Q18 0 rfl
 have r1 : W4.cell? ⟨w.heap.size + 1, 1, none⟩ = some (.int .u32 16777217) := cell_of_row2 Q18 1 rfl
 have r2 : W4.cell? ⟨w.heap.size + 1, 2, none⟩ = some (.int .u32 1) := cell_of_row2 Q18 2 rfl
 have r3 : W4.cell? ⟨w.heap.size + 1, 3, none⟩ = some (.string ⟨#[97]⟩) := cell_of_row2 Q18 3 rfl
 have r4 : W4.cell? ⟨w.heap.size + 1, 4, none⟩ = some (.int .u32 0) := cell_of_row2 Q18 4 rfl
 have r5 : W4.cell? ⟨w.heap.size + 1, 5, none⟩ = some (.string ⟨#[]⟩) := cell_of_row2 Q18 5 rfl
 have r6 : W4.cell? ⟨w.heap.size + 1, 6, none⟩ = some (.int .u16 0) := cell_of_row2 Q18 6 rfl
 have r7 : W4.cell? ⟨w.heap.size + 1, 7, none⟩ = some (.string ⟨#[]⟩) := cell_of_row2 Q18 7 rfl
 go_wp2
 refine bodyPost_ret (v := .tuple #[.agg #[.int .u8 2, .int .u32 16777217, .int .u32 1, .string ⟨#[97]⟩, .int .u32 0, .string ⟨#[]⟩, .int .u16 0, .string ⟨#[]⟩], .int .i64 0]) (by simp [results, Tryz.results74, go_sem, r0, r1, r2, r3, r4, r5, r6, r7]) rfl ⟨rfl, B18.out⟩
end Go.Proofs.YtfmghbennahlfaaGreat
