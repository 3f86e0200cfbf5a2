/-
  
-/
import Derived.Test.YtfmghbennahlfaaGreatCnBx
import Derived.Test.YtfmghbennahlfaaGreatCnBt
namespace Go.Proofs.YtfmghbennahlfaaGreat
open Go.RowKit Go.ChangeShapes Go.WideShapes Go.ChangeAt Go.Maps Go.Shelf
set_option linter.unusedVariables false
set_option linter.unusedSimpArgs false
set_option maxRecDepth 100000
def Idle (c : Cv) : Prop := c.L = [] ∧ c.lv = .slice none 0 0 ∧ c.fz = 0 ∧ c.dn = 0 ∧ c.nx = 1 ∧ 204 ≤ c.N ∧ c.t ≠ 4294967295 ∧ CaK c.ca ∧ (c.ca.has 1 = false → c.lk = true → (∀ i, c.ca.f i = none) ∧ c.ca.m = 0)
def doneC (c : Cv) (lb lc : Nat) : Cv := { rchC c with t := c.t + 1, lv := .slice (some ⟨lb, 0, none⟩) 1 lc, fz := 0, dn := 0, nx := 2, L := [oM], ca := (rchC c).ca.dirt }
def DoOkP (base : Nat) (c : Cv) (w : World) (e : Ending) (w' : World) : Prop := e = .returned (.int .i64 0) ∧ ∃ lb lc, CvM base w' (doneC c lb lc) ∧ Below base w w'
def DoNoP (base : Nat) (c : Cv) (w : World) (e : Ending) (w' : World) : Prop := e = .returned (.int .i64 11) ∧ CvM base w' c ∧ Below base w w'
theorem rch_no {c : Cv} (h : rchB c = false) : rchC c = c := by
 unfold rchC
 rw [h]
 rfl
set_option maxHeartbeats 4000000 in
theorem dono_c {base : Nat} {w : World} {c : Cv} (h : CvM base w c) (hI : Idle c) (hr : rchB c = false) :
   Calls Tryz.prog 34 #[.pointer (some ⟨c.p, 0, none⟩), .agg #[.int .u8 2, .string ⟨#[47, 97]⟩, .string ⟨#[]⟩, .int .u16 0, .string ⟨#[]⟩], .func (.func 35) #[.agg #[pB c.j]] #[]] w (DoNoP base c w) := by
 have b0 := below_1 w (.cells #[.int .u8 2, .string ⟨#[47, 97]⟩, .string ⟨#[]⟩, .int .u16 0, .string ⟨#[]⟩] 93)
 have g0 := heap_alloc_new w (.cells #[.int .u8 2, .string ⟨#[47, 97]⟩, .string ⟨#[]⟩, .int .u16 0, .string ⟨#[]⟩] 93)
 have H := hid h
 have B0 := hid b0
 have C0 := h.later b0
 have VC := hid (view_c C0 (.inl hI.1))
 have i0 : (w.alloc (.cells #[.int .u8 2, .string ⟨#[47, 97]⟩, .string ⟨#[]⟩, .int .u16 0, .string ⟨#[]⟩] 93)).cell? ⟨w.heap.size, 0, none⟩ = some (.int .u8 2) := cell_of_row2 g0 0 rfl
 have i1 : (w.alloc (.cells #[.int .u8 2, .string ⟨#[47, 97]⟩, .string ⟨#[]⟩, .int .u16 0, .string ⟨#[]⟩] 93)).cell? ⟨w.heap.size, 1, none⟩ = some (.string ⟨#[47, 97]⟩) := cell_of_row2 g0 1 rfl
 have i2 : (w.alloc (.cells #[.int .u8 2, .string ⟨#[47, 97]⟩, .string ⟨#[]⟩, .int .u16 0, .string ⟨#[]⟩] 93)).cell? ⟨w.heap.size, 2, none⟩ = some (.string ⟨#[]⟩) := cell_of_row2 g0 2 rfl
 have i3 : (w.alloc (.cells #[.int .u8 2, .string ⟨#[47, 97]⟩, .string ⟨#[]⟩, .int .u16 0, .string ⟨#[]⟩] 93)).cell? ⟨w.heap.size, 3, none⟩ = some (.int .u16 0) := cell_of_row2 g0 3 rfl
 have i4 : (w.alloc (.cells #[.int .u8 2, .string ⟨#[47, 97]⟩, .string ⟨#[]⟩, .int .u16 0, .string ⟨#[]⟩] 93)).cell? ⟨w.heap.size, 4, none⟩ = some (.string ⟨#[]⟩) := cell_of_row2 g0 4 rfl
 have WR : Hid ((w.alloc (.cells #[.int .u8 2, .string ⟨#[47, 97]⟩, .string ⟨#[]⟩, .int .u16 0, .string ⟨#[]⟩] 93)).heap[w.heap.size]? = some (.cells #[.int .u8 2, .string ⟨#[47, 97]⟩, .string ⟨#[]⟩, .int .u16 0, .string ⟨#[]⟩] 93 (0, 0))) := hid g0
 have OC : Hid (∀ (W : World) (a : Option Addr) (cap : Nat) (l : List Nd), Below w.heap.size w W → Tr W a l → l.map Nd.er = vwL c.L → Calls Tryz.prog 74 #[.pointer (some ⟨c.p, 0, none⟩), .slice a l.length cap, .agg #[.int .u8 2, .string ⟨#[47, 97]⟩, .string ⟨#[]⟩, .int .u16 0, .string ⟨#[]⟩]] W fun e w' => e = .returned (.tuple #[.agg #[.int .u8 2, .int .u32 16777217, .int .u32 1, .string ⟨#[97]⟩, .int .u32 0, .string ⟨#[]⟩, .int .u16 0, .string ⟨#[]⟩], .int .i64 0]) ∧ Below W.heap.size W w') := hid (fun W a cap l hW ht he => operation_c c.p a cap l ht.1 (fd_ok he (.inl hI.1)) (cell_of_row2 (h.later hW).2.2.1 0 rfl) (by have e : W.cell? ⟨c.p, 9, none⟩ = some (.int .u32 c.nx) := cell_of_row2 (h.later hW).2.2.1 9 rfl; rw [hI.2.2.2.2.1] at e; exact e))
 have FC : Hid (∀ (W : World) (a : Option Addr) (cap : Nat) (l : List Nd), Below w.heap.size w W → Tr W a l → l.map Nd.er = vwL c.L → Calls Tryz.prog 75 #[.pointer (some ⟨c.p, 0, none⟩), .slice a l.length cap, .agg #[.int .u8 2, .int .u32 16777217, .int .u32 1, .string ⟨#[97]⟩, .int .u32 0, .string ⟨#[]⟩, .int .u16 0, .string ⟨#[]⟩]] W (RchP base c W)) := hid (fun W a cap l hW ht he => cfau_c (h.later hW) hI.1 hI.2.2.2.2.2.2.2.1 hI.2.2.2.2.2.2.2.2 a cap l ht (by rw [he, hI.1]))
 clear h b0 g0 C0 hI
 have RN : Hid (rchC c = c) := hid (rch_no hr)
 have FC : Hid (∀ (W : World) (a : Option Addr) (cap : Nat) (l : List Nd), Below w.heap.size w W → Tr W a l → l.map Nd.er = vwL c.L → Calls Tryz.prog 75 #[.pointer (some ⟨c.p, 0, none⟩), .slice a l.length cap, .agg #[.int .u8 2, .int .u32 16777217, .int .u32 1, .string ⟨#[97]⟩, .int .u32 0, .string ⟨#[]⟩, .int .u16 0, .string ⟨#[]⟩]] W fun e w' => e = .returned (.int .i64 11) ∧ CvM base w' c ∧ Ou (Tri c.cb c.cm c.ch) W w') := hid (fun W a cap l hW ht he => (FC.out W a cap l hW ht he).mono (fun e w' q => by
   unfold RchP at q
   rw [RN.out, hr] at q
   exact q))
 clear hr
 go_enter Tryz.func34, Tryz.ntmps34
 go_upto_region 1 with fail
 generalize (w.alloc (.cells #[.int .u8 2, .string ⟨#[47, 97]⟩, .string ⟨#[]⟩, .int .u16 0, .string ⟨#[]⟩] 93)) = V at *
 go_upto_region 5 with (first
   | (go_at_call 74; refine (OC.out _ a c0 l D1.out T1.out E1.out).mono ?_; rintro _ w2 ⟨rfl, hb2⟩; have D2 := hid (D1.out.trans (hb2.mono D1.out.size)); have T2 := hid (T1.out.later hb2); clear hb2)
   | (go_at_call 25; refine VC.out.mono ?_; rintro _ w1 ⟨a, c0, l, rfl, ht1, he1, hb1⟩; have D1 := hid (B0.out.trans (hb1.mono B0.out.size)); have T1 := hid ht1; have E1 := hid he1; have j0 : w1.cell? ⟨w.heap.size, 0, none⟩ = some (.int .u8 2) := cell_later hb1 i0; have j1 : w1.cell? ⟨w.heap.size, 1, none⟩ = some (.string ⟨#[47, 97]⟩) := cell_later hb1 i1; have j2 : w1.cell? ⟨w.heap.size, 2, none⟩ = some (.string ⟨#[]⟩) := cell_later hb1 i2; have j3 : w1.cell? ⟨w.heap.size, 3, none⟩ = some (.int .u16 0) := cell_later hb1 i3; have j4 : w1.cell? ⟨w.heap.size, 4, none⟩ = some (.string ⟨#[]⟩) := cell_later hb1 i4; clear hb1 ht1 he1))
 have b3 := below_1 w2 (.cells #[.int .u8 2, .int .u32 16777217, .int .u32 1, .string ⟨#[97]⟩, .int .u32 0, .string ⟨#[]⟩, .int .u16 0, .string ⟨#[]⟩] 111)
 have g3 := heap_alloc_new w2 (.cells #[.int .u8 2, .int .u32 16777217, .int .u32 1, .string ⟨#[97]⟩, .int .u32 0, .string ⟨#[]⟩, .int .u16 0, .string ⟨#[]⟩] 111)
 have D3 := hid (D2.out.trans (b3.mono D2.out.size))
 have T3 := hid (T2.out.later b3)
 obtain ⟨ob, hob⟩ : ∃ ob, ob = w2.heap.size := ⟨_, rfl⟩
 have OB : Hid (w.heap.size ≤ ob) := hid (by rw [hob]; exact D2.out.size)
 rw [← hob] at g3
 clear i0 i1 i2 i3 i4 j0 j1 j2 j3 j4 b3
 simp only [← hob]
 generalize (w2.alloc (.cells #[.int .u8 2, .int .u32 16777217, .int .u32 1, .string ⟨#[97]⟩, .int .u32 0, .string ⟨#[]⟩, .int .u16 0, .string ⟨#[]⟩] 111)) = X at *
 have y0 : X.cell? ⟨ob, 0, none⟩ = some (.int .u8 2) := cell_of_row2 g3 0 rfl
 have y1 : X.cell? ⟨ob, 1, none⟩ = some (.int .u32 16777217) := cell_of_row2 g3 1 rfl
 have y2 : X.cell? ⟨ob, 2, none⟩ = some (.int .u32 1) := cell_of_row2 g3 2 rfl
 have y3 : X.cell? ⟨ob, 3, none⟩ = some (.string ⟨#[97]⟩) := cell_of_row2 g3 3 rfl
 have y4 : X.cell? ⟨ob, 4, none⟩ = some (.int .u32 0) := cell_of_row2 g3 4 rfl
 have y5 : X.cell? ⟨ob, 5, none⟩ = some (.string ⟨#[]⟩) := cell_of_row2 g3 5 rfl
 have y6 : X.cell? ⟨ob, 6, none⟩ = some (.int .u16 0) := cell_of_row2 g3 6 rfl
 have y7 : X.cell? ⟨ob, 7, none⟩ = some (.string ⟨#[]⟩) := cell_of_row2 g3 7 rfl
 have FX := hid (FC.out X a c0 l D3.out T3.out E1.out)
 clear g3 hob
 go_wp2_with (go_at_call 75; refine FX.out.mono ?_; rintro _ w4 ⟨rfl, hc4, ho4⟩; have C4 := hid hc4; have O4 := hid ho4; clear hc4 ho4)
 go_ret
 exact ⟨rfl, C4.out, (D3.out.mono H.out.sz).trans (O4.out.below (Nat.le_trans H.out.sz D3.out.size) H.out.baseTri)⟩
set_option maxHeartbeats 4000000 in
theorem dook_c {base : Nat} {w : World} {c : Cv} (h : CvM base w c) (hI : Idle c) (hr : rchB c = true) (hk2 : CaK (rchC c).ca) :
   Calls Tryz.prog 34 #[.pointer (some ⟨c.p, 0, none⟩), .agg #[.int .u8 2, .string ⟨#[47, 97]⟩, .string ⟨#[]⟩, .int .u16 0, .string ⟨#[]⟩], .func (.func 35) #[.agg #[pB c.j]] #[]] w (DoOkP base c w) := by
 have b0 := below_1 w (.cells #[.int .u8 2, .string ⟨#[47, 97]⟩, .string ⟨#[]⟩, .int .u16 0, .string ⟨#[]⟩] 93)
 have g0 := heap_alloc_new w (.cells #[.int .u8 2, .string ⟨#[47, 97]⟩, .string ⟨#[]⟩, .int .u16 0, .string ⟨#[]⟩] 93)
 have H := hid h
 have B0 := hid b0
 have C0 := h.later b0
 have VC := hid (view_c C0 (.inl hI.1))
 have i0 : (w.alloc (.cells #[.int .u8 2, .string ⟨#[47, 97]⟩, .string ⟨#[]⟩, .int .u16 0, .string ⟨#[]⟩] 93)).cell? ⟨w.heap.size, 0, none⟩ = some (.int .u8 2) := cell_of_row2 g0 0 rfl
 have i1 : (w.alloc (.cells #[.int .u8 2, .string ⟨#[47, 97]⟩, .string ⟨#[]⟩, .int .u16 0, .string ⟨#[]⟩] 93)).cell? ⟨w.heap.size, 1, none⟩ = some (.string ⟨#[47, 97]⟩) := cell_of_row2 g0 1 rfl
 have i2 : (w.alloc (.cells #[.int .u8 2, .string ⟨#[47, 97]⟩, .string ⟨#[]⟩, .int .u16 0, .string ⟨#[]⟩] 93)).cell? ⟨w.heap.size, 2, none⟩ = some (.string ⟨#[]⟩) := cell_of_row2 g0 2 rfl
 have i3 : (w.alloc (.cells #[.int .u8 2, .string ⟨#[47, 97]⟩, .string ⟨#[]⟩, .int .u16 0, .string ⟨#[]⟩] 93)).cell? ⟨w.heap.size, 3, none⟩ = some (.int .u16 0) := cell_of_row2 g0 3 rfl
 have i4 : (w.alloc (.cells #[.int .u8 2, .string ⟨#[47, 97]⟩, .string ⟨#[]⟩, .int .u16 0, .string ⟨#[]⟩] 93)).cell? ⟨w.heap.size, 4, none⟩ = some (.string ⟨#[]⟩) := cell_of_row2 g0 4 rfl
 have WR : Hid ((w.alloc (.cells #[.int .u8 2, .string ⟨#[47, 97]⟩, .string ⟨#[]⟩, .int .u16 0, .string ⟨#[]⟩] 93)).heap[w.heap.size]? = some (.cells #[.int .u8 2, .string ⟨#[47, 97]⟩, .string ⟨#[]⟩, .int .u16 0, .string ⟨#[]⟩] 93 (0, 0))) := hid g0
 have OC : Hid (∀ (W : World) (a : Option Addr) (cap : Nat) (l : List Nd), Below w.heap.size w W → Tr W a l → l.map Nd.er = vwL c.L → Calls Tryz.prog 74 #[.pointer (some ⟨c.p, 0, none⟩), .slice a l.length cap, .agg #[.int .u8 2, .string ⟨#[47, 97]⟩, .string ⟨#[]⟩, .int .u16 0, .string ⟨#[]⟩]] W fun e w' => e = .returned (.tuple #[.agg #[.int .u8 2, .int .u32 16777217, .int .u32 1, .string ⟨#[97]⟩, .int .u32 0, .string ⟨#[]⟩, .int .u16 0, .string ⟨#[]⟩], .int .i64 0]) ∧ Below W.heap.size W w') := hid (fun W a cap l hW ht he => operation_c c.p a cap l ht.1 (fd_ok he (.inl hI.1)) (cell_of_row2 (h.later hW).2.2.1 0 rfl) (by have e : W.cell? ⟨c.p, 9, none⟩ = some (.int .u32 c.nx) := cell_of_row2 (h.later hW).2.2.1 9 rfl; rw [hI.2.2.2.2.1] at e; exact e))
 have FC : Hid (∀ (W : World) (a : Option Addr) (cap : Nat) (l : List Nd), Below w.heap.size w W → Tr W a l → l.map Nd.er = vwL c.L → Calls Tryz.prog 75 #[.pointer (some ⟨c.p, 0, none⟩), .slice a l.length cap, .agg #[.int .u8 2, .int .u32 16777217, .int .u32 1, .string ⟨#[97]⟩, .int .u32 0, .string ⟨#[]⟩, .int .u16 0, .string ⟨#[]⟩]] W (RchP base c W)) := hid (fun W a cap l hW ht he => cfau_c (h.later hW) hI.1 hI.2.2.2.2.2.2.2.1 hI.2.2.2.2.2.2.2.2 a cap l ht (by rw [he, hI.1]))
 have EC : Hid (∀ (W : World) (ob : Nat), CvM base W (rchC c) → OpBx W ob → Calls Tryz.prog 43 #[.pointer (some ⟨c.p, 0, none⟩), .func (.func 76) #[] #[.pointer (some ⟨ob, 0, none⟩)], .func (.func 35) #[.agg #[pB c.j]] #[]] W (CEntP base (rchC c) 0 W)) := hid (fun W ob hW ho => center1_c hW hI.2.2.2.2.2.1 hI.2.2.2.2.2.2.1 ob hI.2.1 hI.2.2.1 hI.2.2.2.1 hI.2.2.2.2.1 (fun X nb hX hrow => do1c_c ob nb c.g c.s 0 0 (ho.later hX) hrow ((hX.block _ (lt_blkR hW.2.2.2.2.1)).trans hW.2.2.2.2.1)))
 have NC : Hid (∀ W, Calls Tryz.prog 79 #[.agg #[.int .u8 2, .int .u32 16777217, .int .u32 1, .string ⟨#[97]⟩, .int .u32 0, .string ⟨#[]⟩, .int .u16 0, .string ⟨#[]⟩]] W fun e w' => ∃ g cap, e = .returned (.slice (some ⟨g, 0, none⟩) 2 cap) ∧ w'.cell? ⟨g, 0, none⟩ = some (.int .u32 16777217) ∧ w'.cell? ⟨g, 1, none⟩ = some (.int .u32 1) ∧ Below W.heap.size W w') := hid (fun W => names2_c W)
 have MC : Hid (∀ (W : World) (lb lc q cap : Nat), CvM base W { rchC c with t := c.t + 1, lk := c.lk, lv := .slice (some ⟨lb, 0, none⟩) 1 lc, fz := 0, dn := 0, nx := 2, L := [oM] } → W.cell? ⟨q, 0, none⟩ = some (.int .u32 16777217) → W.cell? ⟨q, 1, none⟩ = some (.int .u32 1) → Calls Tryz.prog 78 #[.pointer (some ⟨c.p, 2, none⟩), .slice (some ⟨q, 0, none⟩) 2 cap] W fun e w' => e = .returned (.tuple #[]) ∧ CvM base w' (doneC c lb lc) ∧ Ou (Tri c.cb c.cm c.ch) W w') := hid (fun W lb lc q cap hW h0 h1 => mdirty_c hW hk2 q cap h0 h1)
 have LT : Hid (c.p < w.heap.size ∧ c.b1 < w.heap.size ∧ c.b2 < w.heap.size ∧ c.cb < w.heap.size ∧ c.cm < w.heap.size ∧ c.ch < w.heap.size) := hid (by
   obtain ⟨⟨_, _, m1⟩, ⟨_, _, m2⟩⟩ := h.1.maps
   obtain ⟨_, _, _, _, _, l1, l2, l3, _⟩ := h.2.1.cells
   exact ⟨lt_blkR h.2.2.1, lt_blkR m1, lt_blkR m2, l1, l2, l3⟩)
 clear h b0 g0 C0 hI hk2
 have FC : Hid (∀ (W : World) (a : Option Addr) (cap : Nat) (l : List Nd), Below w.heap.size w W → Tr W a l → l.map Nd.er = vwL c.L → Calls Tryz.prog 75 #[.pointer (some ⟨c.p, 0, none⟩), .slice a l.length cap, .agg #[.int .u8 2, .int .u32 16777217, .int .u32 1, .string ⟨#[97]⟩, .int .u32 0, .string ⟨#[]⟩, .int .u16 0, .string ⟨#[]⟩]] W fun e w' => e = .returned (.int .i64 0) ∧ CvM base w' (rchC c) ∧ Ou (Tri c.cb c.cm c.ch) W w') := hid (fun W a cap l hW ht he => (FC.out W a cap l hW ht he).mono (fun e w' q => by
   unfold RchP at q
   rw [hr] at q
   exact q))
 clear hr
 go_enter Tryz.func34, Tryz.ntmps34
 go_upto_region 1 with fail
 generalize (w.alloc (.cells #[.int .u8 2, .string ⟨#[47, 97]⟩, .string ⟨#[]⟩, .int .u16 0, .string ⟨#[]⟩] 93)) = V at *
 go_upto_region 5 with (first
   | (go_at_call 74; refine (OC.out _ a c0 l D1.out T1.out E1.out).mono ?_; rintro _ w2 ⟨rfl, hb2⟩; have D2 := hid (D1.out.trans (hb2.mono D1.out.size)); have T2 := hid (T1.out.later hb2); clear hb2)
   | (go_at_call 25; refine VC.out.mono ?_; rintro _ w1 ⟨a, c0, l, rfl, ht1, he1, hb1⟩; have D1 := hid (B0.out.trans (hb1.mono B0.out.size)); have T1 := hid ht1; have E1 := hid he1; have j0 : w1.cell? ⟨w.heap.size, 0, none⟩ = some (.int .u8 2) := cell_later hb1 i0; have j1 : w1.cell? ⟨w.heap.size, 1, none⟩ = some (.string ⟨#[47, 97]⟩) := cell_later hb1 i1; have j2 : w1.cell? ⟨w.heap.size, 2, none⟩ = some (.string ⟨#[]⟩) := cell_later hb1 i2; have j3 : w1.cell? ⟨w.heap.size, 3, none⟩ = some (.int .u16 0) := cell_later hb1 i3; have j4 : w1.cell? ⟨w.heap.size, 4, none⟩ = some (.string ⟨#[]⟩) := cell_later hb1 i4; clear hb1 ht1 he1))
 have b3 := below_1 w2 (.cells #[.int .u8 2, .int .u32 16777217, .int .u32 1, .string ⟨#[97]⟩, .int .u32 0, .string ⟨#[]⟩, .int .u16 0, .string ⟨#[]⟩] 111)
 have g3 := heap_alloc_new w2 (.cells #[.int .u8 2, .int .u32 16777217, .int .u32 1, .string ⟨#[97]⟩, .int .u32 0, .string ⟨#[]⟩, .int .u16 0, .string ⟨#[]⟩] 111)
 have D3 := hid (D2.out.trans (b3.mono D2.out.size))
 have T3 := hid (T2.out.later b3)
 obtain ⟨ob, hob⟩ : ∃ ob, ob = w2.heap.size := ⟨_, rfl⟩
 have OB : Hid (w.heap.size ≤ ob) := hid (by rw [hob]; exact D2.out.size)
 rw [← hob] at g3
 clear i0 i1 i2 i3 i4 j0 j1 j2 j3 j4 b3
 simp only [← hob]
 generalize (w2.alloc (.cells #[.int .u8 2, .int .u32 16777217, .int .u32 1, .string ⟨#[97]⟩, .int .u32 0, .string ⟨#[]⟩, .int .u16 0, .string ⟨#[]⟩] 111)) = X at *
 have y0 : X.cell? ⟨ob, 0, none⟩ = some (.int .u8 2) := cell_of_row2 g3 0 rfl
 have y1 : X.cell? ⟨ob, 1, none⟩ = some (.int .u32 16777217) := cell_of_row2 g3 1 rfl
 have y2 : X.cell? ⟨ob, 2, none⟩ = some (.int .u32 1) := cell_of_row2 g3 2 rfl
 have y3 : X.cell? ⟨ob, 3, none⟩ = some (.string ⟨#[97]⟩) := cell_of_row2 g3 3 rfl
 have y4 : X.cell? ⟨ob, 4, none⟩ = some (.int .u32 0) := cell_of_row2 g3 4 rfl
 have y5 : X.cell? ⟨ob, 5, none⟩ = some (.string ⟨#[]⟩) := cell_of_row2 g3 5 rfl
 have y6 : X.cell? ⟨ob, 6, none⟩ = some (.int .u16 0) := cell_of_row2 g3 6 rfl
 have y7 : X.cell? ⟨ob, 7, none⟩ = some (.string ⟨#[]⟩) := cell_of_row2 g3 7 rfl
 have FX := hid (FC.out X a c0 l D3.out T3.out E1.out)
 have NT : Hid (¬ Tri c.cb c.cm c.ch ob) := hid (fun q => by
   have := LT.out; have := OB.out
   rcases q with q | q | q <;> omega)
 have G3 := hid g3
 clear g3 hob
 go_upto_region 8 with (go_at_call 75; refine FX.out.mono ?_; rintro _ w4 ⟨rfl, hc4, ho4⟩; have C4 := hid hc4; have O4 := hid ho4; have g4 := (ho4.block _ (lt_blkR G3.out) NT.out).trans G3.out; clear hc4 ho4)
 clear y0 y1 y2 y3 y4 y5 y6 y7
 have y0 : w4.cell? ⟨ob, 0, none⟩ = some (.int .u8 2) := cell_of_row2 g4 0 rfl
 have y1 : w4.cell? ⟨ob, 1, none⟩ = some (.int .u32 16777217) := cell_of_row2 g4 1 rfl
 have y2 : w4.cell? ⟨ob, 2, none⟩ = some (.int .u32 1) := cell_of_row2 g4 2 rfl
 have y3 : w4.cell? ⟨ob, 3, none⟩ = some (.string ⟨#[97]⟩) := cell_of_row2 g4 3 rfl
 have y4 : w4.cell? ⟨ob, 4, none⟩ = some (.int .u32 0) := cell_of_row2 g4 4 rfl
 have y5 : w4.cell? ⟨ob, 5, none⟩ = some (.string ⟨#[]⟩) := cell_of_row2 g4 5 rfl
 have y6 : w4.cell? ⟨ob, 6, none⟩ = some (.int .u16 0) := cell_of_row2 g4 6 rfl
 have y7 : w4.cell? ⟨ob, 7, none⟩ = some (.string ⟨#[]⟩) := cell_of_row2 g4 7 rfl
 have EX := hid (EC.out w4 ob C4.out ⟨y0, y1, y2, y3, y4, y5, y6, y7⟩)
 have G4 := hid g4
 clear g4
 go_upto_region 11 with (go_at_call 43; refine EX.out.mono ?_; rintro _ w5 ⟨rfl, lb, lc, hc5, ho5⟩; have C5 := hid hc5; have O5 := hid ho5; have g5 := (ho5.block ob (lt_blkR G4.out) (fun q => by have := LT.out; have := OB.out; have e1 : (rchC c).b1 = c.b1 := rfl; have e2 : (rchC c).b2 = c.b2 := rfl; have e3 : (rchC c).p = c.p := rfl; rcases q with q | q | q <;> omega)).trans G4.out; clear hc5 ho5)
 have g5d : w5.drew.heap[ob]? = _ := g5
 clear y0 y1 y2 y3 y4 y5 y6 y7
 go_wp2_with fail
 refine wp_region_held_drew (S := fun w' => w'.heap[ob]? = some (.cells #[.int .u8 2, .int .u32 16777217, .int .u32 1, .string ⟨#[97]⟩, .int .u32 0, .string ⟨#[]⟩, .int .u16 0, .string ⟨#[]⟩] 111 (0, 0))) (by kernel_rfl) g5d (fun hHeld => ?_)
 refine take_l 0 (v := ?_) rfl (by kernel_rfl) (by kernel_rfl) (by kernel_rfl) (fun _ _ _ h => h) (Or.inl ⟨by rfl, ?_⟩) (by assumption) ?_
 rotate_left
 · (intro w' hSw; clear hSw; go_simp; first | done | with_reducible rfl)
 try simp only [Act.put, List.setIfInBounds_toArray, List.set_cons_zero, List.set_cons_succ]
 refine take_l 1 (v := ?_) rfl (by kernel_rfl) (by kernel_rfl) (by kernel_rfl) (fun _ _ _ h => h) (Or.inl ⟨by rfl, ?_⟩) (by assumption) ?_
 rotate_left
 · (intro w' hSw; clear hSw; go_simp; first | done | with_reducible rfl)
 try simp only [Act.put, List.setIfInBounds_toArray, List.set_cons_zero, List.set_cons_succ]
 refine take_l 2 (v := ?_) rfl (by kernel_rfl) (by kernel_rfl) (by kernel_rfl) (fun _ _ _ h => h) (Or.inl ⟨by rfl, ?_⟩) (by assumption) ?_
 rotate_left
 · (intro w' hSw; clear hSw; go_simp; first | done | with_reducible rfl)
 try simp only [Act.put, List.setIfInBounds_toArray, List.set_cons_zero, List.set_cons_succ]
 refine take_l 3 (v := ?_) rfl (by kernel_rfl) (by kernel_rfl) (by kernel_rfl) (fun _ _ _ h => h) (Or.inl ⟨by rfl, ?_⟩) (by assumption) ?_
 rotate_left
 · (intro w' hSw; have kk0 : w'.cell? ⟨ob, 0, none⟩ = some (.int .u8 2) := cell_of_row2 hSw 0 rfl; have kk1 : w'.cell? ⟨ob, 1, none⟩ = some (.int .u32 16777217) := cell_of_row2 hSw 1 rfl; have kk2 : w'.cell? ⟨ob, 2, none⟩ = some (.int .u32 1) := cell_of_row2 hSw 2 rfl; have kk3 : w'.cell? ⟨ob, 3, none⟩ = some (.string ⟨#[97]⟩) := cell_of_row2 hSw 3 rfl; have kk4 : w'.cell? ⟨ob, 4, none⟩ = some (.int .u32 0) := cell_of_row2 hSw 4 rfl; have kk5 : w'.cell? ⟨ob, 5, none⟩ = some (.string ⟨#[]⟩) := cell_of_row2 hSw 5 rfl; have kk6 : w'.cell? ⟨ob, 6, none⟩ = some (.int .u16 0) := cell_of_row2 hSw 6 rfl; have kk7 : w'.cell? ⟨ob, 7, none⟩ = some (.string ⟨#[]⟩) := cell_of_row2 hSw 7 rfl; clear hSw; go_simp; first | done | with_reducible rfl)
 try simp only [Act.put, List.setIfInBounds_toArray, List.set_cons_zero, List.set_cons_succ]
 refine cons_l 4 rfl (by kernel_rfl) (fun K hK => ?_)
 go_simp
 refine (NC.out _).mono ?_; rintro _ w6 ⟨q, nc, rfl, n0, n1, hb6⟩
 have hb6' : Below w5.heap.size w5 w6 := below_undrew hb6
 have g6 := (hb6'.block _ (lt_blkR g5)).trans g5
 have C6 := hid (C5.out.later hb6')
 have B6 := hid hb6'
 have MX := hid (MC.out w6 lb lc q nc C6.out n0 n1)
 clear hb6 hb6' n0 n1
 go_simp
 refine hK.out _ _ g6 (fun hHeld => ?_)
 clear hK K
 try simp only [Act.put, List.setIfInBounds_toArray, List.set_cons_zero, List.set_cons_succ]
 refine cons_l 5 rfl (by kernel_rfl) (fun K hK => ?_)
 go_simp
 refine MX.out.mono ?_; rintro _ w7 ⟨rfl, hc7, ho7⟩
 have C7 := hid hc7
 have O7 := hid ho7
 have g7 := (ho7.block _ (lt_blkR g6) NT.out).trans g6
 clear hc7 ho7
 go_simp
 refine hK.out _ _ g7 (fun hHeld => ?_)
 clear hK K
 try simp only [Act.put, List.setIfInBounds_toArray, List.set_cons_zero, List.set_cons_succ]
 refine wpAnyH_done (by kernel_rfl) ?_ _
 clear hHeld g5 g5d g6 g7
 go_wp2
 go_ret
 have hz := H.out.sz
 have z3 := Nat.le_trans hz D3.out.size
 have e4 := O4.out.below z3 H.out.baseTri
 have z4 := Nat.le_trans z3 O4.out.size
 have hb := H.out.2.2.2.2.2.2.1
 have e5 := O5.out.below z4 (fun k e => by
   rcases e with e | e | e
   · rw [e]; exact hb.2.1
   · rw [e]; exact hb.2.2.1
   · rw [e]; exact hb.1)
 have z5 := Nat.le_trans z4 O5.out.size
 have e6 := B6.out.mono z5
 have z6 := Nat.le_trans z5 B6.out.size
 have e7 := O7.out.below z6 H.out.baseTri
 exact ⟨rfl, lb, lc, C7.out, ((((D3.out.mono hz).trans e4).trans e5).trans e6).trans e7⟩
theorem cDono_c {base : Nat} {w : World} {c : Cv} (h : CvM base w c) (hI : Idle c) (hr : rchB c = false) :
   Calls Tryz.prog 9 #[.pointer (some ⟨c.p, 0, none⟩), .int .u8 2, .string ⟨#[47, 97]⟩, .string ⟨#[]⟩, .int .u16 0, .string ⟨#[]⟩] w (DoNoP base c w) := by
 have row := h.2.2.1
 have k1 : w.cell? ⟨c.p, 1, none⟩ = some (pB c.j) := cell_of_row2 row 1 rfl
 have DC := hid (dono_c h hI hr)
 clear row h
 go_enter Tryz.func9, Tryz.ntmps9
 go_wp2_with (go_at_call 34; refine DC.out.mono ?_; rintro _ w1 ⟨rfl, hp⟩; have P := hid hp; clear hp)
 go_ret
 exact ⟨rfl, P.out⟩
theorem cDook_c {base : Nat} {w : World} {c : Cv} (h : CvM base w c) (hI : Idle c) (hr : rchB c = true) (hk2 : CaK (rchC c).ca) :
   Calls Tryz.prog 9 #[.pointer (some ⟨c.p, 0, none⟩), .int .u8 2, .string ⟨#[47, 97]⟩, .string ⟨#[]⟩, .int .u16 0, .string ⟨#[]⟩] w (DoOkP base c w) := by
 have row := h.2.2.1
 have k1 : w.cell? ⟨c.p, 1, none⟩ = some (pB c.j) := cell_of_row2 row 1 rfl
 have DC := hid (dook_c h hI hr hk2)
 clear row h
 go_enter Tryz.func9, Tryz.ntmps9
 go_wp2_with (go_at_call 34; refine DC.out.mono ?_; rintro _ w1 ⟨rfl, hp⟩; have P := hid hp; clear hp)
 go_ret
 exact ⟨rfl, P.out⟩
end Go.Proofs.YtfmghbennahlfaaGreat
