/-
  
-/
import Derived.Test.YtfmghbennahlfaaGreatCnBx
import Derived.Test.YtfmghbennahlfaaGreatCnBz
import Derived.Test.YtfmghbennahlfaaGreatCnBv
import Derived.Test.YtfmghbennahlfaaGreatCnBy
namespace Go.Proofs.YtfmghbennahlfaaGreat
open Go.RowKit Go.ChangeShapes Go.WideShapes Go.ChangeAt Go.Maps Go.Shelf
set_option linter.unusedVariables false
set_option linter.unusedSimpArgs false
set_option maxRecDepth 100000
def FzP (nb g s : Nat) (w : World) (e : Ending) (w' : World) : Prop := e = .returned (.tuple #[]) ∧ ∃ lb lc cur, w'.heap[nb]? = some (.cells #[.slice (some ⟨g, 0, none⟩) 1 1, .slice (some ⟨s, 0, none⟩) 1 1, .slice (some ⟨lb, 0, none⟩) 1 lc, .int .i64 1, .int .u32 0, .int .u32 2, .slice none 0 0] 77 (0, 0)) ∧ w'.heap[lb]? = some (.cells cur 113 (0, 0)) ∧ R9 cur oM ∧ w.heap.size ≤ lb ∧ Ou (fun k => k = nb) w w'
set_option maxHeartbeats 4000000 in
theorem freeze_c {w : World} (nb g s lb0 lc0 : Nat) (cur0 : Array Value) (hrow : w.heap[nb]? = some (.cells #[.slice (some ⟨g, 0, none⟩) 1 1, .slice (some ⟨s, 0, none⟩) 1 1, .slice (some ⟨lb0, 0, none⟩) 1 lc0, .int .i64 0, .int .u32 0, .int .u32 2, .slice none 0 0] 77 (0, 0))) (hl : w.heap[lb0]? = some (.cells cur0 113 (0, 0))) (hR : R9 cur0 oM) :
   Calls Tryz.prog 68 #[.pointer (some ⟨nb, 0, none⟩)] w (FzP nb g s w) := by
 have OC := hid (opt1_c lb0 lc0 cur0 hl hR)
 have R0 := hid hrow
 have k2 : w.cell? ⟨nb, 2, none⟩ = some (.slice (some ⟨lb0, 0, none⟩) 1 lc0) := cell_of_row2 hrow 2 rfl
 clear hrow hl hR
 unfold R1P at OC
 go_enter Tryz.func68, Tryz.ntmps68
 go_upto_region 1 with (go_at_call 29; refine OC.out.mono ?_; rintro _ w1 ⟨lb, lc, cur, rfl, hl1, hR1, hz1, hb1⟩; have L1 := hid hl1; have R1 := hid hR1; have Z1 := hid hz1; have B1 := hid hb1; have r1 := (hb1.block _ (lt_blkR R0.out)).trans R0.out; have m2 : w1.cell? ⟨nb, 2, none⟩ = some (.slice (some ⟨lb0, 0, none⟩) 1 lc0) := cell_of_row2 r1 2 rfl; have fz : ∀ i, w1.frozen? ⟨nb, i, none⟩ = false := fun i => (by simp [World.frozen?, r1]); clear hl1 hR1 hz1 hb1)
 have O2 : Ou (fun k => k = nb) w1 (w1.setCell ⟨nb, 2, none⟩ (.slice (some ⟨lb, 0, none⟩) 1 lc)) := ((Ou.of (S := fun k => k = nb) (Below.refl _ _)).set rfl)
 have r2 : (w1.setCell ⟨nb, 2, none⟩ (.slice (some ⟨lb, 0, none⟩) 1 lc)).heap[nb]? = some (.cells #[.slice (some ⟨g, 0, none⟩) 1 1, .slice (some ⟨s, 0, none⟩) 1 1, .slice (some ⟨lb, 0, none⟩) 1 lc, .int .i64 0, .int .u32 0, .int .u32 2, .slice none 0 0] 77 (0, 0)) := heap_setCell_same w1 nb 2 _ _ _ r1
 have nl : nb < w.heap.size := lt_blkR R0.out
 have L2 := hid ((O2.block lb (lt_blkR L1.out) (fun e => by have := Z1.out; omega)).trans L1.out)
 have P2 := hid ((Ou.of B1.out).trans O2)
 clear k2 m2 fz r1 O2
 generalize (w1.setCell ⟨nb, 2, none⟩ (.slice (some ⟨lb, 0, none⟩) 1 lc)) = w2 at *
 have m2 : w2.cell? ⟨nb, 2, none⟩ = some (.slice (some ⟨lb, 0, none⟩) 1 lc) := cell_of_row2 r2 2 rfl
 have m3 : w2.cell? ⟨nb, 3, none⟩ = some (.int .i64 0) := cell_of_row2 r2 3 rfl
 have fz : ∀ i, w2.frozen? ⟨nb, i, none⟩ = false := fun i => (by simp [World.frozen?, r2])
 go_wp2
 have O3 : Ou (fun k => k = nb) w2 (w2.setCell ⟨nb, 3, none⟩ (.int .i64 1)) := ((Ou.of (S := fun k => k = nb) (Below.refl _ _)).set rfl)
 refine body_end (by kernel_rfl) rfl ⟨rfl, lb, lc, cur, heap_setCell_same w2 nb 3 _ _ _ r2, (O3.block lb (lt_blkR L2.out) (fun e => by have := Z1.out; omega)).trans L2.out, R1.out, Z1.out, P2.out.trans O3⟩
theorem prep1_c {w : World} (nb g s lb0 lc0 : Nat) (cur0 : Array Value) (hrow : w.heap[nb]? = some (.cells #[.slice (some ⟨g, 0, none⟩) 1 1, .slice (some ⟨s, 0, none⟩) 1 1, .slice (some ⟨lb0, 0, none⟩) 1 lc0, .int .i64 0, .int .u32 0, .int .u32 2, .slice none 0 0] 77 (0, 0))) (hl : w.heap[lb0]? = some (.cells cur0 113 (0, 0))) (hR : R9 cur0 oM) :
   Calls Tryz.prog 67 #[.pointer (some ⟨nb, 0, none⟩)] w (FzP nb g s w) := by
 have FC := hid (freeze_c nb g s lb0 lc0 cur0 hrow hl hR)
 clear hrow hl hR
 go_enter Tryz.func67, Tryz.ntmps67
 go_wp2_with (go_at_call 68; refine FC.out.mono ?_; rintro _ w1 ⟨rfl, hp1⟩; have P1 := hid hp1; clear hp1)
 exact body_end (by kernel_rfl) rfl ⟨rfl, P1.out⟩
set_option maxHeartbeats 4000000 in
theorem center2_c {base : Nat} {w : World} {c : Cv} (h : CvM base w c) (hN : 204 ≤ c.N) (ht : c.t ≠ 4294967295) (lb0 lc0 : Nat) (hlv : c.lv = .slice (some ⟨lb0, 0, none⟩) 1 lc0) (hfz : c.fz = 0) (hdn : c.dn = 0) (hnx : c.nx = 2)
   (CH : ∀ (W : World) (nb : Nat), Below w.heap.size w W → W.heap[nb]? = some (.cells #[.slice (some ⟨c.g, 0, none⟩) 1 1, .slice (some ⟨c.s, 0, none⟩) 1 1, .slice (some ⟨lb0, 0, none⟩) 1 lc0, .int .i64 0, .int .u32 0, .int .u32 2, .slice none 0 0] 77 (0, 0)) → Calls Tryz.prog 67 #[.pointer (some ⟨nb, 0, none⟩)] W (FzP nb c.g c.s W)) :
   Calls Tryz.prog 43 #[.pointer (some ⟨c.p, 0, none⟩), .func (.func 67) #[] #[], .func (.func 35) #[.agg #[pB c.j]] #[]] w (CEntP base c 1 w) := by
 have row : w.heap[c.p]? = some (.cells #[.int .u8 1, pB c.j, pA c.cb, .bool c.lk, .slice (some ⟨c.g, 0, none⟩) 1 1, .slice (some ⟨c.s, 0, none⟩) 1 1, .slice (some ⟨lb0, 0, none⟩) 1 lc0, .int .i64 0, .int .u32 0, .int .u32 2, .slice none 0 0] 79 (0, 0)) := by have := h.2.2.1; rw [hlv, hfz, hdn, hnx] at this; exact this
 have k0 : w.cell? ⟨c.p, 4, none⟩ = some (.slice (some ⟨c.g, 0, none⟩) 1 1) := cell_of_row2 row 4 rfl
 have k1 : w.cell? ⟨c.p, 5, none⟩ = some (.slice (some ⟨c.s, 0, none⟩) 1 1) := cell_of_row2 row 5 rfl
 have k2 : w.cell? ⟨c.p, 6, none⟩ = some (.slice (some ⟨lb0, 0, none⟩) 1 lc0) := cell_of_row2 row 6 rfl
 have k3 : w.cell? ⟨c.p, 7, none⟩ = some (.int .i64 0) := cell_of_row2 row 7 rfl
 have k4 : w.cell? ⟨c.p, 8, none⟩ = some (.int .u32 0) := cell_of_row2 row 8 rfl
 have k5 : w.cell? ⟨c.p, 9, none⟩ = some (.int .u32 2) := cell_of_row2 row 9 rfl
 have k6 : w.cell? ⟨c.p, 10, none⟩ = some (.slice none 0 0) := cell_of_row2 row 10 rfl
 have b1 := below_1 w (.cells #[.slice (some ⟨c.g, 0, none⟩) 1 1, .slice (some ⟨c.s, 0, none⟩) 1 1, .slice (some ⟨lb0, 0, none⟩) 1 lc0, .int .i64 0, .int .u32 0, .int .u32 2, .slice none 0 0] 77)
 have g1 := heap_alloc_new w (.cells #[.slice (some ⟨c.g, 0, none⟩) 1 1, .slice (some ⟨c.s, 0, none⟩) 1 1, .slice (some ⟨lb0, 0, none⟩) 1 lc0, .int .i64 0, .int .u32 0, .int .u32 2, .slice none 0 0] 77)
 have CHH := hid (CH (w.alloc (.cells #[.slice (some ⟨c.g, 0, none⟩) 1 1, .slice (some ⟨c.s, 0, none⟩) 1 1, .slice (some ⟨lb0, 0, none⟩) 1 lc0, .int .i64 0, .int .u32 0, .int .u32 2, .slice none 0 0] 77)) w.heap.size b1 g1)
 have H := hid h
 have B1 := hid b1
 have KK := hid (fun (W : World) (hW : CvM base W c) lb lc cur hl hR => ckeep_c hW hN ht lb lc cur 1 (by decide) hl hR)
 have R0 := hid row
 have NB : Hid (c.p < w.heap.size) := hid (lt_blkR row)
 clear b1 g1 h hN ht hlv hfz hdn hnx row CH
 go_enter Tryz.func43, Tryz.ntmps43
 go_upto_region 2 with fail
 clear k0 k1 k2 k3 k4 k5 k6
 generalize (w.alloc (.cells #[.slice (some ⟨c.g, 0, none⟩) 1 1, .slice (some ⟨c.s, 0, none⟩) 1 1, .slice (some ⟨lb0, 0, none⟩) 1 lc0, .int .i64 0, .int .u32 0, .int .u32 2, .slice none 0 0] 77)) = V at *
 go_upto_region 3 with (go_at_call 67; refine CHH.out.mono ?_; rintro _ w1 ⟨rfl, lb, lc, cur, hn1, hl1, hR1, hlb1, ho1⟩; have O1 := hid ho1; have N1 := hid hn1; have L1 := hid hl1; have R1 := hid hR1; have LB := hid hlb1; clear hn1 hl1 hR1 hlb1 ho1)
 clear CHH
 have BW : Hid (Below w.heap.size w w1) := hid (B1.out.trans (O1.out.below B1.out.size (fun k e => Nat.le_of_eq e.symm)))
 have C1 := hid (H.out.later BW.out)
 have KV := hid (KK.out w1 C1.out lb lc cur L1.out R1.out)
 have rn := N1.out
 have n0 : w1.cell? ⟨w.heap.size, 0, none⟩ = some (.slice (some ⟨c.g, 0, none⟩) 1 1) := cell_of_row2 rn 0 rfl
 have n1 : w1.cell? ⟨w.heap.size, 1, none⟩ = some (.slice (some ⟨c.s, 0, none⟩) 1 1) := cell_of_row2 rn 1 rfl
 have n2 : w1.cell? ⟨w.heap.size, 2, none⟩ = some (.slice (some ⟨lb, 0, none⟩) 1 lc) := cell_of_row2 rn 2 rfl
 have n3 : w1.cell? ⟨w.heap.size, 3, none⟩ = some (.int .i64 1) := cell_of_row2 rn 3 rfl
 have n4 : w1.cell? ⟨w.heap.size, 4, none⟩ = some (.int .u32 0) := cell_of_row2 rn 4 rfl
 have n5 : w1.cell? ⟨w.heap.size, 5, none⟩ = some (.int .u32 2) := cell_of_row2 rn 5 rfl
 have n6 : w1.cell? ⟨w.heap.size, 6, none⟩ = some (.slice none 0 0) := cell_of_row2 rn 6 rfl
 clear KK
 go_wp2_with (go_at_call 35; refine KV.out.mono ?_; rintro _ w2 ⟨rfl, hc2, hst2, hou2⟩; have C2 := hid hc2; have S2 := hid hst2; have O2 := hid hou2; have rn2 := hst2 _ _ _ _ rn; have m0 : w2.cell? ⟨w.heap.size, 0, none⟩ = some (.slice (some ⟨c.g, 0, none⟩) 1 1) := cell_of_row2 rn2 0 rfl; have m1 : w2.cell? ⟨w.heap.size, 1, none⟩ = some (.slice (some ⟨c.s, 0, none⟩) 1 1) := cell_of_row2 rn2 1 rfl; have m2 : w2.cell? ⟨w.heap.size, 2, none⟩ = some (.slice (some ⟨lb, 0, none⟩) 1 lc) := cell_of_row2 rn2 2 rfl; have m3 : w2.cell? ⟨w.heap.size, 3, none⟩ = some (.int .i64 1) := cell_of_row2 rn2 3 rfl; have m4 : w2.cell? ⟨w.heap.size, 4, none⟩ = some (.int .u32 0) := cell_of_row2 rn2 4 rfl; have m5 : w2.cell? ⟨w.heap.size, 5, none⟩ = some (.int .u32 2) := cell_of_row2 rn2 5 rfl; have m6 : w2.cell? ⟨w.heap.size, 6, none⟩ = some (.slice none 0 0) := cell_of_row2 rn2 6 rfl; have rp2 := hst2 _ _ _ _ ((BW.out.block _ NB.out).trans R0.out); have q0 : w2.cell? ⟨c.p, 4, none⟩ = some (.slice (some ⟨c.g, 0, none⟩) 1 1) := cell_of_row2 rp2 4 rfl; have q1 : w2.cell? ⟨c.p, 5, none⟩ = some (.slice (some ⟨c.s, 0, none⟩) 1 1) := cell_of_row2 rp2 5 rfl; have q2 : w2.cell? ⟨c.p, 6, none⟩ = some (.slice (some ⟨lb0, 0, none⟩) 1 lc0) := cell_of_row2 rp2 6 rfl; have q3 : w2.cell? ⟨c.p, 7, none⟩ = some (.int .i64 0) := cell_of_row2 rp2 7 rfl; have q4 : w2.cell? ⟨c.p, 8, none⟩ = some (.int .u32 0) := cell_of_row2 rp2 8 rfl; have q5 : w2.cell? ⟨c.p, 9, none⟩ = some (.int .u32 2) := cell_of_row2 rp2 9 rfl; have q6 : w2.cell? ⟨c.p, 10, none⟩ = some (.slice none 0 0) := cell_of_row2 rp2 10 rfl; have fz : ∀ i, w2.frozen? ⟨c.p, i, none⟩ = false := fun i => (by simp [World.frozen?, rp2]); clear hc2 hst2 hou2)
 have Q3 := own_seven rp2 (.slice (some ⟨c.g, 0, none⟩) 1 1) (.slice (some ⟨c.s, 0, none⟩) 1 1) (.slice (some ⟨lb, 0, none⟩) 1 lc) (.int .i64 1) (.int .u32 0) (.int .u32 2) (.slice none 0 0)
 have O3 := ou_seven w2 c.p (.slice (some ⟨c.g, 0, none⟩) 1 1) (.slice (some ⟨c.s, 0, none⟩) 1 1) (.slice (some ⟨lb, 0, none⟩) 1 lc) (.int .i64 1) (.int .u32 0) (.int .u32 2) (.slice none 0 0)
 go_ret
 have L2 : LgM w2 (.slice (some ⟨lb, 0, none⟩) 1 lc) [oM] := .inr ⟨lb, lc, cur, oM, rfl, rfl, S2.out _ _ _ _ L1.out, R1.out⟩
 refine ⟨rfl, lb, lc, CvM.own C2.out O3 c.lk (.slice (some ⟨lb, 0, none⟩) 1 lc) 1 0 2 [oM] L2 Q3, ((Ou.of BW.out).trans (O2.out.mono (fun k e => ?_))).trans (O3.mono (fun k e => .inr (.inr e)))⟩
 rcases e with e | e
 · exact .inl e
 · exact .inr (.inl e)
def Busy (c : Cv) (lb lc : Nat) : Prop := c.L = [oM] ∧ c.lv = .slice (some ⟨lb, 0, none⟩) 1 lc ∧ c.fz = 0 ∧ c.dn = 0 ∧ c.nx = 2 ∧ 204 ≤ c.N ∧ c.t ≠ 4294967295
theorem busy_log {w : World} {c : Cv} {lb lc : Nat} (h : LgM w c.lv c.L) (hB : Busy c lb lc) : ∃ cur, w.heap[lb]? = some (.cells cur 113 (0, 0)) ∧ R9 cur oM := by
 rw [hB.1, hB.2.1] at h
 rcases h with ⟨h, _⟩ | ⟨lb', cap, cur, o, h1, h2, h3, h4⟩
 · cases h
 · cases h1
   have : o = oM := by simpa using h2.symm
   subst this
   exact ⟨cur, h3, h4⟩
theorem prep_c {base : Nat} {w : World} {c : Cv} (h : CvM base w c) (lb lc : Nat) (hB : Busy c lb lc) :
   Calls Tryz.prog 30 #[.pointer (some ⟨c.p, 0, none⟩)] w (CEntP base c 1 w) := by
 obtain ⟨cur, hl, hR⟩ := busy_log h.2.2.2.2.2.1 hB
 obtain ⟨q1, q2, q3, q4, q5, q6, q7⟩ := hB
 have EC := hid (center2_c h q6 q7 lb lc q2 q3 q4 q5 (fun W nb hW hrow => prep1_c nb c.g c.s lb lc cur hrow ((hW.block _ (lt_blkR hl)).trans hl) hR))
 have k1 : w.cell? ⟨c.p, 1, none⟩ = some (pB c.j) := cell_of_row2 h.2.2.1 1 rfl
 have k6 : w.cell? ⟨c.p, 6, none⟩ = some c.lv := cell_of_row2 h.2.2.1 6 rfl
 have k7 : w.cell? ⟨c.p, 7, none⟩ = some (.int .i64 c.fz) := cell_of_row2 h.2.2.1 7 rfl
 rw [q2] at k6
 rw [q3] at k7
 clear h hl hR q1 q2 q3 q4 q5 q6 q7
 go_enter Tryz.func30, Tryz.ntmps30
 go_wp2_with (go_at_call 43; refine EC.out.mono ?_; rintro _ w1 ⟨rfl, hp1⟩; have P1 := hid hp1; clear hp1)
 go_ret
 exact ⟨rfl, P1.out⟩
def reqL : List Int := [0, 0, 0, 1, 1, 0, 0, 0, 0, 0, 0, 0, 0, 2, 1, 0, 0, 1, 0, 0, 0, 1, 1, 97, 0, 0, 0, 0, 0, 0, 0, 0]
def reqS : ByteArray := ⟨#[83, 0, 0, 0, 1, 1, 0, 0, 0, 0, 0, 0, 0, 0, 2, 1, 0, 0, 1, 0, 0, 0, 1, 1, 97, 0, 0, 0, 0, 0, 0, 0, 0]⟩
theorem req_list : ([] ++ be4 1) ++ rec1B oM = reqL := by decide +kernel
theorem req_text : (⟨#[83]⟩ : ByteArray) ++ Fr.tx reqL = reqS := by decide +kernel
theorem req_in : ∀ y ∈ reqL, 0 ≤ y ∧ y ≤ 255 := by decide +kernel
def askedC (c : Cv) (lb lc : Nat) : Cv := { c with t := c.t + 1, lk := c.lk, lv := .slice (some ⟨lb, 0, none⟩) 1 lc, fz := 1, dn := 0, nx := 2, L := [oM] }
def ReqP (base : Nat) (c : Cv) (w : World) (e : Ending) (w' : World) : Prop := e = .returned (.tuple #[.string reqS, .int .i64 0]) ∧ (∃ lb lc, CvM base w' (askedC c lb lc)) ∧ Below base w w'
set_option maxHeartbeats 4000000 in
theorem creq_c {base : Nat} {w : World} {c : Cv} (h : CvM base w c) (lb lc : Nat) (hB : Busy c lb lc) (hlk : c.lk = true) :
   Calls Tryz.prog 8 #[.pointer (some ⟨c.p, 0, none⟩)] w (ReqP base c w) := by
 have PC := hid (prep_c h lb lc hB)
 have H := hid h
 have k3 : w.cell? ⟨c.p, 3, none⟩ = some (.bool c.lk) := cell_of_row2 h.2.2.1 3 rfl
 have k8 : w.cell? ⟨c.p, 8, none⟩ = some (.int .u32 c.dn) := cell_of_row2 h.2.2.1 8 rfl
 rw [hlk] at k3
 rw [hB.2.2.2.1] at k8
 have ku : IntKind.u32.wrap (0 + 1) = 1 := by decide
 clear h hB hlk
 unfold CEntP at PC
 go_enter Tryz.func8, Tryz.ntmps8
 go_upto_region 12 with (go_at_call 30; refine PC.out.mono ?_; rintro _ w1 ⟨rfl, lb2, lc2, hc1, ho1⟩; have C1 : Hid (CvM base w1 (askedC c lb2 lc2)) := hid hc1; have O1 := hid ho1; have m6 : w1.cell? ⟨c.p, 6, none⟩ = some (.slice (some ⟨lb2, 0, none⟩) 1 lc2) := cell_of_row2 hc1.2.2.1 6 rfl; have m7 : w1.cell? ⟨c.p, 7, none⟩ = some (.int .i64 1) := cell_of_row2 hc1.2.2.1 7 rfl; have m8 : w1.cell? ⟨c.p, 8, none⟩ = some (.int .u32 0) := cell_of_row2 hc1.2.2.1 8 rfl; clear hc1 ho1)
 have BL : Busy (askedC c lb2 lc2) lb2 lc2 ∨ True := .inr trivial
 obtain ⟨cur, hl, hR⟩ : ∃ cur, w1.heap[lb2]? = some (.cells cur 113 (0, 0)) ∧ R9 cur oM := by
   rcases C1.out.2.2.2.2.2.1 with ⟨h, _⟩ | ⟨lb', cap, cur, o, h1, h2, h3, h4⟩
   · cases h
   · cases h1
     have : o = oM := by simpa [askedC] using h2.symm
     subst this
     exact ⟨cur, h3, h4⟩
 have B1 := hid (H.out.below O1.out (fun k e => by
   have hb := H.out.2.2.2.2.2.2.1
   rcases e with e | e | e
   · rw [e]; exact hb.2.1
   · rw [e]; exact hb.2.2.1
   · rw [e]; exact hb.1))
 have CC := hid (cut1_c (w := w1.drew) lb2 lc2 cur hl hR)
 have KP : Hid (∀ W, Below w1.heap.size w1 W → W.cell? ⟨c.p, 6, none⟩ = some (.slice (some ⟨lb2, 0, none⟩) 1 lc2) ∧ W.cell? ⟨c.p, 7, none⟩ = some (.int .i64 1) ∧ W.cell? ⟨c.p, 8, none⟩ = some (.int .u32 0)) := hid (fun W hW => ⟨cell_later hW m6, cell_later hW m7, cell_later hW m8⟩)
 have hd0 : w1.drew.cell? ⟨c.p, 6, none⟩ = some (.slice (some ⟨lb2, 0, none⟩) 1 lc2) ∧ w1.drew.cell? ⟨c.p, 7, none⟩ = some (.int .i64 1) := ⟨m6, m7⟩
 unfold R1P at CC
 clear hl hR BL PC k3 k8 m6 m7 m8
 go_wp2_with fail
 refine wp_region_held_drew (S := fun w' => w'.cell? ⟨c.p, 6, none⟩ = some (.slice (some ⟨lb2, 0, none⟩) 1 lc2) ∧ w'.cell? ⟨c.p, 7, none⟩ = some (.int .i64 1)) (by kernel_rfl) hd0 (fun hHeld => ?_)
 refine take_l 0 (v := ?_) rfl (by kernel_rfl) (by kernel_rfl) (by kernel_rfl) (fun _ _ _ h => h) (Or.inl ⟨by rfl, ?_⟩) (by assumption) ?_
 rotate_left
 · (intro w' hSw; clear hSw; go_simp; first | done | with_reducible rfl)
 try simp only [Act.put, List.setIfInBounds_toArray, List.set_cons_zero, List.set_cons_succ]
 refine take_l 1 (v := ?_) rfl (by kernel_rfl) (by kernel_rfl) (by kernel_rfl) (fun _ _ _ h => h) (Or.inl ⟨by rfl, ?_⟩) (by assumption) ?_
 rotate_left
 · (intro w' hSw; clear hSw; go_simp; first | done | with_reducible rfl)
 try simp only [Act.put, List.setIfInBounds_toArray, List.set_cons_zero, List.set_cons_succ]
 refine take_l 2 (v := ?_) rfl (by kernel_rfl) (by kernel_rfl) (by kernel_rfl) (fun _ _ _ h => h) (Or.inl ⟨by rfl, ?_⟩) (by assumption) ?_
 rotate_left
 · (intro w' hSw; clear hSw; go_simp; first | done | with_reducible rfl)
 try simp only [Act.put, List.setIfInBounds_toArray, List.set_cons_zero, List.set_cons_succ]
 refine take_l 3 (v := ?_) rfl (by kernel_rfl) (by kernel_rfl) (by kernel_rfl) (fun _ _ _ h => h) (Or.inl ⟨by rfl, ?_⟩) (by assumption) ?_
 rotate_left
 · (intro w' hSw; clear hSw; go_simp; first | done | with_reducible rfl)
 try simp only [Act.put, List.setIfInBounds_toArray, List.set_cons_zero, List.set_cons_succ]
 refine take_l 4 (v := ?_) rfl (by kernel_rfl) (by kernel_rfl) (by kernel_rfl) (fun _ _ _ h => h) (Or.inl ⟨by rfl, ?_⟩) (by assumption) ?_
 rotate_left
 · (intro w' hSw; have y6 := hSw.1; have y7 := hSw.2; clear hSw; go_simp; first | done | with_reducible rfl)
 try simp only [Act.put, List.setIfInBounds_toArray, List.set_cons_zero, List.set_cons_succ]
 refine take_l 5 (v := ?_) rfl (by kernel_rfl) (by kernel_rfl) (by kernel_rfl) (fun _ _ _ h => h) (Or.inl ⟨by rfl, ?_⟩) (by assumption) ?_
 rotate_left
 · (intro w' hSw; clear hSw; go_simp; first | done | with_reducible rfl)
 try simp only [Act.put, List.setIfInBounds_toArray, List.set_cons_zero, List.set_cons_succ]
 refine take_l 6 (v := ?_) rfl (by kernel_rfl) (by kernel_rfl) (by kernel_rfl) (fun _ _ _ h => h) (Or.inl ⟨by rfl, ?_⟩) (by assumption) ?_
 rotate_left
 · (intro w' hSw; clear hSw; go_simp; first | done | with_reducible rfl)
 try simp only [Act.put, List.setIfInBounds_toArray, List.set_cons_zero, List.set_cons_succ]
 refine take_l 7 (v := ?_) rfl (by kernel_rfl) (by kernel_rfl) (by kernel_rfl) (fun _ _ _ h => h) (Or.inl ⟨by rfl, ?_⟩) (by assumption) ?_
 rotate_left
 · (intro w' hSw; clear hSw; go_simp; first | done | with_reducible rfl)
 try simp only [Act.put, List.setIfInBounds_toArray, List.set_cons_zero, List.set_cons_succ]
 refine take_l 8 (v := ?_) rfl (by kernel_rfl) (by kernel_rfl) (by kernel_rfl) (fun _ _ _ h => h) (Or.inl ⟨by rfl, ?_⟩) (by assumption) ?_
 rotate_left
 · (intro w' hSw; clear hSw; go_simp; first | done | with_reducible rfl)
 try simp only [Act.put, List.setIfInBounds_toArray, List.set_cons_zero, List.set_cons_succ]
 refine take_l 9 (v := ?_) rfl (by kernel_rfl) (by kernel_rfl) (by kernel_rfl) (fun _ _ _ h => h) (Or.inl ⟨by rfl, ?_⟩) (by assumption) ?_
 rotate_left
 · (intro w' hSw; have y6 := hSw.1; have y7 := hSw.2; clear hSw; go_simp; first | done | with_reducible rfl)
 try simp only [Act.put, List.setIfInBounds_toArray, List.set_cons_zero, List.set_cons_succ]
 refine cons_l 10 rfl (by kernel_rfl) (fun K hK => ?_)
 go_simp
 refine CC.out.mono ?_; rintro _ w2 ⟨lb3, lc3, cur3, rfl, hl3, hR3, hz3, hb2⟩
 have hb2' : Below w1.heap.size w1 w2 := below_undrew hb2
 have B2 := hid hb2'
 have RC := hid (records1_c lb3 lc3 oM w2 cur3 hR3 hl3 oM_wf oM_right)
 clear hl3 hR3 hz3 hb2 hb2'
 go_simp
 refine hK.out _ _ ⟨(KP.out _ B2.out).1, (KP.out _ B2.out).2.1⟩ (fun hHeld => ?_)
 clear hK K
 try simp only [Act.put, List.setIfInBounds_toArray, List.set_cons_zero, List.set_cons_succ]
 refine cons_l 11 rfl (by kernel_rfl) (fun K hK => ?_)
 go_simp
 refine RC.out.mono ?_; rintro _ w3 ⟨v3, rfl, ho3, hb3⟩
 have O3 := hid ho3
 have B3 := hid (B2.out.trans (hb3.mono B2.out.size))
 obtain ⟨qg, qc, rfl, hnews⟩ := own_newsY O3.out (by decide +kernel)
 clear ho3 hb3
 go_simp
 refine hK.out _ _ ⟨(KP.out _ B3.out).1, (KP.out _ B3.out).2.1⟩ (fun hHeld => ?_)
 clear hK K
 try simp only [Act.put, List.setIfInBounds_toArray, List.set_cons_zero, List.set_cons_succ]
 refine take_l 12 (v := ?_) rfl (by kernel_rfl) (by kernel_rfl) (by kernel_rfl) (fun _ _ _ h => h) (Or.inl ⟨by rfl, ?_⟩) (by assumption) ?_
 rotate_left
 · (intro w' hSw; clear hSw; go_simp; first | done | with_reducible rfl)
 try simp only [Act.put, List.setIfInBounds_toArray, List.set_cons_zero, List.set_cons_succ]
 refine take_l 13 (v := ?_) rfl (by kernel_rfl) (by kernel_rfl) (by kernel_rfl) (fun _ _ _ h => h) (Or.inl ⟨by rfl, ?_⟩) (by assumption) ?_
 rotate_left
 · (intro w' hSw; clear hSw; go_simp; first | done | with_reducible rfl)
 try simp only [Act.put, List.setIfInBounds_toArray, List.set_cons_zero, List.set_cons_succ]
 refine take_l 14 (v := ?_) rfl (by kernel_rfl) (by kernel_rfl) (by kernel_rfl) (fun _ _ _ h => h) (Or.inl ⟨by rfl, ?_⟩) (by assumption) ?_
 rotate_left
 · (intro w' hSw; clear hSw; go_simp; first | done | with_reducible rfl)
 try simp only [Act.put, List.setIfInBounds_toArray, List.set_cons_zero, List.set_cons_succ]
 refine take_l 15 (v := ?_) rfl (by kernel_rfl) (by kernel_rfl) (by kernel_rfl) (fun _ _ _ h => h) (Or.inl ⟨by rfl, ?_⟩) (by assumption) ?_
 rotate_left
 · (intro w' hSw; clear hSw; go_simp; first | done | with_reducible rfl)
 try simp only [Act.put, List.setIfInBounds_toArray, List.set_cons_zero, List.set_cons_succ]
 refine take_l 16 (v := ?_) rfl (by kernel_rfl) (by kernel_rfl) (by kernel_rfl) (fun _ _ _ h => h) (Or.inl ⟨by rfl, ?_⟩) (by assumption) ?_
 rotate_left
 · (intro w' hSw; clear hSw; go_simp; first | done | with_reducible rfl)
 try simp only [Act.put, List.setIfInBounds_toArray, List.set_cons_zero, List.set_cons_succ]
 refine wpAnyH_done (by kernel_rfl) ?_ _
 have m8 := (KP.out _ B3.out).2.2
 clear hHeld hd0
 go_wp2_with (first
   | (go_at_call 33; refine (wnum_c w3.heap.size _ [] 1 w3 (OwY.nil _ _) (Nat.le_refl _) (by simp) (by decide) (by decide)).mono ?_; rintro _ w4 ⟨v4, rfl, ho4, hb4⟩; have C4 := hid hb4; have O4 := hid ho4; obtain ⟨a4, n4, k4, rfl⟩ := own_sliceY O4.out; clear ho4 hb4)
   | (at_builtin; refine wpList_appW w4 rfl _ _ rfl w3.heap.size _ _ (rec1B oM) rfl O4.out qg _ qc rfl rfl (fun j u hu => cell_later C4.out (hnews j u hu)) (by simp [be4]) (by decide +kernel) C4.out.size ?_; intro v5 w5 ho5 hg5; have C5 := hid (below_grownY C4.out O4.out (Nat.le_refl _) C4.out.size hg5); rw [req_list] at ho5; obtain ⟨a5, k5, rfl, hI5, _⟩ := isB_ownR ho5 req_in; have CV := conv_anyN (pc := k5) hI5; clear ho5 hg5 hI5))
 rw [req_text]
 have C9 := hid (C1.out.later (B3.out.trans (C5.out.mono B3.out.size)))
 have B9 := hid (B1.out.trans ((B3.out.trans (C5.out.mono B3.out.size)).mono C1.out.sz))
 go_ret2
 exact ⟨rfl, ⟨lb2, lc2, C9.out⟩, B9.out⟩
theorem rec_newsC {w : World} {lb : Nat} {cur : Array Value} (hl : w.heap[lb]? = some (.cells cur 113 (0, 0))) (hR : R9 cur oM) : ∀ j u, ([.int .u8 2, .int .u32 16777217, .int .u32 1, .string ⟨#[97]⟩, .int .u32 0, .string ⟨#[]⟩, .int .u16 0, .string ⟨#[]⟩, .int .u64 0] : List Value)[j]? = some u → w.cell? ((⟨lb, 0, none⟩ : Addr).add j) = some u := fun j u hu => by
 have e : (⟨lb, 0, none⟩ : Addr).add j = ⟨lb, 0 + j, none⟩ := by unfold Addr.add; split <;> simp_all
 rw [e, Nat.zero_add]
 obtain ⟨q0, q1, q2, q3, q4, q5, q6, q7, q8⟩ := hR
 refine cell_of_row2 hl j ?_
 rcases j with _ | _ | _ | _ | _ | _ | _ | _ | _ | j
 all_goals first | (cases hu; assumption) | (simp at hu)
theorem clone1_c {w : World} (lb lc : Nat) (cur : Array Value) (hl : w.heap[lb]? = some (.cells cur 113 (0, 0))) (hR : R9 cur oM) :
   Calls Tryz.prog 47 #[.slice (some ⟨lb, 0, none⟩) 1 lc] w fun e w' => ∃ a c, e = .returned (.slice a 1 c) ∧ Below w.heap.size w w' := by
 have hq : ∀ W, (binOp .eql 51 (.slice (some ⟨lb, 0, none⟩) 1 lc) (.slice none 0 0)).run Tryz.prog W = .ok (.bool false) W := fun W => Lib.run_eql_slice_nil W _ _ _ _ _ _ _ Tryz.underlying51
 obtain ⟨i0, hi, hz0, hz1, hz2⟩ := info_recC
 have b1 := below_1 w (.cells #[] 113)
 have NW := hid (rec_newsC ((b1.block _ (lt_blkR hl)).trans hl) hR)
 have OW := hid (own_empty_at (e := 113) (size := 9) (heap_alloc_new w (.cells #[] 113)) (Nat.le_refl _))
 have B1 := hid b1
 clear hl hR b1
 go_enter Tryz.func47, Tryz.ntmps47
 go_wp2_with (at_builtin; refine wpList_append_own _ rfl _ _ 51 rfl w.heap.size 113 i0 Rec.no.recV 9 88 Tryz.underlying51 hi hz0 hz1 hz2 (by rfl) (by decide) _ 0 [] rfl OW.out ⟨lb, 0, none⟩ 1 lc [.int .u8 2, .int .u32 16777217, .int .u32 1, .string ⟨#[97]⟩, .int .u32 0, .string ⟨#[]⟩, .int .u16 0, .string ⟨#[]⟩, .int .u64 0] rfl rfl NW.out rec_oneC (by unfold maxLen; omega) (by omega) B1.out.size ?_; intro v9 w9 ho9 hg9 _; have B9 := hid (Below.grown B1.out hg9 B1.out.size (fun k hk => by cases hk; exact Nat.le_refl _)); obtain ⟨lb9, lc9, cur9, rfl, _⟩ := own_rec1 ho9; clear ho9 hg9)
 go_ret
 exact ⟨_, _, rfl, B9.out⟩
theorem clog1_c {base : Nat} {w : World} {c : Cv} (h : CvM base w c) (lb lc : Nat) (hL : c.L = [oM]) (hlv : c.lv = .slice (some ⟨lb, 0, none⟩) 1 lc) : Calls Tryz.prog 15 #[.pointer (some ⟨c.p, 0, none⟩)] w fun e w' => ∃ a d, e = .returned (.slice a 1 d) ∧ Below w.heap.size w w' := by
 have k6 : w.cell? ⟨c.p, 6, none⟩ = some c.lv := cell_of_row2 h.2.2.1 6 rfl
 obtain ⟨cur, hl, hR⟩ : ∃ cur, w.heap[lb]? = some (.cells cur 113 (0, 0)) ∧ R9 cur oM := by
   rcases h.2.2.2.2.2.1 with ⟨h, _⟩ | ⟨lb', cap, cur, o, h1, h2, h3, h4⟩
   · rw [hlv] at h; cases h
   · rw [hlv] at h1
     cases h1
     have : o = oM := by rw [hL] at h2; simpa using h2.symm
     subst this
     exact ⟨cur, h3, h4⟩
 rw [hlv] at k6
 have CC := hid (clone1_c lb lc cur hl hR)
 clear h hl hR
 go_enter Tryz.func15, Tryz.ntmps15
 go_wp2_with (go_at_call 47; refine CC.out.mono ?_; rintro _ w1 ⟨a, d, rfl, hb1⟩; have B1 := hid hb1; clear hb1)
 go_ret
 exact ⟨_, _, rfl, B1.out⟩
set_option maxHeartbeats 1000000 in
theorem nlRequest  (w : World) : Calls Tryz.prog 8 #[.pointer none] w fun e w' => e = .returned (.tuple #[.string ⟨#[]⟩, .int .i64 1]) ∧ w' = w := by
 go_enter Tryz.func8, Tryz.ntmps8
 go_wp2
 go_ret2
 exact ⟨rfl, rfl⟩
set_option maxHeartbeats 1000000 in
theorem nlDo (k : Int) (p o : ByteArray) (m : Int) (d : ByteArray) (w : World) : Calls Tryz.prog 9 #[.pointer none, .int .u8 k, .string p, .string o, .int .u16 m, .string d] w fun e w' => e = .returned (.int .i64 1) ∧ w' = w := by
 go_enter Tryz.func9, Tryz.ntmps9
 go_wp2
 go_ret
 exact ⟨rfl, rfl⟩
set_option maxHeartbeats 1000000 in
theorem nlLink (b : Bool) (w : World) : Calls Tryz.prog 11 #[.pointer none, .bool b] w fun e w' => e = .returned (.int .i64 1) ∧ w' = w := by
 go_enter Tryz.func11, Tryz.ntmps11
 go_wp2
 go_ret
 exact ⟨rfl, rfl⟩
set_option maxHeartbeats 1000000 in
theorem nlHoard (p : ByteArray) (n : Int) (w : World) : Calls Tryz.prog 12 #[.pointer none, .string p, .int .i64 n] w fun e w' => e = .returned (.int .i64 1) ∧ w' = w := by
 go_enter Tryz.func12, Tryz.ntmps12
 go_wp2
 go_ret
 exact ⟨rfl, rfl⟩
set_option maxHeartbeats 1000000 in
theorem nlTake (p : ByteArray) (w : World) : Calls Tryz.prog 13 #[.pointer none, .string p] w fun e w' => e = .returned (.int .i64 1) ∧ Below w.heap.size w w' := by
 go_enter Tryz.func13, Tryz.ntmps13
 go_wp2
 go_ret
 exact ⟨rfl, below_1 _ _⟩
set_option maxHeartbeats 1000000 in
theorem nlView  (w : World) : Calls Tryz.prog 14 #[.pointer none] w fun e w' => e = .returned (.slice none 0 0) ∧ w' = w := by
 go_enter Tryz.func14, Tryz.ntmps14
 go_wp2
 go_ret
 exact ⟨rfl, rfl⟩
set_option maxHeartbeats 1000000 in
theorem nlLog  (w : World) : Calls Tryz.prog 15 #[.pointer none] w fun e w' => e = .returned (.slice none 0 0) ∧ w' = w := by
 go_enter Tryz.func15, Tryz.ntmps15
 go_wp2
 go_ret
 exact ⟨rfl, rfl⟩
set_option maxHeartbeats 1000000 in
theorem nlFrozen  (w : World) : Calls Tryz.prog 16 #[.pointer none] w fun e w' => e = .returned (.int .i64 0) ∧ w' = w := by
 go_enter Tryz.func16, Tryz.ntmps16
 go_wp2
 go_ret
 exact ⟨rfl, rfl⟩
set_option maxHeartbeats 1000000 in
theorem nlDone  (w : World) : Calls Tryz.prog 17 #[.pointer none] w fun e w' => e = .returned (.int .u32 0) ∧ w' = w := by
 go_enter Tryz.func17, Tryz.ntmps17
 go_wp2
 go_ret
 exact ⟨rfl, rfl⟩
set_option maxHeartbeats 1000000 in
theorem nlRefused  (w : World) : Calls Tryz.prog 18 #[.pointer none] w fun e w' => e = .returned (.slice none 0 0) ∧ w' = w := by
 go_enter Tryz.func18, Tryz.ntmps18
 go_wp2
 go_ret
 exact ⟨rfl, rfl⟩
set_option maxHeartbeats 1000000 in
theorem nlLinked  (w : World) : Calls Tryz.prog 19 #[.pointer none] w fun e w' => e = .returned (.bool false) ∧ w' = w := by
 go_enter Tryz.func19, Tryz.ntmps19
 go_wp2
 go_ret
 exact ⟨rfl, rfl⟩
set_option maxHeartbeats 1000000 in
theorem nlDisk  (w : World) : Calls Tryz.prog 20 #[.pointer none] w fun e w' => e = .returned (.pointer none) ∧ w' = w := by
 go_enter Tryz.func20, Tryz.ntmps20
 go_wp2
 go_ret
 exact ⟨rfl, rfl⟩
set_option maxHeartbeats 1000000 in
theorem nlFork  (w : World) : Calls Tryz.prog 21 #[.pointer none] w fun e w' => e = .returned (.pointer none) ∧ w' = w := by
 go_enter Tryz.func21, Tryz.ntmps21
 go_wp2
 go_ret
 exact ⟨rfl, rfl⟩
set_option maxHeartbeats 2000000 in
theorem nlTorn (k : Int) (p o : ByteArray) (m : Int) (d : ByteArray) (st : Int) (ka : Option Addr) (kn kc : Nat) (w : World) : Calls Tryz.prog 10 #[.pointer none, .int .u8 k, .string p, .string o, .int .u16 m, .string d, .int .i64 st, .slice ka kn kc] w fun e w' => e = .returned (.int .i64 1) ∧ Below w.heap.size w w' := by
 have b1 := below_1 w (.cells #[.pointer none] 27)
 have g1 := heap_alloc_new w (.cells #[.pointer none] 27)
 have b2 := below_1 (w.alloc (.cells #[.pointer none] 27)) (.cells #[.int .i64 st] 3)
 have b3 := below_1 ((w.alloc (.cells #[.pointer none] 27)).alloc (.cells #[.int .i64 st] 3)) (.cells #[.slice ka kn kc] 24)
 have B3 := hid ((b1.trans (b2.mono b1.size)).trans (b3.mono (Nat.le_trans b1.size b2.size)))
 have r3 := (b3.block _ (lt_blkR ((b2.block _ (lt_blkR g1)).trans g1))).trans ((b2.block _ (lt_blkR g1)).trans g1)
 clear b1 b2 b3 g1
 go_enter Tryz.func10, Tryz.ntmps10
 go_upto_region 1 with fail
 generalize (((w.alloc (.cells #[.pointer none] 27)).alloc (.cells #[.int .i64 st] 3)).alloc (.cells #[.slice ka kn kc] 24)) = V at *
 have c0 : V.cell? ⟨w.heap.size, 0, none⟩ = some (.pointer none) := cell_of_row2 r3 0 rfl
 go_wp2
 go_ret
 exact ⟨rfl, B3.out⟩
set_option maxHeartbeats 2000000 in
theorem nlStat (p : ByteArray) (w : World) : Calls Tryz.prog 7 #[.pointer none, .string p] w fun e w' => e = .returned (.tuple #[.agg #[.int .u32 0, .int .u8 0, .int .u16 0, .int .u16 0, .slice none 0 0, .slice none 0 0], .int .i64 1]) ∧ Below w.heap.size w w' := by
 have b1 := below_1 w (.cells #[.int .u32 0, .int .u8 0, .int .u16 0, .int .u16 0, .slice none 0 0, .slice none 0 0] 40)
 have g1 := heap_alloc_new w (.cells #[.int .u32 0, .int .u8 0, .int .u16 0, .int .u16 0, .slice none 0 0, .slice none 0 0] 40)
 go_enter Tryz.func7, Tryz.ntmps7
 go_upto_region 1 with fail
 generalize (w.alloc (.cells #[.int .u32 0, .int .u8 0, .int .u16 0, .int .u16 0, .slice none 0 0, .slice none 0 0] 40)) = V at *
 have z0 : V.cell? ⟨w.heap.size, 0, none⟩ = some (.int .u32 0) := cell_of_row2 g1 0 rfl
 have z1 : V.cell? ⟨w.heap.size, 1, none⟩ = some (.int .u8 0) := cell_of_row2 g1 1 rfl
 have z2 : V.cell? ⟨w.heap.size, 2, none⟩ = some (.int .u16 0) := cell_of_row2 g1 2 rfl
 have z3 : V.cell? ⟨w.heap.size, 3, none⟩ = some (.int .u16 0) := cell_of_row2 g1 3 rfl
 have z4 : V.cell? ⟨w.heap.size, 4, none⟩ = some (.slice none 0 0) := cell_of_row2 g1 4 rfl
 have z5 : V.cell? ⟨w.heap.size, 5, none⟩ = some (.slice none 0 0) := cell_of_row2 g1 5 rfl
 have fz : ∀ i, V.frozen? ⟨w.heap.size, i, none⟩ = false := fun i => (by simp [World.frozen?, g1])
 go_wp2
 have Q2 := six_all g1 (.int .u32 0) (.int .u8 0) (.int .u16 0) (.int .u16 0) (.slice none 0 0) (.slice none 0 0)
 have O2 := ou_six V w.heap.size (.int .u32 0) (.int .u8 0) (.int .u16 0) (.int .u16 0) (.slice none 0 0) (.slice none 0 0)
 have B2 := hid (b1.trans (O2.below b1.size (fun k e => Nat.le_of_eq e.symm)))
 clear z0 z1 z2 z3 z4 z5 fz O2 g1 b1
 generalize ((((((V.setCell ⟨w.heap.size, 0, none⟩ (.int .u32 0)).setCell ⟨w.heap.size, 1, none⟩ (.int .u8 0)).setCell ⟨w.heap.size, 2, none⟩ (.int .u16 0)).setCell ⟨w.heap.size, 3, none⟩ (.int .u16 0)).setCell ⟨w.heap.size, 4, none⟩ (.slice none 0 0)).setCell ⟨w.heap.size, 5, none⟩ (.slice none 0 0)) = V2 at *
 have z0 : V2.cell? ⟨w.heap.size, 0, none⟩ = some (.int .u32 0) := cell_of_row2 Q2 0 rfl
 have z1 : V2.cell? ⟨w.heap.size, 1, none⟩ = some (.int .u8 0) := cell_of_row2 Q2 1 rfl
 have z2 : V2.cell? ⟨w.heap.size, 2, none⟩ = some (.int .u16 0) := cell_of_row2 Q2 2 rfl
 have z3 : V2.cell? ⟨w.heap.size, 3, none⟩ = some (.int .u16 0) := cell_of_row2 Q2 3 rfl
 have z4 : V2.cell? ⟨w.heap.size, 4, none⟩ = some (.slice none 0 0) := cell_of_row2 Q2 4 rfl
 have z5 : V2.cell? ⟨w.heap.size, 5, none⟩ = some (.slice none 0 0) := cell_of_row2 Q2 5 rfl
 go_wp2
 refine bodyPost_ret (v := .tuple #[.agg #[.int .u32 0, .int .u8 0, .int .u16 0, .int .u16 0, .slice none 0 0, .slice none 0 0], .int .i64 1]) (by simp [results, Tryz.results7, go_sem, z0, z1, z2, z3, z4, z5]) rfl ⟨rfl, B2.out⟩
set_option maxHeartbeats 2000000 in
theorem nlRead (p : ByteArray) (w : World) : Calls Tryz.prog 5 #[.pointer none, .string p] w fun e w' => e = .returned (.tuple #[.string ⟨#[]⟩, .int .i64 1]) ∧ Below w.heap.size w w' := by
 have SC := hid (nlStat p w)
 go_enter Tryz.func5, Tryz.ntmps5
 go_wp2_with (go_at_call 7; refine SC.out.mono ?_; rintro _ w1 ⟨rfl, hb1⟩; have B1 := hid (hb1.trans ((below_1 w1 (.cells #[.int .u32 0, .int .u8 0, .int .u16 0, .int .u16 0, .slice none 0 0, .slice none 0 0] 40)).mono hb1.size)); clear hb1)
 go_ret2
 exact ⟨rfl, B1.out⟩
set_option maxHeartbeats 2000000 in
theorem nlList (p : ByteArray) (w : World) : Calls Tryz.prog 6 #[.pointer none, .string p] w fun e w' => e = .returned (.tuple #[.slice none 0 0, .int .i64 1]) ∧ Below w.heap.size w w' := by
 have SC := hid (nlStat p w)
 go_enter Tryz.func6, Tryz.ntmps6
 go_wp2_with (go_at_call 7; refine SC.out.mono ?_; rintro _ w1 ⟨rfl, hb1⟩; have B1 := hid (hb1.trans ((below_1 w1 (.cells #[.int .u32 0, .int .u8 0, .int .u16 0, .int .u16 0, .slice none 0 0, .slice none 0 0] 40)).mono hb1.size)); clear hb1)
 go_ret2
 exact ⟨rfl, B1.out⟩
def freshL (p j d b1 b2 cb cm ch g s N : Nat) (lk : Bool) : Cv := ⟨p, j, d, b1, b2, cb, cm, ch, g, s, N, 0, lk, ca0, .slice none 0 0, 0, 0, 1, []⟩
theorem caK_0L : CaK ca0 := ⟨by decide, by decide, by decide, by decide, rfl⟩
theorem caK_U : CaK (ca0.useS 1) := ⟨by decide, by decide, by decide, by decide, rfl⟩
theorem idleL (p j d b1 b2 cb cm ch g s : Nat) (lk : Bool) : Idle (freshL p j d b1 b2 cb cm ch g s 300 lk) :=
 ⟨rfl, rfl, rfl, rfl, rfl, by show 204 ≤ 300; decide, by show (0 : Int) ≠ 4294967295; decide, caK_0L, fun _ _ => ⟨fun i => rfl, rfl⟩⟩
theorem rchL (p j d b1 b2 cb cm ch g s : Nat) : rchB (freshL p j d b1 b2 cb cm ch g s 300 true) = true ∧ CaK (rchC (freshL p j d b1 b2 cb cm ch g s 300 true)).ca := by
 have e : rchB (freshL p j d b1 b2 cb cm ch g s 300 true) = true := rfl
 refine ⟨e, ?_⟩
 have : (rchC (freshL p j d b1 b2 cb cm ch g s 300 true)).ca = ca0.useS 1 := by unfold rchC; rw [e]; rfl
 rw [this]
 exact caK_U
theorem busyL (p j d b1 b2 cb cm ch g s lb lc : Nat) : Busy (doneC (freshL p j d b1 b2 cb cm ch g s 300 true) lb lc) lb lc :=
 ⟨rfl, rfl, rfl, rfl, rfl, by show 204 ≤ 300; decide, by show (0 : Int) + 1 ≠ 4294967295; decide⟩
set_option maxHeartbeats 4000000 in
theorem live13_c (w : World) : Calls Tryz.prog 22 #[] w fun e w' => e = .returned (.bool true) ∧ Below w.heap.size w w' := by
 have NC0 := new_c 300 w (by omega) (by omega)
 have NC := hid (show Calls Tryz.prog 24 #[.int .i64 300] w _ from NC0)
 clear NC0
 go_enter Tryz.func22, Tryz.ntmps22
 go_upto_region 2 with (first
   | (go_at_call 23; refine OC.out.mono ?_; rintro _ w2 ⟨p, j, d, b1, b2, cb, cm, ch, g, s, rfl, hc2, hb2⟩; have C2 : Hid (CvM w1.heap.size w2 (freshL p j d b1 b2 cb cm ch g s 300 false)) := hid hc2; have B2 := hid (B1.out.trans (hb2.mono B1.out.size)); clear hc2 hb2)
   | (go_at_call 24; refine NC.out.mono ?_; rintro _ w1 ⟨rfl, hd1, hb1, hz1⟩; have OC := hid (openC_c hd1 (by omega)); have B1 := hid hb1; clear hd1 hb1 hz1))
 have BZ := hid B1.out.size
 generalize w1.heap.size = base at *
 have D2 := hid (cDono_c C2.out (idleL p j d b1 b2 cb cm ch g s false) rfl)
 unfold DoNoP at D2
 go_upto_region 3 with (go_at_call 9; refine D2.out.mono ?_; rintro _ w3 ⟨rfl, hc3, hb3⟩; have C3 := hid hc3; have B3 := hid (B2.out.trans (hb3.mono BZ.out)); clear hc3 hb3)
 go_upto_region 4 with (go_at_call 11; refine (clink_c C3.out true).mono ?_; rintro _ w4 ⟨rfl, hc4, hb4⟩; have C4 : Hid (CvM base w4 (freshL p j d b1 b2 cb cm ch g s 300 true)) := hid hc4; have B4 := hid (B3.out.trans (hb4.mono BZ.out)); clear hc4 hb4)
 have RL := rchL p j d b1 b2 cb cm ch g s
 have D4 := hid (cDook_c C4.out (idleL p j d b1 b2 cb cm ch g s true) RL.1 RL.2)
 unfold DoOkP at D4
 clear RL
 go_upto_region 5 with (go_at_call 9; refine D4.out.mono ?_; rintro _ w5 ⟨rfl, lb, lc, hc5, hb5⟩; have C5 := hid hc5; have B5 := hid (B4.out.trans (hb5.mono BZ.out)); clear hc5 hb5)
 have R5 := hid (creq_c C5.out lb lc (busyL p j d b1 b2 cb cm ch g s lb lc) rfl)
 unfold ReqP at R5
 go_upto_region 6 with (go_at_call 8; refine R5.out.mono ?_; rintro _ w6 ⟨rfl, ⟨lb2, lc2, hc6⟩, hb6⟩; have C6 := hid hc6; have B6 := hid (B5.out.trans (hb6.mono BZ.out)); clear hc6 hb6)
 have V6 := hid (cview1_c C6.out rfl)
 have L6 := hid (fun W (hW : Below w6.heap.size w6 W) => clog1_c (C6.out.later hW) lb2 lc2 rfl rfl)
 clear D2 D4 R5 C2 C3 C4 C5 C6
 unfold reqS
 go_wp2_with (first
   | (go_at_call 14; refine V6.out.mono ?_; rintro _ w8 ⟨va, vc, rfl, hb8⟩; have X8 := hid hb8; have B8 := hid (B6.out.trans (hb8.mono B6.out.size)); clear hb8)
   | (go_at_call 15; refine (L6.out _ X8.out).mono ?_; rintro _ w9 ⟨la, ld, rfl, hb9⟩; have B9 := hid (B8.out.trans (hb9.mono B8.out.size)); clear hb9))
 go_ret
 exact ⟨rfl, B9.out⟩
set_option maxHeartbeats 8000000 in
theorem cn_all (k o : Int) (p q : ByteArray) (md : Int) (d : ByteArray) (on : Bool) (nn : Int) (ka : Option Addr) (kn kc : Nat) (m n r : Int) (hr : n.tmod 20 = r) (hn : 0 ≤ n ∧ n < 256) (hl : 0 ≤ r ∧ r < 20) (G : Bool) (CS : (m < 1 ∧ G = false) ∨ (¬ m < 1 ∧ 3 < m ∧ G = false) ∨ (¬ m < 1 ∧ ¬ 3 < m ∧ r < 8 ∧ G = false) ∨ (¬ m < 1 ∧ ¬ 3 < m ∧ ¬ r < 8 ∧ G = true)) (P : World → Option Addr → Prop)
   (NC : Hid (∀ W, Calls Tryz.prog 24 #[.int .i64 r] W fun e w' => ∃ d, e = .returned (.pointer d) ∧ P w' d ∧ Below W.heap.size W w'))
   (OC : Hid (∀ W d, P W d → Calls Tryz.prog 23 #[.int .u8 m, .pointer d] W fun e w' => ∃ p : Nat, e = .returned (.pointer (if G = true then some ⟨p, 0, none⟩ else none)) ∧ Below W.heap.size W w')) (w : World) :
   Calls Tryz.prog 3 #[.agg #[.int .i64 k, .int .u8 o, .string p, .string q, .int .u16 md, .string d, .bool on, .int .i64 nn, .slice ka kn kc], .int .u8 m, .int .u8 n] w fun e w' => e = .returned (.bool true) ∧ Below w.heap.size w w' := by
 have b0 := below_1 w (.cells #[.int .i64 k, .int .u8 o, .string p, .string q, .int .u16 md, .string d, .bool on, .int .i64 nn, .slice ka kn kc] 26)
 have h0 := heap_alloc_new w (.cells #[.int .i64 k, .int .u8 o, .string p, .string q, .int .u16 md, .string d, .bool on, .int .i64 nn, .slice ka kn kc] 26)
 have BX := hid b0
 have HX := hid h0
 have r1 : IntKind.i64.wrap n = n := by rw [IntKind.wrap_i64]; omega
 have r3 : IntKind.i64.wrap r = r := by rw [IntKind.wrap_i64]; omega
 have r4 : IntKind.u8.wrap r = r := by rw [IntKind.wrap_u8]; omega
 clear b0
 go_enter Tryz.func3, Tryz.ntmps3
 go_upto_region 2 with fail
 generalize (w.alloc (.cells #[.int .i64 k, .int .u8 o, .string p, .string q, .int .u16 md, .string d, .bool on, .int .i64 nn, .slice ka kn kc] 26)) = V at *
 have a0 : V.cell? ⟨w.heap.size, 0, none⟩ = some (.int .i64 k) := cell_of_row2 h0 0 rfl; have a1 : V.cell? ⟨w.heap.size, 1, none⟩ = some (.int .u8 o) := cell_of_row2 h0 1 rfl; have a2 : V.cell? ⟨w.heap.size, 2, none⟩ = some (.string p) := cell_of_row2 h0 2 rfl; have a3 : V.cell? ⟨w.heap.size, 3, none⟩ = some (.string q) := cell_of_row2 h0 3 rfl; have a4 : V.cell? ⟨w.heap.size, 4, none⟩ = some (.int .u16 md) := cell_of_row2 h0 4 rfl; have a5 : V.cell? ⟨w.heap.size, 5, none⟩ = some (.string d) := cell_of_row2 h0 5 rfl; have a6 : V.cell? ⟨w.heap.size, 6, none⟩ = some (.bool on) := cell_of_row2 h0 6 rfl; have a7 : V.cell? ⟨w.heap.size, 7, none⟩ = some (.int .i64 nn) := cell_of_row2 h0 7 rfl; have a8 : V.cell? ⟨w.heap.size, 8, none⟩ = some (.slice ka kn kc) := cell_of_row2 h0 8 rfl;
 clear h0
 go_upto_region 9 with (first
   | (go_at_call 5; refine (nlRead _ _).mono ?_; rintro _ w1 ⟨rfl, hbz⟩; have BX := hid (BX.out.trans (hbz.mono BX.out.size)); have HX := hid ((hbz.block _ (lt_blkR HX.out)).trans HX.out); clear a0 a1 a2 a3 a4 a5 a6 a7 a8; have b0 : w1.cell? ⟨w.heap.size, 0, none⟩ = some (.int .i64 k) := cell_of_row2 HX.out 0 rfl; have b1 : w1.cell? ⟨w.heap.size, 1, none⟩ = some (.int .u8 o) := cell_of_row2 HX.out 1 rfl; have b2 : w1.cell? ⟨w.heap.size, 2, none⟩ = some (.string p) := cell_of_row2 HX.out 2 rfl; have b3 : w1.cell? ⟨w.heap.size, 3, none⟩ = some (.string q) := cell_of_row2 HX.out 3 rfl; have b4 : w1.cell? ⟨w.heap.size, 4, none⟩ = some (.int .u16 md) := cell_of_row2 HX.out 4 rfl; have b5 : w1.cell? ⟨w.heap.size, 5, none⟩ = some (.string d) := cell_of_row2 HX.out 5 rfl; have b6 : w1.cell? ⟨w.heap.size, 6, none⟩ = some (.bool on) := cell_of_row2 HX.out 6 rfl; have b7 : w1.cell? ⟨w.heap.size, 7, none⟩ = some (.int .i64 nn) := cell_of_row2 HX.out 7 rfl; have b8 : w1.cell? ⟨w.heap.size, 8, none⟩ = some (.slice ka kn kc) := cell_of_row2 HX.out 8 rfl; clear hbz)
   | (go_at_call 6; refine (nlList _ _).mono ?_; rintro _ w2 ⟨rfl, hbz⟩; have BX := hid (BX.out.trans (hbz.mono BX.out.size)); have HX := hid ((hbz.block _ (lt_blkR HX.out)).trans HX.out); clear b0 b1 b2 b3 b4 b5 b6 b7 b8; have c0 : w2.cell? ⟨w.heap.size, 0, none⟩ = some (.int .i64 k) := cell_of_row2 HX.out 0 rfl; have c1 : w2.cell? ⟨w.heap.size, 1, none⟩ = some (.int .u8 o) := cell_of_row2 HX.out 1 rfl; have c2 : w2.cell? ⟨w.heap.size, 2, none⟩ = some (.string p) := cell_of_row2 HX.out 2 rfl; have c3 : w2.cell? ⟨w.heap.size, 3, none⟩ = some (.string q) := cell_of_row2 HX.out 3 rfl; have c4 : w2.cell? ⟨w.heap.size, 4, none⟩ = some (.int .u16 md) := cell_of_row2 HX.out 4 rfl; have c5 : w2.cell? ⟨w.heap.size, 5, none⟩ = some (.string d) := cell_of_row2 HX.out 5 rfl; have c6 : w2.cell? ⟨w.heap.size, 6, none⟩ = some (.bool on) := cell_of_row2 HX.out 6 rfl; have c7 : w2.cell? ⟨w.heap.size, 7, none⟩ = some (.int .i64 nn) := cell_of_row2 HX.out 7 rfl; have c8 : w2.cell? ⟨w.heap.size, 8, none⟩ = some (.slice ka kn kc) := cell_of_row2 HX.out 8 rfl; clear hbz)
   | (go_at_call 7; refine (nlStat _ _).mono ?_; rintro _ w3 ⟨rfl, hbz⟩; have hbn := hbz.trans ((below_1 w3 (.cells #[.int .u32 0, .int .u8 0, .int .u16 0, .int .u16 0, .slice none 0 0, .slice none 0 0] 40)).mono hbz.size); have BX := hid (BX.out.trans (hbn.mono BX.out.size)); have HX := hid ((hbn.block _ (lt_blkR HX.out)).trans HX.out); have nb0 : (w3.alloc (.cells #[.int .u32 0, .int .u8 0, .int .u16 0, .int .u16 0, .slice none 0 0, .slice none 0 0] 40)).cell? ⟨w3.heap.size, 0, none⟩ = some (.int .u32 0) := cell_of_row2 (heap_alloc_new w3 (.cells #[.int .u32 0, .int .u8 0, .int .u16 0, .int .u16 0, .slice none 0 0, .slice none 0 0] 40)) 0 rfl; clear c0 c1 c2 c3 c4 c5 c6 c7 c8; have x0 : (w3.alloc (.cells #[.int .u32 0, .int .u8 0, .int .u16 0, .int .u16 0, .slice none 0 0, .slice none 0 0] 40)).cell? ⟨w.heap.size, 0, none⟩ = some (.int .i64 k) := cell_of_row2 HX.out 0 rfl; have x1 : (w3.alloc (.cells #[.int .u32 0, .int .u8 0, .int .u16 0, .int .u16 0, .slice none 0 0, .slice none 0 0] 40)).cell? ⟨w.heap.size, 1, none⟩ = some (.int .u8 o) := cell_of_row2 HX.out 1 rfl; have x2 : (w3.alloc (.cells #[.int .u32 0, .int .u8 0, .int .u16 0, .int .u16 0, .slice none 0 0, .slice none 0 0] 40)).cell? ⟨w.heap.size, 2, none⟩ = some (.string p) := cell_of_row2 HX.out 2 rfl; have x3 : (w3.alloc (.cells #[.int .u32 0, .int .u8 0, .int .u16 0, .int .u16 0, .slice none 0 0, .slice none 0 0] 40)).cell? ⟨w.heap.size, 3, none⟩ = some (.string q) := cell_of_row2 HX.out 3 rfl; have x4 : (w3.alloc (.cells #[.int .u32 0, .int .u8 0, .int .u16 0, .int .u16 0, .slice none 0 0, .slice none 0 0] 40)).cell? ⟨w.heap.size, 4, none⟩ = some (.int .u16 md) := cell_of_row2 HX.out 4 rfl; have x5 : (w3.alloc (.cells #[.int .u32 0, .int .u8 0, .int .u16 0, .int .u16 0, .slice none 0 0, .slice none 0 0] 40)).cell? ⟨w.heap.size, 5, none⟩ = some (.string d) := cell_of_row2 HX.out 5 rfl; have x6 : (w3.alloc (.cells #[.int .u32 0, .int .u8 0, .int .u16 0, .int .u16 0, .slice none 0 0, .slice none 0 0] 40)).cell? ⟨w.heap.size, 6, none⟩ = some (.bool on) := cell_of_row2 HX.out 6 rfl; have x7 : (w3.alloc (.cells #[.int .u32 0, .int .u8 0, .int .u16 0, .int .u16 0, .slice none 0 0, .slice none 0 0] 40)).cell? ⟨w.heap.size, 7, none⟩ = some (.int .i64 nn) := cell_of_row2 HX.out 7 rfl; have x8 : (w3.alloc (.cells #[.int .u32 0, .int .u8 0, .int .u16 0, .int .u16 0, .slice none 0 0, .slice none 0 0] 40)).cell? ⟨w.heap.size, 8, none⟩ = some (.slice ka kn kc) := cell_of_row2 HX.out 8 rfl; clear hbz hbn)
   | (go_at_call 8; refine (nlRequest _).mono ?_; rintro _ wz ⟨rfl, hwz⟩; rw [hwz]; clear hwz)
   | (go_at_call 9; refine (nlDo _ _ _ _ _ _).mono ?_; rintro _ wz ⟨rfl, hwz⟩; rw [hwz]; clear hwz)
   | (go_at_call 10; refine (nlTorn _ _ _ _ _ _ _ _ _ _).mono ?_; rintro _ w4 ⟨rfl, hbz⟩; have BX := hid (BX.out.trans (hbz.mono BX.out.size)); have HX := hid ((hbz.block _ (lt_blkR HX.out)).trans HX.out); clear x0 x1 x2 x3 x4 x5 x6 x7 x8; have e0 : w4.cell? ⟨w.heap.size, 0, none⟩ = some (.int .i64 k) := cell_of_row2 HX.out 0 rfl; have e1 : w4.cell? ⟨w.heap.size, 1, none⟩ = some (.int .u8 o) := cell_of_row2 HX.out 1 rfl; have e2 : w4.cell? ⟨w.heap.size, 2, none⟩ = some (.string p) := cell_of_row2 HX.out 2 rfl; have e3 : w4.cell? ⟨w.heap.size, 3, none⟩ = some (.string q) := cell_of_row2 HX.out 3 rfl; have e4 : w4.cell? ⟨w.heap.size, 4, none⟩ = some (.int .u16 md) := cell_of_row2 HX.out 4 rfl; have e5 : w4.cell? ⟨w.heap.size, 5, none⟩ = some (.string d) := cell_of_row2 HX.out 5 rfl; have e6 : w4.cell? ⟨w.heap.size, 6, none⟩ = some (.bool on) := cell_of_row2 HX.out 6 rfl; have e7 : w4.cell? ⟨w.heap.size, 7, none⟩ = some (.int .i64 nn) := cell_of_row2 HX.out 7 rfl; have e8 : w4.cell? ⟨w.heap.size, 8, none⟩ = some (.slice ka kn kc) := cell_of_row2 HX.out 8 rfl; clear hbz)
   | (go_at_call 11; refine (nlLink _ _).mono ?_; rintro _ wz ⟨rfl, hwz⟩; rw [hwz]; clear hwz)
   | (go_at_call 12; refine (nlHoard _ _ _).mono ?_; rintro _ wz ⟨rfl, hwz⟩; rw [hwz]; clear hwz)
   | (go_at_call 13; refine (nlTake _ _).mono ?_; rintro _ w5 ⟨rfl, hbz⟩; have BX := hid (BX.out.trans (hbz.mono BX.out.size)); have HX := hid ((hbz.block _ (lt_blkR HX.out)).trans HX.out); clear e0 e1 e2 e3 e4 e5 e6 e7 e8; have f0 : w5.cell? ⟨w.heap.size, 0, none⟩ = some (.int .i64 k) := cell_of_row2 HX.out 0 rfl; have f1 : w5.cell? ⟨w.heap.size, 1, none⟩ = some (.int .u8 o) := cell_of_row2 HX.out 1 rfl; have f2 : w5.cell? ⟨w.heap.size, 2, none⟩ = some (.string p) := cell_of_row2 HX.out 2 rfl; have f3 : w5.cell? ⟨w.heap.size, 3, none⟩ = some (.string q) := cell_of_row2 HX.out 3 rfl; have f4 : w5.cell? ⟨w.heap.size, 4, none⟩ = some (.int .u16 md) := cell_of_row2 HX.out 4 rfl; have f5 : w5.cell? ⟨w.heap.size, 5, none⟩ = some (.string d) := cell_of_row2 HX.out 5 rfl; have f6 : w5.cell? ⟨w.heap.size, 6, none⟩ = some (.bool on) := cell_of_row2 HX.out 6 rfl; have f7 : w5.cell? ⟨w.heap.size, 7, none⟩ = some (.int .i64 nn) := cell_of_row2 HX.out 7 rfl; have f8 : w5.cell? ⟨w.heap.size, 8, none⟩ = some (.slice ka kn kc) := cell_of_row2 HX.out 8 rfl; clear hbz)
   | (go_at_call 14; refine (nlView _).mono ?_; rintro _ wz ⟨rfl, hwz⟩; rw [hwz]; clear hwz)
   | (go_at_call 15; refine (nlLog _).mono ?_; rintro _ wz ⟨rfl, hwz⟩; rw [hwz]; clear hwz)
   | (go_at_call 16; refine (nlFrozen _).mono ?_; rintro _ wz ⟨rfl, hwz⟩; rw [hwz]; clear hwz)
   | (go_at_call 17; refine (nlDone _).mono ?_; rintro _ wz ⟨rfl, hwz⟩; rw [hwz]; clear hwz)
   | (go_at_call 18; refine (nlRefused _).mono ?_; rintro _ wz ⟨rfl, hwz⟩; rw [hwz]; clear hwz)
   | (go_at_call 19; refine (nlLinked _).mono ?_; rintro _ wz ⟨rfl, hwz⟩; rw [hwz]; clear hwz)
   | (go_at_call 20; refine (nlDisk _).mono ?_; rintro _ wz ⟨rfl, hwz⟩; rw [hwz]; clear hwz)
   | (go_at_call 21; refine (nlFork _).mono ?_; rintro _ wz ⟨rfl, hwz⟩; rw [hwz]; clear hwz))
 clear f0 f1 f2 f3 f4 f5 f6 f7 f8
 rcases CS with ⟨h1, rfl⟩ | ⟨h1, h3, rfl⟩ | ⟨h1, h3, h8, rfl⟩ | ⟨h1, h3, h8, rfl⟩
 all_goals
   go_wp2_with (first
     | (go_at_call 22; refine (live13_c _).mono ?_; rintro _ w6 ⟨rfl, hbz⟩; have BX := hid (BX.out.trans (hbz.mono BX.out.size)); clear hbz)
     | (go_at_call 24; refine (NC.out _).mono ?_; rintro _ w8 ⟨d8, rfl, hp8, hb8⟩; have BX := hid (BX.out.trans (hb8.mono BX.out.size)); have OC8 := hid (OC.out _ _ hp8); clear hb8 hp8)
     | (go_at_call 23; refine OC8.out.mono ?_; rintro _ w9 ⟨p9, rfl, hb9⟩; have B9 := hid (BX.out.trans (hb9.mono BX.out.size)); clear hb9))
 all_goals first
   | (go_ret; exact ⟨by first | rfl | exact ret_bool (by simp; omega), B9.out⟩)
   | (exfalso; omega)
end Go.Proofs.YtfmghbennahlfaaGreat
