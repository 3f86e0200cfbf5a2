/-
  
-/
import Derived.Test.YtfmghbennahlfaaGreatCnBv
import Derived.Test.YtfmghbennahlfaaGreatCnBs
import Derived.Maps.OwnOps
import Derived.Maps.Views
import Derived.DeepKeys4
namespace Go.Proofs.YtfmghbennahlfaaGreat
open Go.RowKit Go.ChangeShapes Go.WideShapes Go.ChangeAt Go.Maps Go.Shelf
set_option linter.unusedVariables false
set_option linter.unusedSimpArgs false
set_option maxRecDepth 100000
def R1P (w : World) (e : Ending) (w' : World) : Prop := ∃ (lb lc : Nat) (cur : Array Value), e = .returned (.slice (some ⟨lb, 0, none⟩) 1 lc) ∧ w'.heap[lb]? = some (.cells cur 113 (0, 0)) ∧ R9 cur oM ∧ w.heap.size ≤ lb ∧ Below w.heap.size w w'
theorem wpList_appR (w : World) {ops : Array Oper} {rest : List Oper} {o : Oper} {a : Act} {Q : Exit → Act → World → Prop} (hgd : o.guard = none) (s x : Operand)
   (ho : o.op = .call { callee := .builtin .append, args := #[s, x], argTypes := #[51, 51] }) (base : Nat) (hs : a.eval s = .slice none 0 0)
   (q : Nat) (hx : a.eval x = .slice (some ⟨q, 0, none⟩) 1 1) (hq : w.heap[q]? = some (.cells #[.int .u8 2, .int .u32 16777217, .int .u32 1, .string ⟨#[97]⟩, .int .u32 0, .string ⟨#[]⟩, .int .u16 0, .string ⟨#[]⟩, .int .u64 0] 113 (0, 0))) (hbase : base ≤ w.heap.size)
   (h : ∀ v' w', w'.ownsRow base 113 9 v' 1 [.int .u8 2, .int .u32 16777217, .int .u32 1, .string ⟨#[97]⟩, .int .u32 0, .string ⟨#[]⟩, .int .u16 0, .string ⟨#[]⟩, .int .u64 0] → w.grownBy w' none → wpList Tryz.prog ops Q rest (a.put o.dst v') w') : wpList Tryz.prog ops Q (o :: rest) a w := by
 obtain ⟨i0, hi, hz0, hz1, hz2⟩ := info_recC
 refine wpList_append_own w hgd s x 51 ho base 113 i0 Rec.no.recV 9 88 Tryz.underlying51 hi hz0 hz1 hz2 rfl (by decide) _ 0 [] hs (World.ownsRow_nil _ _ _ _) ⟨q, 0, none⟩ 1 1 [.int .u8 2, .int .u32 16777217, .int .u32 1, .string ⟨#[97]⟩, .int .u32 0, .string ⟨#[]⟩, .int .u16 0, .string ⟨#[]⟩, .int .u64 0] hx rfl (row_news (l := [.int .u8 2, .int .u32 16777217, .int .u32 1, .string ⟨#[97]⟩, .int .u32 0, .string ⟨#[]⟩, .int .u16 0, .string ⟨#[]⟩, .int .u64 0]) hq) rec_oneC (by unfold maxLen; omega) (by omega) hbase ?_
 intro v' w' h1 h2 _
 exact h v' w' h1 h2
theorem below_grow0 {B : Nat} {a w w' : World} (h : Below B a w) (hg : w.grownBy w' none) (hB : B ≤ w.heap.size) : Below B a w' :=
 h.trans (Below.mono (Below.mk hg.os hg.tape hg.output hg.size (fun k hk => hg.block k hk (fun e => by cases e))) hB)
set_option maxHeartbeats 4000000 in
theorem wo_n_c {w : World} (lb lc : Nat) (cur : Array Value) (hl : w.heap[lb]? = some (.cells cur 113 (0, 0))) (hR : R9 cur oM) (P1 : Nat) (P2 : Nat)
   (OUT : ∀ W, Below w.heap.size w W → Calls Tryz.prog 127 #[.int .i64 0, .pointer (some ⟨P1, 0, none⟩), .pointer (some ⟨P2, 0, none⟩)] W fun e w' => e = .returned (.bool false) ∧ Below W.heap.size W w') :
   Calls Tryz.prog 64 #[.slice (some ⟨lb, 0, none⟩) 1 lc, .func (.func 127) #[] #[.pointer (some ⟨P1, 0, none⟩), .pointer (some ⟨P2, 0, none⟩)]] w (R1P w) := by
 have k0 : w.cell? ⟨lb, 0, none⟩ = some (.int .u8 2) := cell_of_row2 hl 0 hR.1
 have k1 : w.cell? ⟨lb, 1, none⟩ = some (.int .u32 16777217) := cell_of_row2 hl 1 hR.2.1
 have k2 : w.cell? ⟨lb, 2, none⟩ = some (.int .u32 1) := cell_of_row2 hl 2 hR.2.2.1
 have k3 : w.cell? ⟨lb, 3, none⟩ = some (.string ⟨#[97]⟩) := cell_of_row2 hl 3 hR.2.2.2.1
 have k4 : w.cell? ⟨lb, 4, none⟩ = some (.int .u32 0) := cell_of_row2 hl 4 hR.2.2.2.2.1
 have k5 : w.cell? ⟨lb, 5, none⟩ = some (.string ⟨#[]⟩) := cell_of_row2 hl 5 hR.2.2.2.2.2.1
 have k6 : w.cell? ⟨lb, 6, none⟩ = some (.int .u16 0) := cell_of_row2 hl 6 hR.2.2.2.2.2.2.1
 have k7 : w.cell? ⟨lb, 7, none⟩ = some (.string ⟨#[]⟩) := cell_of_row2 hl 7 hR.2.2.2.2.2.2.2.1
 have k8 : w.cell? ⟨lb, 8, none⟩ = some (.int .u64 0) := cell_of_row2 hl 8 hR.2.2.2.2.2.2.2.2
 have b1 := below_1 w (.cells #[.int .u8 2, .int .u32 16777217, .int .u32 1, .string ⟨#[97]⟩, .int .u32 0, .string ⟨#[]⟩, .int .u16 0, .string ⟨#[]⟩, .int .u64 0] 113)
 have g1 := heap_alloc_new w (.cells #[.int .u8 2, .int .u32 16777217, .int .u32 1, .string ⟨#[97]⟩, .int .u32 0, .string ⟨#[]⟩, .int .u16 0, .string ⟨#[]⟩, .int .u64 0] 113)
 have OV := hid (OUT (w.alloc (.cells #[.int .u8 2, .int .u32 16777217, .int .u32 1, .string ⟨#[97]⟩, .int .u32 0, .string ⟨#[]⟩, .int .u16 0, .string ⟨#[]⟩, .int .u64 0] 113)) b1)
 have B1 := hid b1
 have G1 := hid g1
 clear hl hR OUT b1 g1
 go_enter Tryz.func64, Tryz.ntmps64
 go_wp2
 refine wp_loop_rounds 2 ?_
 rw [rounds_succ]
 go_wp2_with (first
   | (go_at_call 127; refine OV.out.mono ?_; rintro _ w1 ⟨rfl, hb1⟩; have D1 := hid (B1.out.trans (hb1.mono B1.out.size)); have r1 := (hb1.block _ (lt_blkR G1.out)).trans G1.out; have x0 : w1.cell? ⟨w.heap.size, 0, none⟩ = some (.int .u8 2) := cell_of_row2 r1 0 rfl; have x1 : w1.cell? ⟨w.heap.size, 1, none⟩ = some (.int .u32 16777217) := cell_of_row2 r1 1 rfl; have x2 : w1.cell? ⟨w.heap.size, 2, none⟩ = some (.int .u32 1) := cell_of_row2 r1 2 rfl; have x3 : w1.cell? ⟨w.heap.size, 3, none⟩ = some (.string ⟨#[97]⟩) := cell_of_row2 r1 3 rfl; have x4 : w1.cell? ⟨w.heap.size, 4, none⟩ = some (.int .u32 0) := cell_of_row2 r1 4 rfl; have x5 : w1.cell? ⟨w.heap.size, 5, none⟩ = some (.string ⟨#[]⟩) := cell_of_row2 r1 5 rfl; have x6 : w1.cell? ⟨w.heap.size, 6, none⟩ = some (.int .u16 0) := cell_of_row2 r1 6 rfl; have x7 : w1.cell? ⟨w.heap.size, 7, none⟩ = some (.string ⟨#[]⟩) := cell_of_row2 r1 7 rfl; have x8 : w1.cell? ⟨w.heap.size, 8, none⟩ = some (.int .u64 0) := cell_of_row2 r1 8 rfl; have R1 := hid r1; clear hb1 r1)
   | (at_builtin; refine wpList_appR _ rfl _ _ rfl w.heap.size rfl w1.heap.size rfl (heap_alloc_new w1 _) (Nat.le_trans D1.out.size (below_1 w1 _).size) ?_; intro v9 w9 ho9 hg9; obtain ⟨lb9, lc9, cur9, rfl, hlb9, hl9, hR9⟩ := own_rec1 ho9; have L9 := hid hl9; have C9 := hid hR9; have Z9 := hid hlb9; have B9 := hid (below_grow0 (D1.out.trans ((below_1 w1 _).mono D1.out.size)) hg9 (Nat.le_trans D1.out.size (below_1 w1 _).size)); clear ho9 hg9 hlb9 hl9 hR9))
 rw [rounds_succ]
 go_wp2
 go_ret
 exact ⟨lb9, lc9, cur9, rfl, L9.out, C9.out, Z9.out, B9.out⟩
set_option maxHeartbeats 4000000 in
theorem wo_p_c {w : World} (lb lc : Nat) (cur : Array Value) (hl : w.heap[lb]? = some (.cells cur 113 (0, 0))) (hR : R9 cur oM) (C : Nat)
   (OUT : ∀ W, Below w.heap.size w W → Calls Tryz.prog 131 #[.int .i64 0, .pointer (some ⟨C, 0, none⟩)] W fun e w' => e = .returned (.bool false) ∧ Below W.heap.size W w') :
   Calls Tryz.prog 64 #[.slice (some ⟨lb, 0, none⟩) 1 lc, .func (.func 131) #[] #[.pointer (some ⟨C, 0, none⟩)]] w (R1P w) := by
 have k0 : w.cell? ⟨lb, 0, none⟩ = some (.int .u8 2) := cell_of_row2 hl 0 hR.1
 have k1 : w.cell? ⟨lb, 1, none⟩ = some (.int .u32 16777217) := cell_of_row2 hl 1 hR.2.1
 have k2 : w.cell? ⟨lb, 2, none⟩ = some (.int .u32 1) := cell_of_row2 hl 2 hR.2.2.1
 have k3 : w.cell? ⟨lb, 3, none⟩ = some (.string ⟨#[97]⟩) := cell_of_row2 hl 3 hR.2.2.2.1
 have k4 : w.cell? ⟨lb, 4, none⟩ = some (.int .u32 0) := cell_of_row2 hl 4 hR.2.2.2.2.1
 have k5 : w.cell? ⟨lb, 5, none⟩ = some (.string ⟨#[]⟩) := cell_of_row2 hl 5 hR.2.2.2.2.2.1
 have k6 : w.cell? ⟨lb, 6, none⟩ = some (.int .u16 0) := cell_of_row2 hl 6 hR.2.2.2.2.2.2.1
 have k7 : w.cell? ⟨lb, 7, none⟩ = some (.string ⟨#[]⟩) := cell_of_row2 hl 7 hR.2.2.2.2.2.2.2.1
 have k8 : w.cell? ⟨lb, 8, none⟩ = some (.int .u64 0) := cell_of_row2 hl 8 hR.2.2.2.2.2.2.2.2
 have b1 := below_1 w (.cells #[.int .u8 2, .int .u32 16777217, .int .u32 1, .string ⟨#[97]⟩, .int .u32 0, .string ⟨#[]⟩, .int .u16 0, .string ⟨#[]⟩, .int .u64 0] 113)
 have g1 := heap_alloc_new w (.cells #[.int .u8 2, .int .u32 16777217, .int .u32 1, .string ⟨#[97]⟩, .int .u32 0, .string ⟨#[]⟩, .int .u16 0, .string ⟨#[]⟩, .int .u64 0] 113)
 have OV := hid (OUT (w.alloc (.cells #[.int .u8 2, .int .u32 16777217, .int .u32 1, .string ⟨#[97]⟩, .int .u32 0, .string ⟨#[]⟩, .int .u16 0, .string ⟨#[]⟩, .int .u64 0] 113)) b1)
 have B1 := hid b1
 have G1 := hid g1
 clear hl hR OUT b1 g1
 go_enter Tryz.func64, Tryz.ntmps64
 go_wp2
 refine wp_loop_rounds 2 ?_
 rw [rounds_succ]
 go_wp2_with (first
   | (go_at_call 131; refine OV.out.mono ?_; rintro _ w1 ⟨rfl, hb1⟩; have D1 := hid (B1.out.trans (hb1.mono B1.out.size)); have r1 := (hb1.block _ (lt_blkR G1.out)).trans G1.out; have x0 : w1.cell? ⟨w.heap.size, 0, none⟩ = some (.int .u8 2) := cell_of_row2 r1 0 rfl; have x1 : w1.cell? ⟨w.heap.size, 1, none⟩ = some (.int .u32 16777217) := cell_of_row2 r1 1 rfl; have x2 : w1.cell? ⟨w.heap.size, 2, none⟩ = some (.int .u32 1) := cell_of_row2 r1 2 rfl; have x3 : w1.cell? ⟨w.heap.size, 3, none⟩ = some (.string ⟨#[97]⟩) := cell_of_row2 r1 3 rfl; have x4 : w1.cell? ⟨w.heap.size, 4, none⟩ = some (.int .u32 0) := cell_of_row2 r1 4 rfl; have x5 : w1.cell? ⟨w.heap.size, 5, none⟩ = some (.string ⟨#[]⟩) := cell_of_row2 r1 5 rfl; have x6 : w1.cell? ⟨w.heap.size, 6, none⟩ = some (.int .u16 0) := cell_of_row2 r1 6 rfl; have x7 : w1.cell? ⟨w.heap.size, 7, none⟩ = some (.string ⟨#[]⟩) := cell_of_row2 r1 7 rfl; have x8 : w1.cell? ⟨w.heap.size, 8, none⟩ = some (.int .u64 0) := cell_of_row2 r1 8 rfl; have R1 := hid r1; clear hb1 r1)
   | (at_builtin; refine wpList_appR _ rfl _ _ rfl w.heap.size rfl w1.heap.size rfl (heap_alloc_new w1 _) (Nat.le_trans D1.out.size (below_1 w1 _).size) ?_; intro v9 w9 ho9 hg9; obtain ⟨lb9, lc9, cur9, rfl, hlb9, hl9, hR9⟩ := own_rec1 ho9; have L9 := hid hl9; have C9 := hid hR9; have Z9 := hid hlb9; have B9 := hid (below_grow0 (D1.out.trans ((below_1 w1 _).mono D1.out.size)) hg9 (Nat.le_trans D1.out.size (below_1 w1 _).size)); clear ho9 hg9 hlb9 hl9 hR9))
 rw [rounds_succ]
 go_wp2
 go_ret
 exact ⟨lb9, lc9, cur9, rfl, L9.out, C9.out, Z9.out, B9.out⟩
set_option maxHeartbeats 4000000 in
theorem wo_c_c {w : World} (lb lc : Nat) (cur : Array Value) (hl : w.heap[lb]? = some (.cells cur 113 (0, 0))) (hR : R9 cur oM) (C : Nat)
   (OUT : ∀ W, Below w.heap.size w W → Calls Tryz.prog 73 #[.int .i64 0, .pointer (some ⟨C, 0, none⟩)] W fun e w' => e = .returned (.bool false) ∧ Below W.heap.size W w') :
   Calls Tryz.prog 64 #[.slice (some ⟨lb, 0, none⟩) 1 lc, .func (.func 73) #[] #[.pointer (some ⟨C, 0, none⟩)]] w (R1P w) := by
 have k0 : w.cell? ⟨lb, 0, none⟩ = some (.int .u8 2) := cell_of_row2 hl 0 hR.1
 have k1 : w.cell? ⟨lb, 1, none⟩ = some (.int .u32 16777217) := cell_of_row2 hl 1 hR.2.1
 have k2 : w.cell? ⟨lb, 2, none⟩ = some (.int .u32 1) := cell_of_row2 hl 2 hR.2.2.1
 have k3 : w.cell? ⟨lb, 3, none⟩ = some (.string ⟨#[97]⟩) := cell_of_row2 hl 3 hR.2.2.2.1
 have k4 : w.cell? ⟨lb, 4, none⟩ = some (.int .u32 0) := cell_of_row2 hl 4 hR.2.2.2.2.1
 have k5 : w.cell? ⟨lb, 5, none⟩ = some (.string ⟨#[]⟩) := cell_of_row2 hl 5 hR.2.2.2.2.2.1
 have k6 : w.cell? ⟨lb, 6, none⟩ = some (.int .u16 0) := cell_of_row2 hl 6 hR.2.2.2.2.2.2.1
 have k7 : w.cell? ⟨lb, 7, none⟩ = some (.string ⟨#[]⟩) := cell_of_row2 hl 7 hR.2.2.2.2.2.2.2.1
 have k8 : w.cell? ⟨lb, 8, none⟩ = some (.int .u64 0) := cell_of_row2 hl 8 hR.2.2.2.2.2.2.2.2
 have b1 := below_1 w (.cells #[.int .u8 2, .int .u32 16777217, .int .u32 1, .string ⟨#[97]⟩, .int .u32 0, .string ⟨#[]⟩, .int .u16 0, .string ⟨#[]⟩, .int .u64 0] 113)
 have g1 := heap_alloc_new w (.cells #[.int .u8 2, .int .u32 16777217, .int .u32 1, .string ⟨#[97]⟩, .int .u32 0, .string ⟨#[]⟩, .int .u16 0, .string ⟨#[]⟩, .int .u64 0] 113)
 have OV := hid (OUT (w.alloc (.cells #[.int .u8 2, .int .u32 16777217, .int .u32 1, .string ⟨#[97]⟩, .int .u32 0, .string ⟨#[]⟩, .int .u16 0, .string ⟨#[]⟩, .int .u64 0] 113)) b1)
 have B1 := hid b1
 have G1 := hid g1
 clear hl hR OUT b1 g1
 go_enter Tryz.func64, Tryz.ntmps64
 go_wp2
 refine wp_loop_rounds 2 ?_
 rw [rounds_succ]
 go_wp2_with (first
   | (go_at_call 73; refine OV.out.mono ?_; rintro _ w1 ⟨rfl, hb1⟩; have D1 := hid (B1.out.trans (hb1.mono B1.out.size)); have r1 := (hb1.block _ (lt_blkR G1.out)).trans G1.out; have x0 : w1.cell? ⟨w.heap.size, 0, none⟩ = some (.int .u8 2) := cell_of_row2 r1 0 rfl; have x1 : w1.cell? ⟨w.heap.size, 1, none⟩ = some (.int .u32 16777217) := cell_of_row2 r1 1 rfl; have x2 : w1.cell? ⟨w.heap.size, 2, none⟩ = some (.int .u32 1) := cell_of_row2 r1 2 rfl; have x3 : w1.cell? ⟨w.heap.size, 3, none⟩ = some (.string ⟨#[97]⟩) := cell_of_row2 r1 3 rfl; have x4 : w1.cell? ⟨w.heap.size, 4, none⟩ = some (.int .u32 0) := cell_of_row2 r1 4 rfl; have x5 : w1.cell? ⟨w.heap.size, 5, none⟩ = some (.string ⟨#[]⟩) := cell_of_row2 r1 5 rfl; have x6 : w1.cell? ⟨w.heap.size, 6, none⟩ = some (.int .u16 0) := cell_of_row2 r1 6 rfl; have x7 : w1.cell? ⟨w.heap.size, 7, none⟩ = some (.string ⟨#[]⟩) := cell_of_row2 r1 7 rfl; have x8 : w1.cell? ⟨w.heap.size, 8, none⟩ = some (.int .u64 0) := cell_of_row2 r1 8 rfl; have R1 := hid r1; clear hb1 r1)
   | (at_builtin; refine wpList_appR _ rfl _ _ rfl w.heap.size rfl w1.heap.size rfl (heap_alloc_new w1 _) (Nat.le_trans D1.out.size (below_1 w1 _).size) ?_; intro v9 w9 ho9 hg9; obtain ⟨lb9, lc9, cur9, rfl, hlb9, hl9, hR9⟩ := own_rec1 ho9; have L9 := hid hl9; have C9 := hid hR9; have Z9 := hid hlb9; have B9 := hid (below_grow0 (D1.out.trans ((below_1 w1 _).mono D1.out.size)) hg9 (Nat.le_trans D1.out.size (below_1 w1 _).size)); clear ho9 hg9 hlb9 hl9 hR9))
 rw [rounds_succ]
 go_wp2
 go_ret
 exact ⟨lb9, lc9, cur9, rfl, L9.out, C9.out, Z9.out, B9.out⟩
theorem cell_grownC {w w' : World} {g j : Nat} {u : Value} (h : w.grownBy w' (some g)) (hj : j ≠ g) (hu : w.cell? ⟨j, 0, none⟩ = some u) : w'.cell? ⟨j, 0, none⟩ = some u := by
 obtain ⟨_, _, _, _, hb⟩ := h
 have hlt : j < w.heap.size := by
   by_cases e : j < w.heap.size
   · exact e
   · have : w.heap[j]? = none := by simp; omega
     simp [World.cell?, this] at hu
 have e := hb j hlt (by simpa using hj)
 simp only [World.cell?, e] at hu ⊢
 exact hu
theorem sets2_c (w : World) : Calls Tryz.prog 128 #[.int .u8 2] w fun e w' => e = .returned (.bool false) ∧ w' = w := by
 go_enter Tryz.func128, Tryz.ntmps128
 go_wp2
 go_ret
 exact ⟨rfl, rfl⟩
theorem makes2_c (w : World) : Calls Tryz.prog 187 #[.int .u8 2] w fun e w' => e = .returned (.bool true) ∧ w' = w := by
 go_enter Tryz.func187, Tryz.ntmps187
 go_wp2
 go_ret
 exact ⟨rfl, rfl⟩
set_option maxHeartbeats 2000000 in
theorem nn1_c {w : World} (lb lc P1 P2 : Nat) (cur : Array Value) (hl : w.heap[lb]? = some (.cells cur 113 (0, 0))) (hR : R9 cur oM) (h1 : w.cell? ⟨P1, 0, none⟩ = some (.slice (some ⟨lb, 0, none⟩) 1 lc)) :
   Calls Tryz.prog 127 #[.int .i64 0, .pointer (some ⟨P1, 0, none⟩), .pointer (some ⟨P2, 0, none⟩)] w fun e w' => e = .returned (.bool false) ∧ Below w.heap.size w w' := by
 have k0 : w.cell? ⟨lb, 0, none⟩ = some (.int .u8 2) := cell_of_row2 hl 0 hR.1
 have k1 : w.cell? ⟨lb, 1, none⟩ = some (.int .u32 16777217) := cell_of_row2 hl 1 hR.2.1
 have k2 : w.cell? ⟨lb, 2, none⟩ = some (.int .u32 1) := cell_of_row2 hl 2 hR.2.2.1
 have k3 : w.cell? ⟨lb, 3, none⟩ = some (.string ⟨#[97]⟩) := cell_of_row2 hl 3 hR.2.2.2.1
 have k4 : w.cell? ⟨lb, 4, none⟩ = some (.int .u32 0) := cell_of_row2 hl 4 hR.2.2.2.2.1
 have k5 : w.cell? ⟨lb, 5, none⟩ = some (.string ⟨#[]⟩) := cell_of_row2 hl 5 hR.2.2.2.2.2.1
 have k6 : w.cell? ⟨lb, 6, none⟩ = some (.int .u16 0) := cell_of_row2 hl 6 hR.2.2.2.2.2.2.1
 have k7 : w.cell? ⟨lb, 7, none⟩ = some (.string ⟨#[]⟩) := cell_of_row2 hl 7 hR.2.2.2.2.2.2.2.1
 have b1 := below_1 w (.cells #[.int .u8 2, .int .u32 16777217, .int .u32 1, .string ⟨#[97]⟩, .int .u32 0, .string ⟨#[]⟩, .int .u16 0, .string ⟨#[]⟩] 111)
 have g1 := heap_alloc_new w (.cells #[.int .u8 2, .int .u32 16777217, .int .u32 1, .string ⟨#[97]⟩, .int .u32 0, .string ⟨#[]⟩, .int .u16 0, .string ⟨#[]⟩] 111)
 have e0 : (w.alloc (.cells #[.int .u8 2, .int .u32 16777217, .int .u32 1, .string ⟨#[97]⟩, .int .u32 0, .string ⟨#[]⟩, .int .u16 0, .string ⟨#[]⟩] 111)).cell? ⟨w.heap.size, 0, none⟩ = some (.int .u8 2) := cell_of_row2 g1 0 rfl
 have SC := hid (fun W => sets2_c W)
 clear hl hR g1
 go_enter Tryz.func127, Tryz.ntmps127
 go_wp2_with (go_at_call 128; refine (SC.out _).mono ?_; rintro _ wz ⟨rfl, hwz⟩; rw [hwz]; clear hwz)
 go_ret
 exact ⟨rfl, b1⟩
theorem laidC : laidOutB Tryz.prog = true := by kernel_rfl
theorem setting_wide : (match Tryz.prog.underlying 206 with | some (.array _ _) | some (.struct _) => true | _ => false) = true := by kernel_rfl
theorem setting_law : WideMaps.KeyLaw Tryz.prog 206 := deep_law_laid laidC (m := 2) (by omega) (of_decide_eq_true (by kernel_rfl)) (by kernel_rfl) setting_wide
theorem setting_keyed : Keyed Tryz.prog 206 := Keyed.of_law setting_law
def kyV (k f : Int) : Value := .agg #[.int .u8 k, .int .u32 f]
theorem ky_some : ∃ y, keyOf Tryz.prog 206 (kyV 2 16777217) = some y := by
 have h1 : (Lit.int .u8 2).wf = true := by decide
 have h2 : (Lit.int .u32 16777217).wf = true := by decide
 refine Option.isSome_iff_exists.1 ?_
 have hkt : Tryz.prog.keyType 206 = true := by kernel_rfl
 have hc : Tryz.prog.cellsOf 206 = 2 := by kernel_rfl
 have hc1 : Tryz.prog.cellsOf 22 = 1 := by kernel_rfl
 have hc2 : Tryz.prog.cellsOf 35 = 1 := by kernel_rfl
 have hs : decide (1 ≤ Tryz.prog.types.size) = true := by kernel_rfl
 obtain ⟨d, hd⟩ : ∃ d, Tryz.prog.types.size = d + 1 := ⟨Tryz.prog.types.size - 1, by have := of_decide_eq_true hs; omega⟩
 unfold kyV keyOf
 rw [Tryz.underlying206, hd]
 simp [hkt, Value.formed, Tryz.underlying206, hc, Value.cells, Program.keyLits, Tryz.underlying22, Tryz.underlying35, hc1, hc2, h1, h2]
theorem map_later {w w' : World} {b : Nat} (h : w.ownsMap (H := Unit) Tryz.prog 206 (plainElem Tryz.prog 3) b 0 (.map [])) (hb : Below w.heap.size w w') : w'.ownsMap (H := Unit) Tryz.prog 206 (plainElem Tryz.prog 3) b 0 (.map []) := by
 obtain ⟨es, cl, h1, h2⟩ := h
 exact ⟨es, cl, (hb.block b (lt_blkR h1)).trans h1, h2⟩
set_option maxHeartbeats 4000000 in
theorem nn_c {w : World} (lb lc : Nat) (cur : Array Value) (hl : w.heap[lb]? = some (.cells cur 113 (0, 0))) (hR : R9 cur oM) :
   Calls Tryz.prog 65 #[.slice (some ⟨lb, 0, none⟩) 1 lc] w fun e w' => ∃ P1 P2, e = .returned (.func (.func 127) #[] #[.pointer (some ⟨P1, 0, none⟩), .pointer (some ⟨P2, 0, none⟩)]) ∧ w'.cell? ⟨P1, 0, none⟩ = some (.slice (some ⟨lb, 0, none⟩) 1 lc) ∧ Below w.heap.size w w' := by
 have hmm := @run_makeMap Tryz.prog
 have g0 := heap_alloc_new w (.cells #[.slice (some ⟨lb, 0, none⟩) 1 lc] 51)
 have b0 := below_1 w (.cells #[.slice (some ⟨lb, 0, none⟩) 1 lc] 51)
 have s0 : (w.alloc (.cells #[.slice (some ⟨lb, 0, none⟩) 1 lc] 51)).heap.size = w.heap.size + 1 := by simp
 have hl0 := (b0.block _ (lt_blkR hl)).trans hl
 go_enter Tryz.func65, Tryz.ntmps65
 go_upto_region 1 with fail
 generalize w.alloc (.cells #[.slice (some ⟨lb, 0, none⟩) 1 lc] 51) = w1 at *
 have g1 := World.ownsMap_made (H := Unit) w1 Tryz.prog 206 (plainElem Tryz.prog 3)
 have b1 := below_1 w1 (.map #[] 0)
 have s1 : (w1.alloc (.map #[] 0)).heap.size = w1.heap.size + 1 := by simp
 have g2 := heap_alloc_new (w1.alloc (.map #[] 0)) (.cells #[.map (some (w.heap.size + 1))] 204)
 have b2 := below_1 (w1.alloc (.map #[] 0)) (.cells #[.map (some (w.heap.size + 1))] 204)
 have c0 : w1.cell? ⟨w.heap.size, 0, none⟩ = some (.slice (some ⟨lb, 0, none⟩) 1 lc) := cell_of_row2 g0 0 rfl
 have hl1 := (b1.block _ (lt_blkR hl0)).trans hl0
 have c1 := cell_later b1 c0
 go_upto_region 2 with fail
 rw [s1, s0] at g2
 rw [s0] at g1
 have hl2 := (b2.block _ (lt_blkR hl1)).trans hl1
 have c2 := cell_later b2 c1
 have g3 := map_later g1 b2
 have B2 := hid ((b0.trans (b1.mono b0.size)).trans (b2.mono (by omega)))
 have Z1 := hid s0
 generalize ((w1.alloc (.map #[] 0)).alloc (.cells #[.map (some (w.heap.size + 1))] 204)) = w3 at *
 have q2 : w3.cell? ⟨w.heap.size + 1 + 1, 0, none⟩ = some (.map (some (w.heap.size + 1))) := cell_of_row2 g2 0 rfl
 have k0 : w3.cell? ⟨lb, 0, none⟩ = some (.int .u8 2) := cell_of_row2 hl2 0 hR.1
 have k1 : w3.cell? ⟨lb, 1, none⟩ = some (.int .u32 16777217) := cell_of_row2 hl2 1 hR.2.1
 have k2 : w3.cell? ⟨lb, 2, none⟩ = some (.int .u32 1) := cell_of_row2 hl2 2 hR.2.2.1
 have k3 : w3.cell? ⟨lb, 3, none⟩ = some (.string ⟨#[97]⟩) := cell_of_row2 hl2 3 hR.2.2.2.1
 have k4 : w3.cell? ⟨lb, 4, none⟩ = some (.int .u32 0) := cell_of_row2 hl2 4 hR.2.2.2.2.1
 have k5 : w3.cell? ⟨lb, 5, none⟩ = some (.string ⟨#[]⟩) := cell_of_row2 hl2 5 hR.2.2.2.2.2.1
 have k6 : w3.cell? ⟨lb, 6, none⟩ = some (.int .u16 0) := cell_of_row2 hl2 6 hR.2.2.2.2.2.2.1
 have k7 : w3.cell? ⟨lb, 7, none⟩ = some (.string ⟨#[]⟩) := cell_of_row2 hl2 7 hR.2.2.2.2.2.2.2.1
 have k8 : w3.cell? ⟨lb, 8, none⟩ = some (.int .u64 0) := cell_of_row2 hl2 8 hR.2.2.2.2.2.2.2.2
 have b4 := below_1 w3 (.cells #[.int .u8 2, .int .u32 16777217, .int .u32 1, .string ⟨#[97]⟩, .int .u32 0, .string ⟨#[]⟩, .int .u16 0, .string ⟨#[]⟩, .int .u64 0] 113)
 have g4 := heap_alloc_new w3 (.cells #[.int .u8 2, .int .u32 16777217, .int .u32 1, .string ⟨#[97]⟩, .int .u32 0, .string ⟨#[]⟩, .int .u16 0, .string ⟨#[]⟩, .int .u64 0] 113)
 have q4 := cell_later b4 q2
 have C4 := hid (cell_later b4 c2)
 have HO := hid (map_later g3 b4)
 have B4 := hid (B2.out.trans (b4.mono B2.out.size))
 have e0 : (w3.alloc (.cells #[.int .u8 2, .int .u32 16777217, .int .u32 1, .string ⟨#[97]⟩, .int .u32 0, .string ⟨#[]⟩, .int .u16 0, .string ⟨#[]⟩, .int .u64 0] 113)).cell? ⟨w3.heap.size, 0, none⟩ = some (.int .u8 2) := cell_of_row2 g4 0 rfl
 have e1 : (w3.alloc (.cells #[.int .u8 2, .int .u32 16777217, .int .u32 1, .string ⟨#[97]⟩, .int .u32 0, .string ⟨#[]⟩, .int .u16 0, .string ⟨#[]⟩, .int .u64 0] 113)).cell? ⟨w3.heap.size, 1, none⟩ = some (.int .u32 16777217) := cell_of_row2 g4 1 rfl
 obtain ⟨y, hy⟩ := ky_some
 have HY := hid hy
 clear hl hl0 hl1 hl2 hR c0 c1 g0 g1 g2 g3 g4 b0 b1 b2 b4 s0 s1 q2 hmm hy
 go_wp2
 refine wp_loop_rounds 2 ?_
 rw [rounds_succ]
 go_wp2_with (at_mapUpdate; refine wpList_mapUpdate_own _ rfl _ _ _ 204 rfl 206 3 setting_keyed Tryz.underlying204 _ (w.heap.size + 1) 0 (.map []) rfl HO.out (by unfold maxLen; omega) _ _ y rfl rfl HY.out (.lit (.int .i64 0)) [] (plainElem_int Tryz.underlying3 (by decide)) ?_; intro w9 hown9 hgrow9)
 have C9 := hid (cell_grownC hgrow9 (by omega) C4.out)
 have B9 := hid (Below.grown B4.out hgrow9 B4.out.size (fun k hk => by cases hk; omega))
 clear hown9 hgrow9
 rw [rounds_succ]
 go_wp2
 go_ret
 exact ⟨_, _, rfl, C9.out, B9.out⟩
theorem infoBo : (Tryz.prog.info? 4).map (fun i => (i.zero, i.size, i.bytes)) = some (some (.bool false), 1, 1) := by kernel_rfl
theorem infoIn : (Tryz.prog.info? 3).map (fun i => (i.zero, i.size, i.bytes)) = some (some (.int .i64 0), 1, 8) := by kernel_rfl
def SrP (w : World) (S G X lb lc : Nat) : Prop := w.heap[S]? = some (.cells #[.slice (some ⟨lb, 0, none⟩) 1 lc, .slice (some ⟨G, 0, none⟩) 1 1, .slice (some ⟨X, 0, none⟩) 1 1] 214 (0, 0)) ∧ w.heap[G]? = some (.cells #[.bool false] 4 (0, 0)) ∧ w.heap[X]? = some (.cells #[.int .i64 1] 3 (0, 0))
theorem SrP.later {w w' : World} {S G X lb lc : Nat} (h : SrP w S G X lb lc) (hb : Below w.heap.size w w') : SrP w' S G X lb lc :=
 ⟨(hb.block _ (lt_blkR h.1)).trans h.1, (hb.block _ (lt_blkR h.2.1)).trans h.2.1, (hb.block _ (lt_blkR h.2.2)).trans h.2.2⟩
set_option maxRecDepth 20000 in
set_option maxHeartbeats 2000000 in
theorem ns_c (w : World) (lb lc : Nat) : Calls Tryz.prog 129 #[.slice (some ⟨lb, 0, none⟩) 1 lc] w fun e w' => ∃ S G X, e = .returned (.pointer (some ⟨S, 0, none⟩)) ∧ SrP w' S G X lb lc ∧ Below w.heap.size w w' := by
 have hk1 : ∀ W : World, (Instr.makeSlice 212 (.int .i64 1) (.int .i64 1)).run Tryz.prog W = .ok (.slice (some ⟨W.heap.size, 0, none⟩) 1 1) (W.alloc (.cells #[.bool false] 4)) := fun W => by
   have := run_make_row' (P := Tryz.prog) 212 4 (.bool false) 1 Tryz.underlying212 infoBo rfl .i64 .i64 1 (by omega) (by omega) W
   rw [made_repE] at this
   exact this
 have hk2 : ∀ W : World, (Instr.makeSlice 24 (.int .i64 1) (.int .i64 1)).run Tryz.prog W = .ok (.slice (some ⟨W.heap.size, 0, none⟩) 1 1) (W.alloc (.cells #[.int .i64 0] 3)) := fun W => by
   have := run_make_row' (P := Tryz.prog) 24 3 (.int .i64 0) 8 Tryz.underlying24 infoIn rfl .i64 .i64 1 (by omega) (by omega) W
   rw [made_repE] at this
   exact this
 go_enter Tryz.func129, Tryz.ntmps129
 go_wp2
 go_region
 · have a1 := below_1 w (.cells #[.bool false] 4)
   have a2 := below_1 (w.alloc (.cells #[.bool false] 4)) (.cells #[.int .i64 0] 3)
   have a3 := below_1 ((w.alloc (.cells #[.bool false] 4)).alloc (.cells #[.int .i64 0] 3)) (.cells #[.slice (some ⟨lb, 0, none⟩) 1 lc, .slice (some ⟨w.heap.size, 0, none⟩) 1 1, .slice (some ⟨w.heap.size + 1, 0, none⟩) 1 1] 214)
   have h1 := heap_alloc_new w (.cells #[.bool false] 4)
   have h2 := heap_alloc_new (w.alloc (.cells #[.bool false] 4)) (.cells #[.int .i64 0] 3)
   have h3 := heap_alloc_new ((w.alloc (.cells #[.bool false] 4)).alloc (.cells #[.int .i64 0] 3)) (.cells #[.slice (some ⟨lb, 0, none⟩) 1 lc, .slice (some ⟨w.heap.size, 0, none⟩) 1 1, .slice (some ⟨w.heap.size + 1, 0, none⟩) 1 1] 214)
   have z1 : (w.alloc (.cells #[.bool false] 4)).heap.size = w.heap.size + 1 := by simp
   have z2 : ((w.alloc (.cells #[.bool false] 4)).alloc (.cells #[.int .i64 0] 3)).heap.size = w.heap.size + 1 + 1 := by simp
   rw [z1] at h2
   rw [z2] at h3
   have y1 : (((w.alloc (.cells #[.bool false] 4)).alloc (.cells #[.int .i64 0] 3)).alloc (.cells #[.slice (some ⟨lb, 0, none⟩) 1 lc, .slice (some ⟨w.heap.size, 0, none⟩) 1 1, .slice (some ⟨w.heap.size + 1, 0, none⟩) 1 1] 214)).drew.heap[w.heap.size]? = _ := (a3.block _ (by omega)).trans ((a2.block _ (by omega)).trans h1)
   have y2 : (((w.alloc (.cells #[.bool false] 4)).alloc (.cells #[.int .i64 0] 3)).alloc (.cells #[.slice (some ⟨lb, 0, none⟩) 1 lc, .slice (some ⟨w.heap.size, 0, none⟩) 1 1, .slice (some ⟨w.heap.size + 1, 0, none⟩) 1 1] 214)).drew.heap[w.heap.size + 1]? = _ := (a3.block _ (by omega)).trans h2
   have y3 : (((w.alloc (.cells #[.bool false] 4)).alloc (.cells #[.int .i64 0] 3)).alloc (.cells #[.slice (some ⟨lb, 0, none⟩) 1 lc, .slice (some ⟨w.heap.size, 0, none⟩) 1 1, .slice (some ⟨w.heap.size + 1, 0, none⟩) 1 1] 214)).drew.heap[w.heap.size + 1 + 1]? = _ := h3
   have B3 := hid (Below.drew ((a1.trans (a2.mono a1.size)).trans (a3.mono (by omega))))
   have e0 : (((w.alloc (.cells #[.bool false] 4)).alloc (.cells #[.int .i64 0] 3)).alloc (.cells #[.slice (some ⟨lb, 0, none⟩) 1 lc, .slice (some ⟨w.heap.size, 0, none⟩) 1 1, .slice (some ⟨w.heap.size + 1, 0, none⟩) 1 1] 214)).drew.heap = (((w.alloc (.cells #[.bool false] 4)).alloc (.cells #[.int .i64 0] 3)).alloc (.cells #[.slice (some ⟨lb, 0, none⟩) 1 lc, .slice (some ⟨w.heap.size, 0, none⟩) 1 1, .slice (some ⟨w.heap.size + 1, 0, none⟩) 1 1] 214)).heap := rfl
   clear a1 a2 a3 h1 h2 h3 z1 z2 e0
   generalize (((w.alloc (.cells #[.bool false] 4)).alloc (.cells #[.int .i64 0] 3)).alloc (.cells #[.slice (some ⟨lb, 0, none⟩) 1 lc, .slice (some ⟨w.heap.size, 0, none⟩) 1 1, .slice (some ⟨w.heap.size + 1, 0, none⟩) 1 1] 214)).drew = V at *
   have c0 : V.cell? ⟨w.heap.size + 1 + 1, 0, none⟩ = some (.slice (some ⟨lb, 0, none⟩) 1 lc) := cell_of_row2 y3 0 rfl
   have c2 : V.cell? ⟨w.heap.size + 1 + 1, 2, none⟩ = some (.slice (some ⟨w.heap.size + 1, 0, none⟩) 1 1) := cell_of_row2 y3 2 rfl
   have cx : V.cell? ⟨w.heap.size + 1, 0, none⟩ = some (.int .i64 0) := cell_of_row2 y2 0 rfl
   have fz : ∀ i, V.frozen? ⟨w.heap.size + 1, i, none⟩ = false := fun i => (by simp [World.frozen?, y2])
   go_wp2
   refine wp_loop_rounds 2 ?_
   rw [rounds_succ]
   go_wp2
   have O4 : Ou (fun k => k = w.heap.size + 1) V (V.setCell ⟨w.heap.size + 1, 0, none⟩ (.int .i64 1)) := (Ou.of (S := fun k => k = w.heap.size + 1) (Below.refl _ _)).set rfl
   have q1 : (V.setCell ⟨w.heap.size + 1, 0, none⟩ (.int .i64 1)).heap[w.heap.size + 1]? = some (.cells #[.int .i64 1] 3 (0, 0)) := heap_setCell_same V (w.heap.size + 1) 0 _ _ _ y2
   have q2 := (O4.block (w.heap.size) (lt_blkR y1) (by omega)).trans y1
   have q3 := (O4.block (w.heap.size + 1 + 1) (lt_blkR y3) (by omega)).trans y3
   have B4 := hid (B3.out.trans (O4.below B3.out.size (fun k e => by omega)))
   clear cx fz O4 y1 y2 y3 c0 c2
   generalize (V.setCell ⟨w.heap.size + 1, 0, none⟩ (.int .i64 1)) = V2 at *
   rw [rounds_succ]
   go_wp2
   go_ret
   exact ⟨_, _, _, rfl, ⟨q3, q2, q1⟩, B4.out⟩
 · have a1 := below_1 w (.cells #[.int .i64 0] 3)
   have a2 := below_1 (w.alloc (.cells #[.int .i64 0] 3)) (.cells #[.bool false] 4)
   have a3 := below_1 ((w.alloc (.cells #[.int .i64 0] 3)).alloc (.cells #[.bool false] 4)) (.cells #[.slice (some ⟨lb, 0, none⟩) 1 lc, .slice (some ⟨w.heap.size + 1, 0, none⟩) 1 1, .slice (some ⟨w.heap.size, 0, none⟩) 1 1] 214)
   have h1 := heap_alloc_new w (.cells #[.int .i64 0] 3)
   have h2 := heap_alloc_new (w.alloc (.cells #[.int .i64 0] 3)) (.cells #[.bool false] 4)
   have h3 := heap_alloc_new ((w.alloc (.cells #[.int .i64 0] 3)).alloc (.cells #[.bool false] 4)) (.cells #[.slice (some ⟨lb, 0, none⟩) 1 lc, .slice (some ⟨w.heap.size + 1, 0, none⟩) 1 1, .slice (some ⟨w.heap.size, 0, none⟩) 1 1] 214)
   have z1 : (w.alloc (.cells #[.int .i64 0] 3)).heap.size = w.heap.size + 1 := by simp
   have z2 : ((w.alloc (.cells #[.int .i64 0] 3)).alloc (.cells #[.bool false] 4)).heap.size = w.heap.size + 1 + 1 := by simp
   rw [z1] at h2
   rw [z2] at h3
   have y1 : (((w.alloc (.cells #[.int .i64 0] 3)).alloc (.cells #[.bool false] 4)).alloc (.cells #[.slice (some ⟨lb, 0, none⟩) 1 lc, .slice (some ⟨w.heap.size + 1, 0, none⟩) 1 1, .slice (some ⟨w.heap.size, 0, none⟩) 1 1] 214)).drew.heap[w.heap.size]? = _ := (a3.block _ (by omega)).trans ((a2.block _ (by omega)).trans h1)
   have y2 : (((w.alloc (.cells #[.int .i64 0] 3)).alloc (.cells #[.bool false] 4)).alloc (.cells #[.slice (some ⟨lb, 0, none⟩) 1 lc, .slice (some ⟨w.heap.size + 1, 0, none⟩) 1 1, .slice (some ⟨w.heap.size, 0, none⟩) 1 1] 214)).drew.heap[w.heap.size + 1]? = _ := (a3.block _ (by omega)).trans h2
   have y3 : (((w.alloc (.cells #[.int .i64 0] 3)).alloc (.cells #[.bool false] 4)).alloc (.cells #[.slice (some ⟨lb, 0, none⟩) 1 lc, .slice (some ⟨w.heap.size + 1, 0, none⟩) 1 1, .slice (some ⟨w.heap.size, 0, none⟩) 1 1] 214)).drew.heap[w.heap.size + 1 + 1]? = _ := h3
   have B3 := hid (Below.drew ((a1.trans (a2.mono a1.size)).trans (a3.mono (by omega))))
   have e0 : (((w.alloc (.cells #[.int .i64 0] 3)).alloc (.cells #[.bool false] 4)).alloc (.cells #[.slice (some ⟨lb, 0, none⟩) 1 lc, .slice (some ⟨w.heap.size + 1, 0, none⟩) 1 1, .slice (some ⟨w.heap.size, 0, none⟩) 1 1] 214)).drew.heap = (((w.alloc (.cells #[.int .i64 0] 3)).alloc (.cells #[.bool false] 4)).alloc (.cells #[.slice (some ⟨lb, 0, none⟩) 1 lc, .slice (some ⟨w.heap.size + 1, 0, none⟩) 1 1, .slice (some ⟨w.heap.size, 0, none⟩) 1 1] 214)).heap := rfl
   clear a1 a2 a3 h1 h2 h3 z1 z2 e0
   generalize (((w.alloc (.cells #[.int .i64 0] 3)).alloc (.cells #[.bool false] 4)).alloc (.cells #[.slice (some ⟨lb, 0, none⟩) 1 lc, .slice (some ⟨w.heap.size + 1, 0, none⟩) 1 1, .slice (some ⟨w.heap.size, 0, none⟩) 1 1] 214)).drew = V at *
   have c0 : V.cell? ⟨w.heap.size + 1 + 1, 0, none⟩ = some (.slice (some ⟨lb, 0, none⟩) 1 lc) := cell_of_row2 y3 0 rfl
   have c2 : V.cell? ⟨w.heap.size + 1 + 1, 2, none⟩ = some (.slice (some ⟨w.heap.size, 0, none⟩) 1 1) := cell_of_row2 y3 2 rfl
   have cx : V.cell? ⟨w.heap.size, 0, none⟩ = some (.int .i64 0) := cell_of_row2 y1 0 rfl
   have fz : ∀ i, V.frozen? ⟨w.heap.size, i, none⟩ = false := fun i => (by simp [World.frozen?, y1])
   go_wp2
   refine wp_loop_rounds 2 ?_
   rw [rounds_succ]
   go_wp2
   have O4 : Ou (fun k => k = w.heap.size) V (V.setCell ⟨w.heap.size, 0, none⟩ (.int .i64 1)) := (Ou.of (S := fun k => k = w.heap.size) (Below.refl _ _)).set rfl
   have q1 : (V.setCell ⟨w.heap.size, 0, none⟩ (.int .i64 1)).heap[w.heap.size]? = some (.cells #[.int .i64 1] 3 (0, 0)) := heap_setCell_same V (w.heap.size) 0 _ _ _ y1
   have q2 := (O4.block (w.heap.size + 1) (lt_blkR y2) (by omega)).trans y2
   have q3 := (O4.block (w.heap.size + 1 + 1) (lt_blkR y3) (by omega)).trans y3
   have B4 := hid (B3.out.trans (O4.below B3.out.size (fun k e => by omega)))
   clear cx fz O4 y1 y2 y3 c0 c2
   generalize (V.setCell ⟨w.heap.size, 0, none⟩ (.int .i64 1)) = V2 at *
   rw [rounds_succ]
   go_wp2
   go_ret
   exact ⟨_, _, _, rfl, ⟨q3, q2, q1⟩, B4.out⟩
set_option maxHeartbeats 4000000 in
theorem pr_c {w : World} (S G X lb lc : Nat) (cur : Array Value) (h : SrP w S G X lb lc) (hl : w.heap[lb]? = some (.cells cur 113 (0, 0))) (hR : R9 cur oM) :
   Calls Tryz.prog 130 #[.pointer (some ⟨S, 0, none⟩)] w fun e w' => e = .returned (.tuple #[.int .i64 0, .int .i64 0, .bool false]) ∧ Below w.heap.size w w' := by
 obtain ⟨h1, h2, h3⟩ := h
 have k0 : w.cell? ⟨lb, 0, none⟩ = some (.int .u8 2) := cell_of_row2 hl 0 hR.1
 have s0 : w.cell? ⟨S, 0, none⟩ = some (.slice (some ⟨lb, 0, none⟩) 1 lc) := cell_of_row2 h1 0 rfl
 have s1 : w.cell? ⟨S, 1, none⟩ = some (.slice (some ⟨G, 0, none⟩) 1 1) := cell_of_row2 h1 1 rfl
 have g0 : w.cell? ⟨G, 0, none⟩ = some (.bool false) := cell_of_row2 h2 0 rfl
 have MC := hid (fun W => makes2_c W)
 have H1 : w.drew.heap[S]? = _ := h1
 have H3 : w.drew.heap[X]? = _ := h3
 have b9 : Below w.heap.size w w.drew := Below.drew (Below.refl _ _)
 clear hl hR h1 h2 h3
 go_enter Tryz.func130, Tryz.ntmps130
 go_wp2
 go_step3
 go_wp2
 go_step3
 go_wp2
 refine wp_loop_rounds 2 ?_
 rw [rounds_succ]
 go_wp2_with (go_at_call 187; refine (MC.out _).mono ?_; rintro _ wz ⟨rfl, hwz⟩; rw [hwz]; clear hwz)
 refine wp_loop_rounds 1 ?_
 rw [rounds_succ]
 go_wp2_with fail
 refine wp_region_held_drew (S := fun w' => w'.heap[S]? = some (.cells #[.slice (some ⟨lb, 0, none⟩) 1 lc, .slice (some ⟨G, 0, none⟩) 1 1, .slice (some ⟨X, 0, none⟩) 1 1] 214 (0, 0)) ∧ w'.heap[X]? = some (.cells #[.int .i64 1] 3 (0, 0))) (by kernel_rfl) ⟨H1, H3⟩ (fun hHeld => ?_)
 refine take_l 0 (v := ?_) rfl (by kernel_rfl) (by kernel_rfl) (by kernel_rfl) (fun _ _ _ h => h) (Or.inl ⟨by rfl, ?_⟩) (by assumption) ?_
 rotate_left
 · (intro w' hSw; clear hSw; go_simp; first | done | with_reducible rfl)
 try simp only [Act.put, List.setIfInBounds_toArray, List.set_cons_zero, List.set_cons_succ]
 refine take_l 1 (v := ?_) rfl (by kernel_rfl) (by kernel_rfl) (by kernel_rfl) (fun _ _ _ h => h) (Or.inl ⟨by rfl, ?_⟩) (by assumption) ?_
 rotate_left
 · (intro w' hSw; clear hSw; go_simp; first | done | with_reducible rfl)
 try simp only [Act.put, List.setIfInBounds_toArray, List.set_cons_zero, List.set_cons_succ]
 refine take_l 2 (v := ?_) rfl (by kernel_rfl) (by kernel_rfl) (by kernel_rfl) (fun _ _ _ h => h) (Or.inl ⟨by rfl, ?_⟩) (by assumption) ?_
 rotate_left
 · (intro w' hSw; clear hSw; go_simp; first | done | with_reducible rfl)
 try simp only [Act.put, List.setIfInBounds_toArray, List.set_cons_zero, List.set_cons_succ]
 refine take_l 3 (v := ?_) rfl (by kernel_rfl) (by kernel_rfl) (by kernel_rfl) (fun _ _ _ h => h) (Or.inl ⟨by rfl, ?_⟩) (by assumption) ?_
 rotate_left
 · (intro w' hSw; have y2 : w'.cell? ⟨S, 2, none⟩ = some (.slice (some ⟨X, 0, none⟩) 1 1) := cell_of_row2 hSw.1 2 rfl; clear hSw; go_simp; first | done | with_reducible rfl)
 try simp only [Act.put, List.setIfInBounds_toArray, List.set_cons_zero, List.set_cons_succ]
 refine take_l 4 (v := ?_) rfl (by kernel_rfl) (by kernel_rfl) (by kernel_rfl) (fun _ _ _ h => h) (Or.inl ⟨by rfl, ?_⟩) (by assumption) ?_
 rotate_left
 · (intro w' hSw; clear hSw; go_simp; first | done | with_reducible rfl)
 try simp only [Act.put, List.setIfInBounds_toArray, List.set_cons_zero, List.set_cons_succ]
 refine take_l 5 (v := ?_) rfl (by kernel_rfl) (by kernel_rfl) (by kernel_rfl) (fun _ _ _ h => h) (Or.inl ⟨by rfl, ?_⟩) (by assumption) ?_
 rotate_left
 · (intro w' hSw; clear hSw; go_simp; first | done | with_reducible rfl)
 try simp only [Act.put, List.setIfInBounds_toArray, List.set_cons_zero, List.set_cons_succ]
 refine take_l 6 (v := ?_) rfl (by kernel_rfl) (by kernel_rfl) (by kernel_rfl) (fun _ _ _ h => h) (Or.inl ⟨by rfl, ?_⟩) (by assumption) ?_
 rotate_left
 · (intro w' hSw; have yx : w'.cell? ⟨X, 0, none⟩ = some (.int .i64 1) := cell_of_row2 hSw.2 0 rfl; clear hSw; go_simp; first | done | with_reducible rfl)
 try simp only [Act.put, List.setIfInBounds_toArray, List.set_cons_zero, List.set_cons_succ]
 refine take_l 7 (v := ?_) rfl (by kernel_rfl) (by kernel_rfl) (by kernel_rfl) (fun _ _ _ h => h) (Or.inl ⟨by rfl, ?_⟩) (by assumption) ?_
 rotate_left
 · (intro w' hSw; clear hSw; go_simp; first | done | with_reducible rfl)
 try simp only [Act.put, List.setIfInBounds_toArray, List.set_cons_zero, List.set_cons_succ]
 refine take_l 8 (v := ?_) rfl (by kernel_rfl) (by kernel_rfl) (by kernel_rfl) (fun _ _ _ h => h) (Or.inl ⟨by rfl, ?_⟩) (by assumption) ?_
 rotate_left
 · (intro w' hSw; clear hSw; go_simp; first | done | with_reducible rfl)
 try simp only [Act.put, List.setIfInBounds_toArray, List.set_cons_zero, List.set_cons_succ]
 refine take_l 9 (v := ?_) rfl (by kernel_rfl) (by kernel_rfl) (by kernel_rfl) (fun _ _ _ h => h) (Or.inl ⟨by rfl, ?_⟩) (by assumption) ?_
 rotate_left
 · (intro w' hSw; clear hSw; go_simp; first | done | with_reducible rfl)
 try simp only [Act.put, List.setIfInBounds_toArray, List.set_cons_zero, List.set_cons_succ]
 refine take_l 10 (v := ?_) rfl (by kernel_rfl) (by kernel_rfl) (by kernel_rfl) (fun _ _ _ h => h) (Or.inl ⟨by rfl, ?_⟩) (by assumption) ?_
 rotate_left
 · (intro w' hSw; have y0 : w'.cell? ⟨S, 0, none⟩ = some (.slice (some ⟨lb, 0, none⟩) 1 lc) := cell_of_row2 hSw.1 0 rfl; clear hSw; go_simp; first | done | with_reducible rfl)
 try simp only [Act.put, List.setIfInBounds_toArray, List.set_cons_zero, List.set_cons_succ]
 refine take_l 11 (v := ?_) rfl (by kernel_rfl) (by kernel_rfl) (by kernel_rfl) (fun _ _ _ h => h) (Or.inl ⟨by rfl, ?_⟩) (by assumption) ?_
 rotate_left
 · (intro w' hSw; clear hSw; go_simp; first | done | with_reducible rfl)
 try simp only [Act.put, List.setIfInBounds_toArray, List.set_cons_zero, List.set_cons_succ]
 refine take_l 12 (v := ?_) rfl (by kernel_rfl) (by kernel_rfl) (by kernel_rfl) (fun _ _ _ h => h) (Or.inl ⟨by rfl, ?_⟩) (by assumption) ?_
 rotate_left
 · (intro w' hSw; clear hSw; go_simp; first | done | with_reducible rfl)
 try simp only [Act.put, List.setIfInBounds_toArray, List.set_cons_zero, List.set_cons_succ]
 refine wpAnyH_done (by kernel_rfl) ?_ _
 clear hHeld
 go_wp2
 rw [rounds_succ]
 go_wp2
 try rw [Exit.noGoto_ret]
 go_ret3
 exact ⟨rfl, b9⟩
set_option maxHeartbeats 4000000 in
theorem pd1_c {w : World} (S G X C lb lc : Nat) (h : SrP w S G X lb lc) (hC : w.cell? ⟨C, 0, none⟩ = some (.pointer (some ⟨S, 0, none⟩))) :
   Calls Tryz.prog 131 #[.int .i64 0, .pointer (some ⟨C, 0, none⟩)] w fun e w' => e = .returned (.bool false) ∧ Below w.heap.size w w' := by
 obtain ⟨h1, h2, h3⟩ := h
 have s1 : w.cell? ⟨S, 1, none⟩ = some (.slice (some ⟨G, 0, none⟩) 1 1) := cell_of_row2 h1 1 rfl
 have g0 : w.cell? ⟨G, 0, none⟩ = some (.bool false) := cell_of_row2 h2 0 rfl
 have b9 : Below w.heap.size w w := Below.refl _ _
 clear h1 h2 h3
 go_enter Tryz.func131, Tryz.ntmps131
 go_wp2
 go_ret
 exact ⟨rfl, b9⟩
set_option maxHeartbeats 4000000 in
theorem pd_c {w : World} (lb lc : Nat) (cur : Array Value) (hl : w.heap[lb]? = some (.cells cur 113 (0, 0))) (hR : R9 cur oM) :
   Calls Tryz.prog 66 #[.slice (some ⟨lb, 0, none⟩) 1 lc] w fun e w' => ∃ S G X C, e = .returned (.func (.func 131) #[] #[.pointer (some ⟨C, 0, none⟩)]) ∧ SrP w' S G X lb lc ∧ w'.cell? ⟨C, 0, none⟩ = some (.pointer (some ⟨S, 0, none⟩)) ∧ Below w.heap.size w w' := by
 have NC := hid (ns_c w lb lc)
 have PC := hid (fun (W : World) (hW : Below w.heap.size w W) S G X (hS : SrP W S G X lb lc) => pr_c (w := W) S G X lb lc cur hS ((hW.block _ (lt_blkR hl)).trans hl) hR)
 clear hl hR
 go_enter Tryz.func66, Tryz.ntmps66
 go_wp2_with (go_at_call 129; refine NC.out.mono ?_; rintro _ w1 ⟨S, G, X, rfl, hs1, hb1⟩; have S1 := hid hs1; have B1 := hid hb1; clear hs1 hb1)
 have b2 := below_1 w1 (.cells #[.pointer (some ⟨S, 0, none⟩)] 208)
 have g2 := heap_alloc_new w1 (.cells #[.pointer (some ⟨S, 0, none⟩)] 208)
 have S2 := hid (S1.out.later b2)
 have B2 := hid (B1.out.trans (b2.mono B1.out.size))
 clear b2
 generalize (w1.alloc (.cells #[.pointer (some ⟨S, 0, none⟩)] 208)) = V at *
 have c2 : V.cell? ⟨w1.heap.size, 0, none⟩ = some (.pointer (some ⟨S, 0, none⟩)) := cell_of_row2 g2 0 rfl
 have C2 := hid c2
 refine wp_loop_rounds 1 ?_
 rw [rounds_succ]
 go_wp2_with (go_at_call 130; refine (PC.out _ B2.out S G X S2.out).mono ?_; rintro _ w3 ⟨rfl, hb3⟩; have B3 := hid (B2.out.trans (hb3.mono B2.out.size)); have S3 := hid (S2.out.later hb3); have C3 := hid (cell_later hb3 C2.out); clear hb3)
 go_ret
 exact ⟨S, G, X, w1.heap.size, rfl, S3.out, C3.out, B3.out⟩
theorem opt1_c {w : World} (lb lc : Nat) (cur : Array Value) (hl : w.heap[lb]? = some (.cells cur 113 (0, 0))) (hR : R9 cur oM) : Calls Tryz.prog 29 #[.slice (some ⟨lb, 0, none⟩) 1 lc] w (R1P w) := by
 have NC := hid (nn_c lb lc cur hl hR)
 have WN := hid (fun (W : World) (hW : Below w.heap.size w W) P1 P2 (hP : W.cell? ⟨P1, 0, none⟩ = some (.slice (some ⟨lb, 0, none⟩) 1 lc)) => wo_n_c (w := W) lb lc cur ((hW.block _ (lt_blkR hl)).trans hl) hR P1 P2 (fun X hX => nn1_c (w := X) lb lc P1 P2 cur ((hX.block _ (lt_blkR ((hW.block _ (lt_blkR hl)).trans hl))).trans ((hW.block _ (lt_blkR hl)).trans hl)) hR (cell_later hX hP)))
 have PC := hid (fun (W : World) lb lc cur hl hR => pd_c (w := W) lb lc cur hl hR)
 have WP := hid (fun (W : World) lb lc cur hl hR S G X C (hS : SrP W S G X lb lc) (hC : W.cell? ⟨C, 0, none⟩ = some (.pointer (some ⟨S, 0, none⟩))) => wo_p_c (w := W) lb lc cur hl hR C (fun Y hY => pd1_c (w := Y) S G X C lb lc (hS.later hY) (cell_later hY hC)))
 clear hl hR
 unfold R1P at *
 go_enter Tryz.func29, Tryz.ntmps29
 go_upto_region 2 with (first
   | (go_at_call 64; refine (WN.out _ B1.out P1 P2 C1.out).mono ?_; rintro _ w2 ⟨lb2, lc2, cur2, rfl, hl2, hR2, hz2, hb2⟩; have L2 := hid hl2; have R2 := hid hR2; have B2 := hid (B1.out.trans (hb2.mono B1.out.size)); clear hl2 hR2 hz2 hb2)
   | (go_at_call 65; refine NC.out.mono ?_; rintro _ w1 ⟨P1, P2, rfl, hc1, hb1⟩; have C1 := hid hc1; have B1 := hid hb1; clear hc1 hb1))
 have PX := hid (PC.out w2 lb2 lc2 cur2 L2.out R2.out)
 go_wp2_with (first
   | (go_at_call 64; refine (WP.out w3 lb2 lc2 cur2 L3.out R2.out S G X C S3.out C3.out).mono ?_; rintro _ w4 ⟨lb4, lc4, cur4, rfl, hl4, hR4, hz4, hb4⟩; have L4 := hid hl4; have R4 := hid hR4; have Z4 := hid (Nat.le_trans B3.out.size hz4); have B4 := hid (B3.out.trans (hb4.mono B3.out.size)); clear hl4 hR4 hz4 hb4)
   | (go_at_call 66; refine PX.out.mono ?_; rintro _ w3 ⟨S, G, X, C, rfl, hs3, hc3, hb3⟩; have S3 := hid hs3; have C3 := hid hc3; have L3 := hid ((hb3.block _ (lt_blkR L2.out)).trans L2.out); have B3 := hid (B2.out.trans (hb3.mono B2.out.size)); clear hs3 hc3 hb3))
 go_ret
 exact ⟨lb4, lc4, cur4, rfl, L4.out, R4.out, Z4.out, B4.out⟩
theorem cut1a_c {w : World} (C : Nat) (hC : w.cell? ⟨C, 0, none⟩ = some (.int .i64 1)) : Calls Tryz.prog 73 #[.int .i64 0, .pointer (some ⟨C, 0, none⟩)] w fun e w' => e = .returned (.bool false) ∧ Below w.heap.size w w' := by
 have b9 : Below w.heap.size w w := Below.refl _ _
 go_enter Tryz.func73, Tryz.ntmps73
 go_wp2
 go_ret
 exact ⟨rfl, b9⟩
theorem cut1_c {w : World} (lb lc : Nat) (cur : Array Value) (hl : w.heap[lb]? = some (.cells cur 113 (0, 0))) (hR : R9 cur oM) : Calls Tryz.prog 32 #[.slice (some ⟨lb, 0, none⟩) 1 lc, .int .i64 1] w (R1P w) := by
 have b1 := below_1 w (.cells #[.int .i64 1] 3)
 have g1 := heap_alloc_new w (.cells #[.int .i64 1] 3)
 have c1 : (w.alloc (.cells #[.int .i64 1] 3)).cell? ⟨w.heap.size, 0, none⟩ = some (.int .i64 1) := cell_of_row2 g1 0 rfl
 have WC := hid (wo_c_c (w := w.alloc (.cells #[.int .i64 1] 3)) lb lc cur ((b1.block _ (lt_blkR hl)).trans hl) hR w.heap.size (fun X hX => cut1a_c w.heap.size (cell_later hX c1)))
 have B1 := hid b1
 clear hl hR b1 g1 c1
 unfold R1P at *
 go_enter Tryz.func32, Tryz.ntmps32
 go_wp2_with (go_at_call 64; refine WC.out.mono ?_; rintro _ w2 ⟨lb2, lc2, cur2, rfl, hl2, hR2, hz2, hb2⟩; have L2 := hid hl2; have R2 := hid hR2; have Z2 := hid (Nat.le_trans B1.out.size hz2); have B2 := hid (B1.out.trans (hb2.mono B1.out.size)); clear hl2 hR2 hz2 hb2)
 go_ret
 exact ⟨lb2, lc2, cur2, rfl, L2.out, R2.out, Z2.out, B2.out⟩
end Go.Proofs.YtfmghbennahlfaaGreat
