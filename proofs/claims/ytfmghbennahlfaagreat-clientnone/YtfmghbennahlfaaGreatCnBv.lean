/-
  
-/
import Derived.Test.YtfmghbennahlfaaGreatCnBr
import Derived.Test.YtfmghbennahlfaaGreatCnBu
import Derived.Test.YtfmghbennahlfaaGreatCnBt
import Derived.Test.YtfmghbennahlfaaGreatCnBd
namespace Go.Proofs.YtfmghbennahlfaaGreat
open Go.RowKit Go.ChangeShapes Go.WideShapes Go.ChangeAt Go.Maps Go.Shelf
set_option linter.unusedVariables false
set_option linter.unusedSimpArgs false
set_option maxRecDepth 100000
theorem info_recC : ∃ i : TypeInfo, Tryz.prog.info? 113 = some i ∧ i.zero = some Rec.no.recV ∧ i.size = 9 ∧ i.bytes = 88 := by
 have h : (Tryz.prog.info? 113).map (fun i => (i.zero, i.size, i.bytes)) = some (some Rec.no.recV, 9, 88) := by kernel_rfl
 cases hi : Tryz.prog.info? 113 with
 | none => rw [hi] at h; cases h
 | some i => rw [hi] at h; simp at h; exact ⟨i, rfl, h.1, h.2.1, h.2.2⟩
theorem rec_oneC : ∀ u ∈ ([.int .u8 2, .int .u32 16777217, .int .u32 1, .string ⟨#[97]⟩, .int .u32 0, .string ⟨#[]⟩, .int .u16 0, .string ⟨#[]⟩, .int .u64 0] : List Value), u.oneCell' = true := fun u hu => by
 simp at hu
 rcases hu with rfl | rfl | rfl | rfl | rfl | rfl | rfl | rfl | rfl <;> rfl
theorem below_undrew {B : Nat} {W w' : World} (h : Below B W.drew w') : Below B W w' := ⟨h.os, h.tape, h.output, h.size, h.block⟩
theorem step_appR (w : World) {ops : Array Oper} {o : Oper} {a : Act} {K : Act → World → Prop} {Q : Exit → Act → World → Prop} {E : Prop} (hgd : o.guard = none) (s x : Operand)
   (ho : o.op = .call { callee := .builtin .append, args := #[s, x], argTypes := #[51, 51] }) (base : Nat) (hs : a.eval s = .slice none 0 0)
   (q : Nat) (hx : a.eval x = .slice (some ⟨q, 0, none⟩) 1 1) (hq : w.heap[q]? = some (.cells #[.int .u8 2, .int .u32 16777217, .int .u32 1, .string ⟨#[97]⟩, .int .u32 0, .string ⟨#[]⟩, .int .u16 0, .string ⟨#[]⟩, .int .u64 0] 113 (0, 0))) (hbase : base ≤ w.heap.size)
   (h : ∀ v' w', w'.ownsRow base 113 9 v' 1 [.int .u8 2, .int .u32 16777217, .int .u32 1, .string ⟨#[97]⟩, .int .u32 0, .string ⟨#[]⟩, .int .u16 0, .string ⟨#[]⟩, .int .u64 0] → w.grownBy w' none → K (a.put o.dst v') w') :
   if Region.wanted o (yielded ops a.tmps) = true then Oper.wp Tryz.prog o a w K Q else E := by
 rw [if_pos (by simp [Region.wanted, hgd])]
 obtain ⟨i0, hi, hz0, hz1, hz2⟩ := info_recC
 refine wp_append_own w s x 51 ho base 113 i0 Rec.no.recV 9 88 Tryz.underlying51 hi hz0 hz1 hz2 rfl (by decide) _ 0 [] hs (World.ownsRow_nil _ _ _ _) ⟨q, 0, none⟩ 1 1 [.int .u8 2, .int .u32 16777217, .int .u32 1, .string ⟨#[97]⟩, .int .u32 0, .string ⟨#[]⟩, .int .u16 0, .string ⟨#[]⟩, .int .u64 0] hx rfl (row_news (l := [.int .u8 2, .int .u32 16777217, .int .u32 1, .string ⟨#[97]⟩, .int .u32 0, .string ⟨#[]⟩, .int .u16 0, .string ⟨#[]⟩, .int .u64 0]) hq) rec_oneC (by unfold maxLen; omega) (by omega) hbase ?_
 intro v' w' h1 h2 _
 exact h v' w' h1 h2
theorem own_rec1 {w : World} {base : Nat} {v : Value} (h : w.ownsRow base 113 9 v 1 [.int .u8 2, .int .u32 16777217, .int .u32 1, .string ⟨#[97]⟩, .int .u32 0, .string ⟨#[]⟩, .int .u16 0, .string ⟨#[]⟩, .int .u64 0]) : ∃ lb cap cur, v = .slice (some ⟨lb, 0, none⟩) 1 cap ∧ base ≤ lb ∧ w.heap[lb]? = some (.cells cur 113 (0, 0)) ∧ R9 cur oM := by
 rcases h.2 with ⟨_, e2⟩ | ⟨g, cap, cur, e1, hb, hg, hn, hc, hs, ht⟩
 · cases e2
 · refine ⟨g, cap, cur, e1, hb, hg, ?_⟩
   have key : ∀ (j : Nat) (u : Value), j < 9 → [.int .u8 2, .int .u32 16777217, .int .u32 1, .string ⟨#[97]⟩, .int .u32 0, .string ⟨#[]⟩, .int .u16 0, .string ⟨#[]⟩, .int .u64 0][j]? = some u → cur[j]? = some u := fun j u hj hu => by
     rw [← ht, List.getElem?_take, if_pos (by omega)] at hu
     rw [← Array.getElem?_toList]; exact hu
   exact ⟨key 0 _ (by decide) rfl, key 1 _ (by decide) rfl, key 2 _ (by decide) rfl, key 3 _ (by decide) rfl, key 4 _ (by decide) rfl, key 5 _ (by decide) rfl, key 6 _ (by decide) rfl, key 7 _ (by decide) rfl, key 8 _ (by decide) rfl⟩
theorem cloneR_nil (w : World) : Calls Tryz.prog 47 #[.slice none 0 0] w fun e w' => e = .returned (.slice none 0 0) ∧ Below w.heap.size w w' := by
 have hq : ∀ w, (binOp .eql 51 (.slice none 0 0) (.slice none 0 0)).run Tryz.prog w = .ok (.bool true) w := fun w => Lib.run_eql_slice_nil w _ _ _ _ _ _ _ Tryz.underlying51
 go_enter Tryz.func47, Tryz.ntmps47
 go_wp2
 go_ret
 exact ⟨rfl, Below.refl _ _⟩
theorem cmakes_c (w : World) : Calls Tryz.prog 142 #[.int .u8 2] w fun e w' => e = .returned (.bool true) ∧ w' = w := by
 go_enter Tryz.func142, Tryz.ntmps142
 go_wp2
 go_ret
 exact ⟨rfl, rfl⟩
def WrP (nb g s : Nat) (zf dn : Int) (w : World) (e : Ending) (w' : World) : Prop := e = .returned (.tuple #[]) ∧ ∃ lb lc cur, w'.heap[nb]? = some (.cells #[.slice (some ⟨g, 0, none⟩) 1 1, .slice (some ⟨s, 0, none⟩) 1 1, .slice (some ⟨lb, 0, none⟩) 1 lc, .int .i64 zf, .int .u32 dn, .int .u32 2, .slice none 0 0] 77 (0, 0)) ∧ w'.heap[lb]? = some (.cells cur 113 (0, 0)) ∧ R9 cur oM ∧ w.heap.size ≤ lb ∧ Ou (fun k => k = nb) w w'
set_option maxHeartbeats 4000000 in
theorem cwrite_c {w : World} (nb g s : Nat) (zf dn : Int) (hrow : w.heap[nb]? = some (.cells #[.slice (some ⟨g, 0, none⟩) 1 1, .slice (some ⟨s, 0, none⟩) 1 1, .slice none 0 0, .int .i64 zf, .int .u32 dn, .int .u32 1, .slice none 0 0] 77 (0, 0))) (hs : w.heap[s]? = some (.cells #[.int .u32 1, .int .u64 1, .int .u8 0] 200 (0, 0))) :
   Calls Tryz.prog 77 #[.pointer (some ⟨nb, 0, none⟩), .agg #[.int .u8 2, .int .u32 16777217, .int .u32 1, .string ⟨#[97]⟩, .int .u32 0, .string ⟨#[]⟩, .int .u16 0, .string ⟨#[]⟩]] w (WrP nb g s zf dn w) := by
 have b0 := below_1 w (.cells #[.int .u8 2, .int .u32 16777217, .int .u32 1, .string ⟨#[97]⟩, .int .u32 0, .string ⟨#[]⟩, .int .u16 0, .string ⟨#[]⟩] 111)
 have g0 := heap_alloc_new w (.cells #[.int .u8 2, .int .u32 16777217, .int .u32 1, .string ⟨#[97]⟩, .int .u32 0, .string ⟨#[]⟩, .int .u16 0, .string ⟨#[]⟩] 111)
 have r0 := (b0.block _ (lt_blkR hrow)).trans hrow
 have s0 := (b0.block _ (lt_blkR hs)).trans hs
 have hnl := lt_blkR hrow
 have v5 : (w.alloc (.cells #[.int .u8 2, .int .u32 16777217, .int .u32 1, .string ⟨#[97]⟩, .int .u32 0, .string ⟨#[]⟩, .int .u16 0, .string ⟨#[]⟩] 111)).cell? ⟨nb, 0 + 1, none⟩ = some (.slice (some ⟨s, 0, none⟩) 1 1) := cell_of_row2 r0 1 rfl
 have VC := hid (version_c nb 0 s 16777217 v5 s0)
 have CC := hid (fun W => cloneR_nil W)
 have MC := hid (fun W => cmakes_c W)
 have SZ : (w.alloc (.cells #[.int .u8 2, .int .u32 16777217, .int .u32 1, .string ⟨#[97]⟩, .int .u32 0, .string ⟨#[]⟩, .int .u16 0, .string ⟨#[]⟩] 111)).heap.size = w.heap.size + 1 := by simp
 have o1 : (w.alloc (.cells #[.int .u8 2, .int .u32 16777217, .int .u32 1, .string ⟨#[97]⟩, .int .u32 0, .string ⟨#[]⟩, .int .u16 0, .string ⟨#[]⟩] 111)).cell? ⟨w.heap.size, 1, none⟩ = some (.int .u32 16777217) := cell_of_row2 g0 1 rfl
 have B0 := hid b0
 clear b0 s0 v5 hs
 go_enter Tryz.func77, Tryz.ntmps77
 go_upto_region 1 with fail
 generalize (w.alloc (.cells #[.int .u8 2, .int .u32 16777217, .int .u32 1, .string ⟨#[97]⟩, .int .u32 0, .string ⟨#[]⟩, .int .u16 0, .string ⟨#[]⟩] 111)) = V at *
 go_upto_region 2 with (go_at_call 61; refine VC.out.mono ?_; rintro _ w1 ⟨rfl, hb1⟩; have B1 := hid hb1; have r1 := (hb1.block _ (lt_blkR r0)).trans r0; have g1 := (hb1.block _ (lt_blkR g0)).trans g0; clear hb1)
 have BD : Hid (Below w.heap.size w w1.drew) := hid (Below.drew (B0.out.trans (B1.out.mono B0.out.size)))
 have hr1 : w1.drew.heap[nb]? = _ := r1
 have hg1 : w1.drew.heap[w.heap.size]? = _ := g1
 have KP : Hid (∀ W, Below w1.heap.size w1.drew W → W.heap[nb]? = some (.cells #[.slice (some ⟨g, 0, none⟩) 1 1, .slice (some ⟨s, 0, none⟩) 1 1, .slice none 0 0, .int .i64 zf, .int .u32 dn, .int .u32 1, .slice none 0 0] 77 (0, 0)) ∧ W.heap[w.heap.size]? = some (.cells #[.int .u8 2, .int .u32 16777217, .int .u32 1, .string ⟨#[97]⟩, .int .u32 0, .string ⟨#[]⟩, .int .u16 0, .string ⟨#[]⟩] 111 (0, 0))) := hid (fun W hW => ⟨(hW.block _ (lt_blkR r1)).trans r1, (hW.block _ (lt_blkR g1)).trans g1⟩)
 clear o1 r0 g0
 go_wp2_with fail
 refine wp_region_held_drew (S := fun w' => w'.heap[w.heap.size]? = some (.cells #[.int .u8 2, .int .u32 16777217, .int .u32 1, .string ⟨#[97]⟩, .int .u32 0, .string ⟨#[]⟩, .int .u16 0, .string ⟨#[]⟩] 111 (0, 0))) (by kernel_rfl) hg1 (fun hHeld => ?_)
 refine take_l 0 (v := ?_) rfl (by kernel_rfl) (by kernel_rfl) (by kernel_rfl) (fun _ _ _ h => h) (Or.inl ⟨by rfl, ?_⟩) (by assumption) ?_
 rotate_left
 · (intro w' hSw; clear hSw; go_simp; first | done | with_reducible rfl)
 try simp only [Act.put, List.setIfInBounds_toArray, List.set_cons_zero, List.set_cons_succ]
 refine take_l 1 (v := ?_) rfl (by kernel_rfl) (by kernel_rfl) (by kernel_rfl) (fun _ _ _ h => h) (Or.inl ⟨by rfl, ?_⟩) (by assumption) ?_
 rotate_left
 · (intro w' hSw; clear hSw; go_simp; first | done | with_reducible rfl)
 try simp only [Act.put, List.setIfInBounds_toArray, List.set_cons_zero, List.set_cons_succ]
 refine take_l 2 (v := ?_) rfl (by kernel_rfl) (by kernel_rfl) (by kernel_rfl) (fun _ _ _ h => h) (Or.inl ⟨by rfl, ?_⟩) (by assumption) ?_
 rotate_left
 · (intro w' hSw; clear hSw; go_simp; first | done | with_reducible rfl)
 try simp only [Act.put, List.setIfInBounds_toArray, List.set_cons_zero, List.set_cons_succ]
 refine take_l 3 (v := ?_) rfl (by kernel_rfl) (by kernel_rfl) (by kernel_rfl) (fun _ _ _ h => h) (Or.inl ⟨by rfl, ?_⟩) (by assumption) ?_
 rotate_left
 · (intro w' hSw; clear hSw; go_simp; first | done | with_reducible rfl)
 try simp only [Act.put, List.setIfInBounds_toArray, List.set_cons_zero, List.set_cons_succ]
 refine take_l 6 (v := ?_) rfl (by kernel_rfl) (by kernel_rfl) (by kernel_rfl) (fun _ _ _ h => h) (Or.inl ⟨by rfl, ?_⟩) (by assumption) ?_
 rotate_left
 · (intro w' hSw; have kk0 : w'.cell? ⟨w.heap.size, 0, none⟩ = some (.int .u8 2) := cell_of_row2 hSw 0 rfl; have kk1 : w'.cell? ⟨w.heap.size, 1, none⟩ = some (.int .u32 16777217) := cell_of_row2 hSw 1 rfl; have kk2 : w'.cell? ⟨w.heap.size, 2, none⟩ = some (.int .u32 1) := cell_of_row2 hSw 2 rfl; have kk3 : w'.cell? ⟨w.heap.size, 3, none⟩ = some (.string ⟨#[97]⟩) := cell_of_row2 hSw 3 rfl; have kk4 : w'.cell? ⟨w.heap.size, 4, none⟩ = some (.int .u32 0) := cell_of_row2 hSw 4 rfl; have kk5 : w'.cell? ⟨w.heap.size, 5, none⟩ = some (.string ⟨#[]⟩) := cell_of_row2 hSw 5 rfl; have kk6 : w'.cell? ⟨w.heap.size, 6, none⟩ = some (.int .u16 0) := cell_of_row2 hSw 6 rfl; have kk7 : w'.cell? ⟨w.heap.size, 7, none⟩ = some (.string ⟨#[]⟩) := cell_of_row2 hSw 7 rfl; clear hSw; go_simp; first | done | with_reducible rfl)
 try simp only [Act.put, List.setIfInBounds_toArray, List.set_cons_zero, List.set_cons_succ]
 refine take_l 7 (v := ?_) rfl (by kernel_rfl) (by kernel_rfl) (by kernel_rfl) (fun _ _ _ h => h) (Or.inl ⟨by rfl, ?_⟩) (by assumption) ?_
 rotate_left
 · (intro w' hSw; clear hSw; go_simp; first | done | with_reducible rfl)
 try simp only [Act.put, List.setIfInBounds_toArray, List.set_cons_zero, List.set_cons_succ]
 refine take_l 8 (v := ?_) rfl (by kernel_rfl) (by kernel_rfl) (by kernel_rfl) (fun _ _ _ h => h) (Or.inl ⟨by rfl, ?_⟩) (by assumption) ?_
 rotate_left
 · (intro w' hSw; clear hSw; go_simp; first | done | with_reducible rfl)
 try simp only [Act.put, List.setIfInBounds_toArray, List.set_cons_zero, List.set_cons_succ]
 have ml : w1.cell? ⟨nb, 2, none⟩ = some (.slice none 0 0) := cell_of_row2 r1 2 rfl
 have bA := below_1 w1 (.cells #[.int .u8 2, .int .u32 16777217, .int .u32 1, .string ⟨#[97]⟩, .int .u32 0, .string ⟨#[]⟩, .int .u16 0, .string ⟨#[]⟩, .int .u64 0] 113)
 have rA := (bA.block _ (lt_blkR r1)).trans r1
 have gA := (bA.block _ (lt_blkR g1)).trans g1
 have nA := heap_alloc_new w1 (.cells #[.int .u8 2, .int .u32 16777217, .int .u32 1, .string ⟨#[97]⟩, .int .u32 0, .string ⟨#[]⟩, .int .u16 0, .string ⟨#[]⟩, .int .u64 0] 113)
 have mlA : (w1.alloc (.cells #[.int .u8 2, .int .u32 16777217, .int .u32 1, .string ⟨#[97]⟩, .int .u32 0, .string ⟨#[]⟩, .int .u16 0, .string ⟨#[]⟩, .int .u64 0] 113)).cell? ⟨nb, 2, none⟩ = some (.slice none 0 0) := cell_of_row2 rA 2 rfl
 have BAL : Hid (Below w.heap.size w (w1.alloc (.cells #[.int .u8 2, .int .u32 16777217, .int .u32 1, .string ⟨#[97]⟩, .int .u32 0, .string ⟨#[]⟩, .int .u16 0, .string ⟨#[]⟩, .int .u64 0] 113))) := hid ((B0.out.trans (B1.out.mono B0.out.size)).trans (bA.mono (Nat.le_trans B0.out.size B1.out.size)))
 have B1W := hid (B0.out.trans (B1.out.mono B0.out.size))
 clear KP
 refine cons_2 4 9 rfl rfl (by kernel_rfl) (fun K hK => ?_) (fun K hK => ?_)
 · go_simp
   refine hK.out _ _ hg1 (fun hHeld => ?_)
   clear hK K
   try simp only [Act.put, List.setIfInBounds_toArray, List.set_cons_zero, List.set_cons_succ]
   refine cons_2 5 9 rfl rfl (by kernel_rfl) (fun K hK => ?_) (fun K hK => ?_)
   · go_simp
     refine (CC.out _).mono ?_; rintro _ w2 ⟨rfl, hb2⟩
     have hb2' : Below w1.heap.size w1 w2 := below_undrew hb2
     have r2 := (hb2'.block _ (lt_blkR r1)).trans r1
     have g2 := (hb2'.block _ (lt_blkR g1)).trans g1
     go_simp
     refine hK.out _ _ g2 (fun hHeld => ?_)
     clear hK K
     try simp only [Act.put, List.setIfInBounds_toArray, List.set_cons_zero, List.set_cons_succ]
     refine cons_l 9 rfl (by kernel_rfl) (fun K hK => ?_)
     go_simp
     have b3 := below_1 w2 (.cells #[.int .u8 2, .int .u32 16777217, .int .u32 1, .string ⟨#[97]⟩, .int .u32 0, .string ⟨#[]⟩, .int .u16 0, .string ⟨#[]⟩, .int .u64 0] 113)
     have R3 := hid ((b3.block _ (lt_blkR r2)).trans r2)
     have G3 := hid ((b3.block _ (lt_blkR g2)).trans g2)
     have N3 := hid (heap_alloc_new w2 (.cells #[.int .u8 2, .int .u32 16777217, .int .u32 1, .string ⟨#[97]⟩, .int .u32 0, .string ⟨#[]⟩, .int .u16 0, .string ⟨#[]⟩, .int .u64 0] 113))
     have BA := hid ((B1W.out.trans (hb2'.mono B1W.out.size)).trans (b3.mono (Nat.le_trans B1W.out.size hb2'.size)))
     refine hK.out _ _ G3.out (fun hHeld => ?_)
     clear hK K
     try simp only [Act.put, List.setIfInBounds_toArray, List.set_cons_zero, List.set_cons_succ]
     clear r2 g2 hb2 hb2' b3 rA gA nA mlA bA ml
     generalize (w2.alloc (.cells #[.int .u8 2, .int .u32 16777217, .int .u32 1, .string ⟨#[97]⟩, .int .u32 0, .string ⟨#[]⟩, .int .u16 0, .string ⟨#[]⟩, .int .u64 0] 113)) = w3 at *
     refine cons_l 10 rfl (by kernel_rfl) (fun K hK => ?_)
     refine step_appR _ (by rfl) _ _ (by rfl) w.heap.size (by rfl) _ (by rfl) N3.out BA.out.size ?_
     intro v4 w4 ho4 hgr4
     obtain ⟨lb, lc, cur, rfl, hlb, hl4, hR4⟩ := own_rec1 ho4
     have r4 : w4.heap[nb]? = some (.cells #[.slice (some ⟨g, 0, none⟩) 1 1, .slice (some ⟨s, 0, none⟩) 1 1, .slice none 0 0, .int .i64 zf, .int .u32 dn, .int .u32 1, .slice none 0 0] 77 (0, 0)) := (hgr4.block _ (lt_blkR R3.out) (fun e => by cases e)).trans R3.out
     have g4 : w4.heap[w.heap.size]? = some (.cells #[.int .u8 2, .int .u32 16777217, .int .u32 1, .string ⟨#[97]⟩, .int .u32 0, .string ⟨#[]⟩, .int .u16 0, .string ⟨#[]⟩] 111 (0, 0)) := (hgr4.block _ (lt_blkR G3.out) (fun e => by cases e)).trans G3.out
     have B4 := hid (BA.out.trans (Below.mono (Below.mk hgr4.os hgr4.tape hgr4.output hgr4.size (fun k hk => hgr4.block k hk (fun e => by cases e))) BA.out.size))
     have L4 := hid hl4
     have C4 := hid hR4
     have LB := hid hlb
     have m2 : w4.cell? ⟨nb, 2, none⟩ = some (.slice none 0 0) := cell_of_row2 r4 2 rfl
     have fz : ∀ i, w4.frozen? ⟨nb, i, none⟩ = false := fun i => (by simp [World.frozen?, r4])
     clear ho4 hgr4 hlb hl4 hR4
     go_simp
     refine hK.out _ _ g4 (fun hHeld => ?_)
     clear hK K
     try simp only [Act.put, List.setIfInBounds_toArray, List.set_cons_zero, List.set_cons_succ]
     refine take_l 11 (v := ?_) rfl (by kernel_rfl) (by kernel_rfl) (by kernel_rfl) (fun _ _ _ h => h) (Or.inl ⟨by rfl, ?_⟩) (by assumption) ?_
     rotate_left
     · (intro w' hSw; clear hSw; go_simp; first | done | with_reducible rfl)
     try simp only [Act.put, List.setIfInBounds_toArray, List.set_cons_zero, List.set_cons_succ]
     refine take_l 12 (v := ?_) rfl (by kernel_rfl) (by kernel_rfl) (by kernel_rfl) (fun _ _ _ h => h) (Or.inl ⟨by rfl, ?_⟩) (by assumption) ?_
     rotate_left
     · (intro w' hSw; clear hSw; go_simp; first | done | with_reducible rfl)
     try simp only [Act.put, List.setIfInBounds_toArray, List.set_cons_zero, List.set_cons_succ]
     refine cons_l 13 rfl (by kernel_rfl) (fun K hK => ?_)
     go_simp
     have O5 : Ou (fun k => k = nb) w4 (w4.setCell ⟨nb, 2, none⟩ (.slice (some ⟨lb, 0, none⟩) 1 lc)) := ((Ou.of (S := fun k => k = nb) (Below.refl _ _)).set rfl)
     have r5 : (w4.setCell ⟨nb, 2, none⟩ (.slice (some ⟨lb, 0, none⟩) 1 lc)).heap[nb]? = some (.cells #[.slice (some ⟨g, 0, none⟩) 1 1, .slice (some ⟨s, 0, none⟩) 1 1, .slice (some ⟨lb, 0, none⟩) 1 lc, .int .i64 zf, .int .u32 dn, .int .u32 1, .slice none 0 0] 77 (0, 0)) := heap_setCell_same w4 nb 2 _ _ _ r4
     have g5 : (w4.setCell ⟨nb, 2, none⟩ (.slice (some ⟨lb, 0, none⟩) 1 lc)).heap[w.heap.size]? = some (.cells #[.int .u8 2, .int .u32 16777217, .int .u32 1, .string ⟨#[97]⟩, .int .u32 0, .string ⟨#[]⟩, .int .u16 0, .string ⟨#[]⟩] 111 (0, 0)) := (O5.block _ (lt_blkR g4) (by omega)).trans g4
     have L5 : Hid ((w4.setCell ⟨nb, 2, none⟩ (.slice (some ⟨lb, 0, none⟩) 1 lc)).heap[lb]? = some (.cells cur 113 (0, 0))) := hid ((O5.block _ (lt_blkR L4.out) (fun e => by have := LB.out; omega)).trans L4.out)
     have O9 : Hid (Ou (fun k => k = nb) w (w4.setCell ⟨nb, 2, none⟩ (.slice (some ⟨lb, 0, none⟩) 1 lc))) := hid ((Ou.of B4.out).trans O5)
     refine hK.out _ _ g5 (fun hHeld => ?_)
     clear hK K
     try simp only [Act.put, List.setIfInBounds_toArray, List.set_cons_zero, List.set_cons_succ]
     refine wpAnyH_done (by kernel_rfl) ?_ _
     clear hHeld m2 fz r4 g4 O5
     generalize (w4.setCell ⟨nb, 2, none⟩ (.slice (some ⟨lb, 0, none⟩) 1 lc)) = w5 at *
     have e0 : w5.cell? ⟨w.heap.size, 0, none⟩ = some (.int .u8 2) := cell_of_row2 g5 0 rfl
     have n5 : w5.cell? ⟨nb, 5, none⟩ = some (.int .u32 1) := cell_of_row2 r5 5 rfl
     have fz : ∀ i, w5.frozen? ⟨nb, i, none⟩ = false := fun i => (by simp [World.frozen?, r5])
     have R5 := hid r5
     clear r5 g5
     go_wp2_with (go_at_call 142; refine (MC.out _).mono ?_; rintro _ wz ⟨rfl, hwz⟩; rw [hwz]; clear hwz)
     have O6 : Ou (fun k => k = nb) w5 (w5.setCell ⟨nb, 5, none⟩ (.int .u32 2)) := ((Ou.of (S := fun k => k = nb) (Below.refl _ _)).set rfl)
     refine body_end (by kernel_rfl) rfl ⟨rfl, lb, lc, cur, heap_setCell_same w5 nb 5 _ _ _ R5.out, (O6.block _ (lt_blkR L5.out) (fun e => by have := LB.out; omega)).trans L5.out, C4.out, LB.out, O9.out.trans O6⟩
   · go_simp
     refine hK.out _ _ (show (w1.alloc (.cells #[.int .u8 2, .int .u32 16777217, .int .u32 1, .string ⟨#[97]⟩, .int .u32 0, .string ⟨#[]⟩, .int .u16 0, .string ⟨#[]⟩, .int .u64 0] 113)).drew.heap[w.heap.size]? = _ from gA) (fun hHeld => ?_)
     clear hK K
     try simp only [Act.put, List.setIfInBounds_toArray, List.set_cons_zero, List.set_cons_succ]
     refine cons_l 5 rfl (by kernel_rfl) (fun K hK => ?_)
     go_simp
     refine (CC.out _).mono ?_; rintro _ w2 ⟨rfl, hb2⟩
     have hb2' : Below (w1.alloc (.cells #[.int .u8 2, .int .u32 16777217, .int .u32 1, .string ⟨#[97]⟩, .int .u32 0, .string ⟨#[]⟩, .int .u16 0, .string ⟨#[]⟩, .int .u64 0] 113)).heap.size (w1.alloc (.cells #[.int .u8 2, .int .u32 16777217, .int .u32 1, .string ⟨#[97]⟩, .int .u32 0, .string ⟨#[]⟩, .int .u16 0, .string ⟨#[]⟩, .int .u64 0] 113)) w2 := below_undrew hb2
     have r2 := (hb2'.block _ (lt_blkR rA)).trans rA
     have g2 := (hb2'.block _ (lt_blkR gA)).trans gA
     go_simp
     refine hK.out _ _ g2 (fun hHeld => ?_)
     clear hK K
     try simp only [Act.put, List.setIfInBounds_toArray, List.set_cons_zero, List.set_cons_succ]
     have R3 := hid r2
     have G3 := hid g2
     have N3 := hid ((hb2'.block _ (lt_blkR nA)).trans nA)
     have BA := hid (BAL.out.trans (hb2'.mono BAL.out.size))
     clear r2 g2 hb2 hb2' rA gA nA mlA bA ml
     refine cons_l 10 rfl (by kernel_rfl) (fun K hK => ?_)
     refine step_appR _ (by rfl) _ _ (by rfl) w.heap.size (by rfl) _ (by rfl) N3.out BA.out.size ?_
     intro v4 w4 ho4 hgr4
     obtain ⟨lb, lc, cur, rfl, hlb, hl4, hR4⟩ := own_rec1 ho4
     have r4 : w4.heap[nb]? = some (.cells #[.slice (some ⟨g, 0, none⟩) 1 1, .slice (some ⟨s, 0, none⟩) 1 1, .slice none 0 0, .int .i64 zf, .int .u32 dn, .int .u32 1, .slice none 0 0] 77 (0, 0)) := (hgr4.block _ (lt_blkR R3.out) (fun e => by cases e)).trans R3.out
     have g4 : w4.heap[w.heap.size]? = some (.cells #[.int .u8 2, .int .u32 16777217, .int .u32 1, .string ⟨#[97]⟩, .int .u32 0, .string ⟨#[]⟩, .int .u16 0, .string ⟨#[]⟩] 111 (0, 0)) := (hgr4.block _ (lt_blkR G3.out) (fun e => by cases e)).trans G3.out
     have B4 := hid (BA.out.trans (Below.mono (Below.mk hgr4.os hgr4.tape hgr4.output hgr4.size (fun k hk => hgr4.block k hk (fun e => by cases e))) BA.out.size))
     have L4 := hid hl4
     have C4 := hid hR4
     have LB := hid hlb
     have m2 : w4.cell? ⟨nb, 2, none⟩ = some (.slice none 0 0) := cell_of_row2 r4 2 rfl
     have fz : ∀ i, w4.frozen? ⟨nb, i, none⟩ = false := fun i => (by simp [World.frozen?, r4])
     clear ho4 hgr4 hlb hl4 hR4
     go_simp
     refine hK.out _ _ g4 (fun hHeld => ?_)
     clear hK K
     try simp only [Act.put, List.setIfInBounds_toArray, List.set_cons_zero, List.set_cons_succ]
     refine take_l 11 (v := ?_) rfl (by kernel_rfl) (by kernel_rfl) (by kernel_rfl) (fun _ _ _ h => h) (Or.inl ⟨by rfl, ?_⟩) (by assumption) ?_
     rotate_left
     · (intro w' hSw; clear hSw; go_simp; first | done | with_reducible rfl)
     try simp only [Act.put, List.setIfInBounds_toArray, List.set_cons_zero, List.set_cons_succ]
     refine take_l 12 (v := ?_) rfl (by kernel_rfl) (by kernel_rfl) (by kernel_rfl) (fun _ _ _ h => h) (Or.inl ⟨by rfl, ?_⟩) (by assumption) ?_
     rotate_left
     · (intro w' hSw; clear hSw; go_simp; first | done | with_reducible rfl)
     try simp only [Act.put, List.setIfInBounds_toArray, List.set_cons_zero, List.set_cons_succ]
     refine cons_l 13 rfl (by kernel_rfl) (fun K hK => ?_)
     go_simp
     have O5 : Ou (fun k => k = nb) w4 (w4.setCell ⟨nb, 2, none⟩ (.slice (some ⟨lb, 0, none⟩) 1 lc)) := ((Ou.of (S := fun k => k = nb) (Below.refl _ _)).set rfl)
     have r5 : (w4.setCell ⟨nb, 2, none⟩ (.slice (some ⟨lb, 0, none⟩) 1 lc)).heap[nb]? = some (.cells #[.slice (some ⟨g, 0, none⟩) 1 1, .slice (some ⟨s, 0, none⟩) 1 1, .slice (some ⟨lb, 0, none⟩) 1 lc, .int .i64 zf, .int .u32 dn, .int .u32 1, .slice none 0 0] 77 (0, 0)) := heap_setCell_same w4 nb 2 _ _ _ r4
     have g5 : (w4.setCell ⟨nb, 2, none⟩ (.slice (some ⟨lb, 0, none⟩) 1 lc)).heap[w.heap.size]? = some (.cells #[.int .u8 2, .int .u32 16777217, .int .u32 1, .string ⟨#[97]⟩, .int .u32 0, .string ⟨#[]⟩, .int .u16 0, .string ⟨#[]⟩] 111 (0, 0)) := (O5.block _ (lt_blkR g4) (by omega)).trans g4
     have L5 : Hid ((w4.setCell ⟨nb, 2, none⟩ (.slice (some ⟨lb, 0, none⟩) 1 lc)).heap[lb]? = some (.cells cur 113 (0, 0))) := hid ((O5.block _ (lt_blkR L4.out) (fun e => by have := LB.out; omega)).trans L4.out)
     have O9 : Hid (Ou (fun k => k = nb) w (w4.setCell ⟨nb, 2, none⟩ (.slice (some ⟨lb, 0, none⟩) 1 lc))) := hid ((Ou.of B4.out).trans O5)
     refine hK.out _ _ g5 (fun hHeld => ?_)
     clear hK K
     try simp only [Act.put, List.setIfInBounds_toArray, List.set_cons_zero, List.set_cons_succ]
     refine wpAnyH_done (by kernel_rfl) ?_ _
     clear hHeld m2 fz r4 g4 O5
     generalize (w4.setCell ⟨nb, 2, none⟩ (.slice (some ⟨lb, 0, none⟩) 1 lc)) = w5 at *
     have e0 : w5.cell? ⟨w.heap.size, 0, none⟩ = some (.int .u8 2) := cell_of_row2 g5 0 rfl
     have n5 : w5.cell? ⟨nb, 5, none⟩ = some (.int .u32 1) := cell_of_row2 r5 5 rfl
     have fz : ∀ i, w5.frozen? ⟨nb, i, none⟩ = false := fun i => (by simp [World.frozen?, r5])
     have R5 := hid r5
     clear r5 g5
     go_wp2_with (go_at_call 142; refine (MC.out _).mono ?_; rintro _ wz ⟨rfl, hwz⟩; rw [hwz]; clear hwz)
     have O6 : Ou (fun k => k = nb) w5 (w5.setCell ⟨nb, 5, none⟩ (.int .u32 2)) := ((Ou.of (S := fun k => k = nb) (Below.refl _ _)).set rfl)
     refine body_end (by kernel_rfl) rfl ⟨rfl, lb, lc, cur, heap_setCell_same w5 nb 5 _ _ _ R5.out, (O6.block _ (lt_blkR L5.out) (fun e => by have := LB.out; omega)).trans L5.out, C4.out, LB.out, O9.out.trans O6⟩
 · go_simp
   refine hK.out _ _ (show (w1.alloc (.cells #[.int .u8 2, .int .u32 16777217, .int .u32 1, .string ⟨#[97]⟩, .int .u32 0, .string ⟨#[]⟩, .int .u16 0, .string ⟨#[]⟩, .int .u64 0] 113)).drew.heap[w.heap.size]? = _ from gA) (fun hHeld => ?_)
   clear hK K
   try simp only [Act.put, List.setIfInBounds_toArray, List.set_cons_zero, List.set_cons_succ]
   refine cons_l 4 rfl (by kernel_rfl) (fun K hK => ?_)
   go_simp
   refine hK.out _ _ (show (w1.alloc (.cells #[.int .u8 2, .int .u32 16777217, .int .u32 1, .string ⟨#[97]⟩, .int .u32 0, .string ⟨#[]⟩, .int .u16 0, .string ⟨#[]⟩, .int .u64 0] 113)).drew.heap[w.heap.size]? = _ from gA) (fun hHeld => ?_)
   clear hK K
   try simp only [Act.put, List.setIfInBounds_toArray, List.set_cons_zero, List.set_cons_succ]
   refine cons_l 5 rfl (by kernel_rfl) (fun K hK => ?_)
   go_simp
   refine (CC.out _).mono ?_; rintro _ w2 ⟨rfl, hb2⟩
   have hb2' : Below (w1.alloc (.cells #[.int .u8 2, .int .u32 16777217, .int .u32 1, .string ⟨#[97]⟩, .int .u32 0, .string ⟨#[]⟩, .int .u16 0, .string ⟨#[]⟩, .int .u64 0] 113)).heap.size (w1.alloc (.cells #[.int .u8 2, .int .u32 16777217, .int .u32 1, .string ⟨#[97]⟩, .int .u32 0, .string ⟨#[]⟩, .int .u16 0, .string ⟨#[]⟩, .int .u64 0] 113)) w2 := below_undrew hb2
   have r2 := (hb2'.block _ (lt_blkR rA)).trans rA
   have g2 := (hb2'.block _ (lt_blkR gA)).trans gA
   go_simp
   refine hK.out _ _ g2 (fun hHeld => ?_)
   clear hK K
   try simp only [Act.put, List.setIfInBounds_toArray, List.set_cons_zero, List.set_cons_succ]
   have R3 := hid r2
   have G3 := hid g2
   have N3 := hid ((hb2'.block _ (lt_blkR nA)).trans nA)
   have BA := hid (BAL.out.trans (hb2'.mono BAL.out.size))
   clear r2 g2 hb2 hb2' rA gA nA mlA bA ml
   refine cons_l 10 rfl (by kernel_rfl) (fun K hK => ?_)
   refine step_appR _ (by rfl) _ _ (by rfl) w.heap.size (by rfl) _ (by rfl) N3.out BA.out.size ?_
   intro v4 w4 ho4 hgr4
   obtain ⟨lb, lc, cur, rfl, hlb, hl4, hR4⟩ := own_rec1 ho4
   have r4 : w4.heap[nb]? = some (.cells #[.slice (some ⟨g, 0, none⟩) 1 1, .slice (some ⟨s, 0, none⟩) 1 1, .slice none 0 0, .int .i64 zf, .int .u32 dn, .int .u32 1, .slice none 0 0] 77 (0, 0)) := (hgr4.block _ (lt_blkR R3.out) (fun e => by cases e)).trans R3.out
   have g4 : w4.heap[w.heap.size]? = some (.cells #[.int .u8 2, .int .u32 16777217, .int .u32 1, .string ⟨#[97]⟩, .int .u32 0, .string ⟨#[]⟩, .int .u16 0, .string ⟨#[]⟩] 111 (0, 0)) := (hgr4.block _ (lt_blkR G3.out) (fun e => by cases e)).trans G3.out
   have B4 := hid (BA.out.trans (Below.mono (Below.mk hgr4.os hgr4.tape hgr4.output hgr4.size (fun k hk => hgr4.block k hk (fun e => by cases e))) BA.out.size))
   have L4 := hid hl4
   have C4 := hid hR4
   have LB := hid hlb
   have m2 : w4.cell? ⟨nb, 2, none⟩ = some (.slice none 0 0) := cell_of_row2 r4 2 rfl
   have fz : ∀ i, w4.frozen? ⟨nb, i, none⟩ = false := fun i => (by simp [World.frozen?, r4])
   clear ho4 hgr4 hlb hl4 hR4
   go_simp
   refine hK.out _ _ g4 (fun hHeld => ?_)
   clear hK K
   try simp only [Act.put, List.setIfInBounds_toArray, List.set_cons_zero, List.set_cons_succ]
   refine take_l 11 (v := ?_) rfl (by kernel_rfl) (by kernel_rfl) (by kernel_rfl) (fun _ _ _ h => h) (Or.inl ⟨by rfl, ?_⟩) (by assumption) ?_
   rotate_left
   · (intro w' hSw; clear hSw; go_simp; first | done | with_reducible rfl)
   try simp only [Act.put, List.setIfInBounds_toArray, List.set_cons_zero, List.set_cons_succ]
   refine take_l 12 (v := ?_) rfl (by kernel_rfl) (by kernel_rfl) (by kernel_rfl) (fun _ _ _ h => h) (Or.inl ⟨by rfl, ?_⟩) (by assumption) ?_
   rotate_left
   · (intro w' hSw; clear hSw; go_simp; first | done | with_reducible rfl)
   try simp only [Act.put, List.setIfInBounds_toArray, List.set_cons_zero, List.set_cons_succ]
   refine cons_l 13 rfl (by kernel_rfl) (fun K hK => ?_)
   go_simp
   have O5 : Ou (fun k => k = nb) w4 (w4.setCell ⟨nb, 2, none⟩ (.slice (some ⟨lb, 0, none⟩) 1 lc)) := ((Ou.of (S := fun k => k = nb) (Below.refl _ _)).set rfl)
   have r5 : (w4.setCell ⟨nb, 2, none⟩ (.slice (some ⟨lb, 0, none⟩) 1 lc)).heap[nb]? = some (.cells #[.slice (some ⟨g, 0, none⟩) 1 1, .slice (some ⟨s, 0, none⟩) 1 1, .slice (some ⟨lb, 0, none⟩) 1 lc, .int .i64 zf, .int .u32 dn, .int .u32 1, .slice none 0 0] 77 (0, 0)) := heap_setCell_same w4 nb 2 _ _ _ r4
   have g5 : (w4.setCell ⟨nb, 2, none⟩ (.slice (some ⟨lb, 0, none⟩) 1 lc)).heap[w.heap.size]? = some (.cells #[.int .u8 2, .int .u32 16777217, .int .u32 1, .string ⟨#[97]⟩, .int .u32 0, .string ⟨#[]⟩, .int .u16 0, .string ⟨#[]⟩] 111 (0, 0)) := (O5.block _ (lt_blkR g4) (by omega)).trans g4
   have L5 : Hid ((w4.setCell ⟨nb, 2, none⟩ (.slice (some ⟨lb, 0, none⟩) 1 lc)).heap[lb]? = some (.cells cur 113 (0, 0))) := hid ((O5.block _ (lt_blkR L4.out) (fun e => by have := LB.out; omega)).trans L4.out)
   have O9 : Hid (Ou (fun k => k = nb) w (w4.setCell ⟨nb, 2, none⟩ (.slice (some ⟨lb, 0, none⟩) 1 lc))) := hid ((Ou.of B4.out).trans O5)
   refine hK.out _ _ g5 (fun hHeld => ?_)
   clear hK K
   try simp only [Act.put, List.setIfInBounds_toArray, List.set_cons_zero, List.set_cons_succ]
   refine wpAnyH_done (by kernel_rfl) ?_ _
   clear hHeld m2 fz r4 g4 O5
   generalize (w4.setCell ⟨nb, 2, none⟩ (.slice (some ⟨lb, 0, none⟩) 1 lc)) = w5 at *
   have e0 : w5.cell? ⟨w.heap.size, 0, none⟩ = some (.int .u8 2) := cell_of_row2 g5 0 rfl
   have n5 : w5.cell? ⟨nb, 5, none⟩ = some (.int .u32 1) := cell_of_row2 r5 5 rfl
   have fz : ∀ i, w5.frozen? ⟨nb, i, none⟩ = false := fun i => (by simp [World.frozen?, r5])
   have R5 := hid r5
   clear r5 g5
   go_wp2_with (go_at_call 142; refine (MC.out _).mono ?_; rintro _ wz ⟨rfl, hwz⟩; rw [hwz]; clear hwz)
   have O6 : Ou (fun k => k = nb) w5 (w5.setCell ⟨nb, 5, none⟩ (.int .u32 2)) := ((Ou.of (S := fun k => k = nb) (Below.refl _ _)).set rfl)
   refine body_end (by kernel_rfl) rfl ⟨rfl, lb, lc, cur, heap_setCell_same w5 nb 5 _ _ _ R5.out, (O6.block _ (lt_blkR L5.out) (fun e => by have := LB.out; omega)).trans L5.out, C4.out, LB.out, O9.out.trans O6⟩
def fresh0 (p j d b1 b2 cb cm ch g s N : Nat) : Cv := ⟨p, j, d, b1, b2, cb, cm, ch, g, s, N, 0, false, ca0, .slice none 0 0, 0, 0, 1, []⟩
theorem openC_c {w : World} {d b1 b2 N : Nat} (h : IsD w d b1 b2 N (fun _ => zsec) (fun _ => none)) (h8 : 8 ≤ N) :
   Calls Tryz.prog 23 #[.int .u8 1, pD d] w fun e w' => ∃ p j d' q1 q2 cb cm ch g s, e = .returned (.pointer (some ⟨p, 0, none⟩)) ∧ CvM w.heap.size w' (fresh0 p j d' q1 q2 cb cm ch g s N) ∧ Below w.heap.size w w' := by
 have hN : N ≤ 2048 := h.2.2.2.1
 have Z : Held (vw (fun _ => zsec) (fun _ => none)) N 0 0 [] := Held.zero N h8 hN
 refine (copen_c (x := pD d) ⟨_, rfl⟩ 1 (by decide) (by decide) (fun W j => ∃ d b1 b2, IsJ W j d b1 b2 N (fun _ => zsec) (fun _ => none) ∧ w.heap.size ≤ b1 ∧ w.heap.size ≤ b2) ((open_c h h8).mono ?_) (fun W W' j hj hb => ?_)).mono ?_
 · rintro e w' ⟨j, d', p1, p2, rfl, hJ, hl, hb⟩
   exact ⟨j, rfl, ⟨d', p1, p2, hJ, hl.2.2.1, hl.2.2.2⟩, hb⟩
 · obtain ⟨d', c1, c2, q1, q2, q3⟩ := hj
   have hG := groups_all_c (q1.later hb)
   have hg : grps (vw (fun _ => zsec) (fun _ => none)) N = [] := Z.grps (fun i => (q1.later hb).2.1.sec i)
   rw [hg] at hG
   exact hG
 · rintro e w' ⟨j, cb, cm, ch, g, s, p, W1, rfl, ⟨d', q1, q2, hJ, l1, l2⟩, hb, z0, z1, z2, z3, z4, z5, z6, hr, hg, hs, hc, hB⟩
   have JW : JT W1 j d' q1 q2 N 0 := ⟨_, _, 0, [], hJ, Z⟩
   obtain ⟨⟨_, _, m1⟩, ⟨_, _, m2⟩⟩ := JW.maps
   have t1 := lt_blkR m1
   have t2 := lt_blkR m2
   exact ⟨p, j, d', q1, q2, cb, cm, ch, g, s, rfl, ⟨JW.later hb, hc, hr, hg, hs, .inl ⟨rfl, rfl⟩, ⟨by show _ ≤ p; omega, l1, l2, by show _ ≤ cb; omega, by show _ ≤ cm; omega, by show _ ≤ ch; omega, hB.size⟩, ⟨by show q1 ≠ cm; omega, by show q1 ≠ ch; omega, by show q2 ≠ cm; omega, by show q2 ≠ ch; omega⟩⟩, hB⟩
theorem openN_c {w : World} {d b1 b2 N : Nat} (num : Int) (n1 : 1 ≤ num) (n3 : num ≤ 3) (h : IsD w d b1 b2 N (fun _ => zsec) (fun _ => none)) (h8 : 8 ≤ N) :
   Calls Tryz.prog 23 #[.int .u8 num, pD d] w fun e w' => ∃ p : Nat, e = .returned (.pointer (some ⟨p, 0, none⟩)) ∧ Below w.heap.size w w' := by
 have hN : N ≤ 2048 := h.2.2.2.1
 have Z : Held (vw (fun _ => zsec) (fun _ => none)) N 0 0 [] := Held.zero N h8 hN
 refine (copen_c (x := pD d) ⟨_, rfl⟩ num n1 n3 (fun W j => ∃ d b1 b2, IsJ W j d b1 b2 N (fun _ => zsec) (fun _ => none)) ((open_c h h8).mono ?_) (fun W W' j hj hb => ?_)).mono ?_
 · rintro e w' ⟨j, d', p1, p2, rfl, hJ, hl, hb⟩
   exact ⟨j, rfl, ⟨d', p1, p2, hJ⟩, hb⟩
 · obtain ⟨d', c1, c2, q1⟩ := hj
   have hG := groups_all_c (q1.later hb)
   have hg : grps (vw (fun _ => zsec) (fun _ => none)) N = [] := Z.grps (fun i => (q1.later hb).2.1.sec i)
   rw [hg] at hG
   exact hG
 · rintro e w' ⟨j, cb, cm, ch, g, s, p, W1, rfl, _, _, _, _, _, _, _, _, _, _, _, _, _, hB⟩
   exact ⟨p, rfl, hB⟩
theorem clink_c {base : Nat} {w : World} {c : Cv} (h : CvM base w c) (b : Bool) :
   Calls Tryz.prog 11 #[.pointer (some ⟨c.p, 0, none⟩), .bool b] w fun e w' => e = .returned (.int .i64 0) ∧ CvM base w' { c with lk := b } ∧ Below base w w' := by
 have row := h.2.2.1
 have H := hid h
 have R := hid row
 have k3 : w.cell? ⟨c.p, 3, none⟩ = some (.bool c.lk) := cell_of_row2 row 3 rfl
 have fz : ∀ i, w.frozen? ⟨c.p, i, none⟩ = false := fun i => (by simp [World.frozen?, row])
 clear h row
 go_enter Tryz.func11, Tryz.ntmps11
 go_wp2
 have O1 : Ou (fun k => k = c.p) w (w.setCell ⟨c.p, 3, none⟩ (.bool b)) := ((Ou.of (S := fun k => k = c.p) (Below.refl _ _)).set rfl)
 go_ret
 exact ⟨rfl, H.out.own O1 b c.lv c.fz c.dn c.nx c.L H.out.2.2.2.2.2.1 (heap_setCell_same w c.p 3 _ _ _ R.out), H.out.below O1 (fun k e => by rw [e]; exact H.out.2.2.2.2.2.2.1.1)⟩
theorem cview_c {base : Nat} {w : World} {c : Cv} (h : CvM base w c) (hL : LogM c.L) : Calls Tryz.prog 14 #[.pointer (some ⟨c.p, 0, none⟩)] w fun e w' => ∃ a cap, e = .returned (.slice a (c.L.length + 1) cap) ∧ Below w.heap.size w w' := by
 have VC : Hid (Calls Tryz.prog 25 #[.pointer (some ⟨c.p, 4, none⟩)] w fun e w' => ∃ a cap, e = .returned (.slice a (c.L.length + 1) cap) ∧ Below w.heap.size w w') := hid ((view_c h hL).mono (fun e w' q => by
   obtain ⟨a, cap, l, rfl, _, he, hb⟩ := q
   have : l.length = c.L.length + 1 := by rw [← vw_len hL, ← he, List.length_map]
   rw [this]
   exact ⟨a, cap, rfl, hb⟩))
 obtain ⟨n, hn⟩ : ∃ n, n = c.L.length + 1 := ⟨_, rfl⟩
 rw [← hn] at VC ⊢
 clear h hn
 go_enter Tryz.func14, Tryz.ntmps14
 go_wp2_with (go_at_call 25; refine VC.out.mono ?_; rintro _ w1 ⟨a, cap, rfl, hb1⟩; have B1 := hid hb1; clear hb1)
 go_ret
 exact ⟨a, cap, rfl, B1.out⟩
theorem cview1_c {base : Nat} {w : World} {c : Cv} (h : CvM base w c) (hL : c.L = [oM]) : Calls Tryz.prog 14 #[.pointer (some ⟨c.p, 0, none⟩)] w fun e w' => ∃ a cap, e = .returned (.slice a 2 cap) ∧ Below w.heap.size w w' := by
 have := cview_c h (.inr hL)
 rw [hL] at this
 exact this
theorem six_all {W : World} {A T : Nat} {u0 u1 u2 u3 u4 u5 : Value} (h : W.heap[A]? = some (.cells #[u0, u1, u2, u3, u4, u5] T (0, 0))) (v0 v1 v2 v3 v4 v5 : Value) :
   ((((((W.setCell ⟨A, 0, none⟩ (v0)).setCell ⟨A, 1, none⟩ (v1)).setCell ⟨A, 2, none⟩ (v2)).setCell ⟨A, 3, none⟩ (v3)).setCell ⟨A, 4, none⟩ (v4)).setCell ⟨A, 5, none⟩ (v5)).heap[A]? = some (.cells #[v0, v1, v2, v3, v4, v5] T (0, 0)) := by
 simp only [World.setCell]
 simp [Array.getElem?_modify, h]
theorem ou_six (W : World) (A : Nat) (v0 v1 v2 v3 v4 v5 : Value) : Ou (fun k => k = A) W ((((((W.setCell ⟨A, 0, none⟩ (v0)).setCell ⟨A, 1, none⟩ (v1)).setCell ⟨A, 2, none⟩ (v2)).setCell ⟨A, 3, none⟩ (v3)).setCell ⟨A, 4, none⟩ (v4)).setCell ⟨A, 5, none⟩ (v5)) := by
 exact (((((((Ou.of (S := fun k => k = A) (Below.refl _ _)).set rfl).set rfl).set rfl).set rfl).set rfl).set rfl)
end Go.Proofs.YtfmghbennahlfaaGreat
