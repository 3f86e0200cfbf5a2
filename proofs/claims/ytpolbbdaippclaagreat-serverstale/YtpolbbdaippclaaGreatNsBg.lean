/-
  
-/
import Derived.Test.YtpolbbdaippclaaGreatNsAp
import Derived.Test.YtpolbbdaippclaaGreatNsAt
import Derived.Test.YtpolbbdaippclaaGreatNsBe
import Derived.Test.YtpolbbdaippclaaGreatNsBf
namespace Go.Proofs.YtpolbbdaippclaaGreat
open Go.RowKit Go.ChangeShapes Go.WideShapes Go.ChangeAt Go.Maps Go.Shelf
set_option linter.unusedVariables false
set_option linter.unusedSimpArgs false
set_option maxRecDepth 100000
theorem info_er : ∃ i : TypeInfo, Tryz.prog.info? 28 = some i ∧ i.zero = some (.int .i64 0) ∧ i.size = 1 ∧ i.bytes = 8 := by
 have h : (Tryz.prog.info? 28).map (fun i => (i.zero, i.size, i.bytes)) = some (some (.int .i64 0), 1, 8) := by kernel_rfl
 cases hi : Tryz.prog.info? 28 with
 | none => rw [hi] at h; cases h
 | some i => rw [hi] at h; simp at h; exact ⟨i, rfl, h.1, h.2.1, h.2.2⟩
theorem wpList_appE1 (w : World) {ops : Array Oper} {rest : List Oper} {o : Oper} {a : Act} {Q : Exit → Act → World → Prop} (hgd : o.guard = none) (s x : Operand)
   (ho : o.op = .call { callee := .builtin .append, args := #[s, x], argTypes := #[27, 27] }) (base : Nat) (hs : a.eval s = .slice none 0 0)
   (g : Nat) (er : Int) (hx : a.eval x = .slice (some ⟨g, 0, none⟩) 1 1) (hg : w.heap[g]? = some (.cells #[.int .i64 er] 28 (0, 0))) (hb : base ≤ w.heap.size)
   (h : ∀ v' w', OwE w' base v' [er] → w.grownBy w' none → wpList Tryz.prog ops Q rest (a.put o.dst v') w') : wpList Tryz.prog ops Q (o :: rest) a w := by
 obtain ⟨i0, hi, hz0, hz1, hz2⟩ := info_er
 refine wpList_append_own w hgd s x 27 ho base 28 i0 (.int .i64 0) 1 8 Tryz.underlying27 hi hz0 hz1 hz2 rfl (by decide) _ 0 [] hs (World.ownsRow_nil _ _ _ _) ⟨g, 0, none⟩ 1 1 [.int .i64 er] hx rfl (row_news (l := [.int .i64 er]) hg) (fun u hu => by rw [List.mem_singleton] at hu; subst hu; rfl) (by unfold maxLen; omega) (by omega) hb ?_
 intro v' w' h1 h2 _
 exact h v' w' h1 h2
theorem OwE.one {w : World} {base : Nat} {v : Value} {er : Int} (h : OwE w base v [er]) : ∃ g c, v = .slice (some ⟨g, 0, none⟩) 1 c ∧ base ≤ g ∧ w.cell? ⟨g, 0, none⟩ = some (.int .i64 er) := by
 rcases h.2 with ⟨_, e2⟩ | ⟨g, cap, cur, e1, hb, hg, hn, hc, hs, ht⟩
 · cases e2
 · refine ⟨g, cap, e1, hb, ?_⟩
   rw [cell_of_row w g _ _ _ _ hg, ← Array.getElem?_toList]
   have h2 : (cur.toList.take 1)[0]? = some (.int .i64 er) := by
     have : cur.toList.take (1 * 1) = [.int .i64 er] := ht
     rw [show (1 : Nat) = 1 * 1 from rfl, this]; rfl
   rw [List.getElem?_take, if_pos (by omega)] at h2
   exact h2
set_option maxHeartbeats 2000000 in
theorem verdictOn_none (b : Nat) (cl num : Int) (w : World) (h : w.cell? ⟨b, 6, none⟩ = some (.slice none 0 0)) :
   Calls Tryz.prog 42 #[.pointer (some ⟨b, 0, none⟩), .int .u8 cl, .int .u32 num] w fun e w' => e = .returned (.int .i64 0) ∧ w' = w := by
 go_enter Tryz.func42, Tryz.ntmps42
 go_wp2
 refine wp_loop_rounds 1 ?_
 rw [rounds_succ]
 go_wp2
 go_ret
 exact ⟨rfl, rfl⟩
structure Vd where
 cl : Int
 num : Int
 er : Int
 rc : Rec
def Vd.cells (v : Vd) : List Value := [.int .u8 v.cl, .int .u32 v.num, .int .i64 v.er, .int .u8 v.rc.k, .int .u32 v.rc.fid, .int .u32 v.rc.dir, .string v.rc.nm, .int .u32 v.rc.to, .string v.rc.nm2, .int .u16 v.rc.md, .string v.rc.dt, .int .u64 v.rc.sn]
def Vd.val (v : Vd) : Value := .agg #[.int .u8 v.cl, .int .u32 v.num, .int .i64 v.er, .int .u8 v.rc.k, .int .u32 v.rc.fid, .int .u32 v.rc.dir, .string v.rc.nm, .int .u32 v.rc.to, .string v.rc.nm2, .int .u16 v.rc.md, .string v.rc.dt, .int .u64 v.rc.sn]
theorem Vd.one (v : Vd) : ∀ u ∈ v.cells, u.oneCell' = true := fun u hu => by
 simp only [Vd.cells, List.mem_cons, List.mem_nil_iff, or_false] at hu
 rcases hu with rfl | rfl | rfl | rfl | rfl | rfl | rfl | rfl | rfl | rfl | rfl | rfl <;> rfl
def OwV (w : World) (base : Nat) (v : Value) (x : Vd) : Prop := w.ownsRow base 58 12 v 1 x.cells
theorem info_vd : ∃ (i : TypeInfo) (z : Value), Tryz.prog.info? 58 = some i ∧ i.zero = some z ∧ z.cells.size = 12 ∧ i.size = 12 ∧ i.bytes = 104 := by
 have h : (Tryz.prog.info? 58).map (fun i => (i.zero.map (fun z => z.cells.size), i.size, i.bytes)) = some (some 12, 12, 104) := by kernel_rfl
 cases hi : Tryz.prog.info? 58 with
 | none => rw [hi] at h; cases h
 | some i =>
   rw [hi] at h
   simp at h
   obtain ⟨⟨z, hz, hs⟩, h2, h3⟩ := h
   exact ⟨i, z, rfl, hz, hs, h2, h3⟩
theorem step_appV1 (w : World) {ops : Array Oper} {o : Oper} {a : Act} {K : Act → World → Prop} {Q : Exit → Act → World → Prop} {E : Prop} (hgd : o.guard = none) (s x : Operand)
   (ho : o.op = .call { callee := .builtin .append, args := #[s, x], argTypes := #[55, 55] }) (base : Nat) (hs : a.eval s = .slice none 0 0)
   (g : Nat) (y : Vd) (hx : a.eval x = .slice (some ⟨g, 0, none⟩) 1 1) (hg : w.heap[g]? = some (.cells y.cells.toArray 58 (0, 0))) (hb : base ≤ w.heap.size)
   (h : ∀ v' w', OwV w' base v' y → w.grownBy w' none → K (a.put o.dst v') w') :
   if Region.wanted o (yielded ops a.tmps) = true then Oper.wp Tryz.prog o a w K Q else E := by
 rw [if_pos (by simp [Region.wanted, hgd])]
 obtain ⟨i0, z0, hi, hz0, hz3, hz1, hz2⟩ := info_vd
 refine wp_append_own w s x 55 ho base 58 i0 z0 12 104 Tryz.underlying55 hi hz0 hz1 hz2 hz3 (by decide) _ 0 [] hs (World.ownsRow_nil _ _ _ _) ⟨g, 0, none⟩ 1 1 y.cells hx rfl (row_news (l := y.cells) hg) y.one (by unfold maxLen; omega) (by omega) hb ?_
 intro v' w' h1 h2 _
 exact h v' w' h1 h2
theorem OwV.one {w : World} {base : Nat} {v : Value} {x : Vd} (h : OwV w base v x) : ∃ g c cur, v = .slice (some ⟨g, 0, none⟩) 1 c ∧ 1 ≤ c ∧ base ≤ g ∧ w.heap[g]? = some (.cells cur 58 (0, 0)) ∧ ∀ (k : Nat) (u : Value), x.cells[k]? = some u → cur[k]? = some u := by
 obtain ⟨g, c, cur, e, hb, hc, hg, hx⟩ := own_block h (by omega)
 exact ⟨g, c, cur, e, hc, hb, hg, hx⟩
set_option maxHeartbeats 1000000 in
theorem delV_none (g c : Nat) (hc : 1 ≤ c) (w : World) : Calls Tryz.prog 112 #[.slice (some ⟨g, 0, none⟩) 1 c, .int .i64 0, .int .i64 0] w fun e w' => e = .returned (.slice (some ⟨g, 0, none⟩) 1 c) ∧ w' = w := by
 have hcI : (1 : Int) ≤ (c : Int) := by omega
 go_enter Tryz.func112, Tryz.ntmps112
 go_wp2
 go_ret
 exact ⟨rfl, rfl⟩
set_option maxHeartbeats 4000000 in
theorem addV_c (y : Vd) (w : World) : Calls Tryz.prog 72 #[.slice none 0 0, y.val] w fun e w' => ∃ v, e = .returned v ∧ OwV w' w.heap.size v y ∧ Below w.heap.size w w' := by
 have b0 := below_1 w (.cells y.cells.toArray 58)
 have h0 := heap_alloc_new w (.cells y.cells.toArray 58)
 have B0 := hid b0
 obtain ⟨y2, hy⟩ : ∃ y2, y2 = y := ⟨_, rfl⟩
 have HY := hid hy
 obtain ⟨cl, num, er, k, fid, dir, nm, tof, nm2, md, dt, sn⟩ := y
 simp only [Vd.val, Vd.cells] at *
 clear b0
 go_enter Tryz.func72, Tryz.ntmps72
 go_upto_region 1 with fail
 generalize (w.alloc (.cells #[.int .u8 cl, .int .u32 num, .int .i64 er, .int .u8 k, .int .u32 fid, .int .u32 dir, .string nm, .int .u32 tof, .string nm2, .int .u16 md, .string dt, .int .u64 sn] 58)) = V at *
 have hS0 : V.drew.heap[w.heap.size]? = some (.cells #[.int .u8 cl, .int .u32 num, .int .i64 er, .int .u8 k, .int .u32 fid, .int .u32 dir, .string nm, .int .u32 tof, .string nm2, .int .u16 md, .string dt, .int .u64 sn] 58 (0, 0)) := h0
 have D0 := hid (Below.drew (Below.refl V.heap.size V))
 have LL : ∀ w' : World, w'.heap[w.heap.size]? = some (.cells #[.int .u8 cl, .int .u32 num, .int .i64 er, .int .u8 k, .int .u32 fid, .int .u32 dir, .string nm, .int .u32 tof, .string nm2, .int .u16 md, .string dt, .int .u64 sn] 58 (0, 0)) → w'.heap[w.heap.size]? = some (.cells #[.int .u8 cl, .int .u32 num, .int .i64 er, .int .u8 k, .int .u32 fid, .int .u32 dir, .string nm, .int .u32 tof, .string nm2, .int .u16 md, .string dt, .int .u64 sn] 58 (0, 0)) := fun _ h => h
 have D1 := hid (D0.out.trans ((below_1 V.drew (.cells #[.int .u8 cl, .int .u32 num, .int .i64 er, .int .u8 k, .int .u32 fid, .int .u32 dir, .string nm, .int .u32 tof, .string nm2, .int .u16 md, .string dt, .int .u64 sn] 58)).mono D0.out.size))
 have G1 : Hid ((V.drew.alloc (.cells #[.int .u8 cl, .int .u32 num, .int .i64 er, .int .u8 k, .int .u32 fid, .int .u32 dir, .string nm, .int .u32 tof, .string nm2, .int .u16 md, .string dt, .int .u64 sn] 58)).heap[V.heap.size]? = some (.cells #[.int .u8 cl, .int .u32 num, .int .i64 er, .int .u8 k, .int .u32 fid, .int .u32 dir, .string nm, .int .u32 tof, .string nm2, .int .u16 md, .string dt, .int .u64 sn] 58 (0, 0))) := hid (heap_alloc_new V.drew _)
 have hS1 : (V.drew.alloc (.cells #[.int .u8 cl, .int .u32 num, .int .i64 er, .int .u8 k, .int .u32 fid, .int .u32 dir, .string nm, .int .u32 tof, .string nm2, .int .u16 md, .string dt, .int .u64 sn] 58)).heap[w.heap.size]? = some (.cells #[.int .u8 cl, .int .u32 num, .int .i64 er, .int .u8 k, .int .u32 fid, .int .u32 dir, .string nm, .int .u32 tof, .string nm2, .int .u16 md, .string dt, .int .u64 sn] 58 (0, 0)) := ((below_1 V.drew (.cells #[.int .u8 cl, .int .u32 num, .int .i64 er, .int .u8 k, .int .u32 fid, .int .u32 dir, .string nm, .int .u32 tof, .string nm2, .int .u16 md, .string dt, .int .u64 sn] 58)).block _ (lt_blkR hS0)).trans hS0
 clear h0
 go_wp2_with fail
 refine wp_region_held_drew (S := fun w' => w'.heap[w.heap.size]? = some (.cells #[.int .u8 cl, .int .u32 num, .int .i64 er, .int .u8 k, .int .u32 fid, .int .u32 dir, .string nm, .int .u32 tof, .string nm2, .int .u16 md, .string dt, .int .u64 sn] 58 (0, 0))) (by kernel_rfl) hS0 (fun hHeld => ?_)
 refine take_l 0 (v := ?_) rfl (by kernel_rfl) (by kernel_rfl) (by kernel_rfl) (fun _ _ _ h => h) (Or.inl ⟨by rfl, ?_⟩) (by assumption) ?_
 rotate_left
 · (intro w' hSw; clear hSw; go_simp; first | done | with_reducible rfl)
 try simp only [Act.put, List.setIfInBounds_toArray, List.set_cons_zero, List.set_cons_succ]
 refine take_l 2 (v := ?_) rfl (by kernel_rfl) (by kernel_rfl) (by kernel_rfl) (fun _ _ _ h => h) (Or.inl ⟨by rfl, ?_⟩) (by assumption) ?_
 rotate_left
 · (intro w' hSw; (have q0 : w'.cell? ⟨w.heap.size, 0, none⟩ = some (.int .u8 cl) := cell_of_row2 (LL _ hSw) 0 rfl); (have q1 : w'.cell? ⟨w.heap.size, 1, none⟩ = some (.int .u32 num) := cell_of_row2 (LL _ hSw) 1 rfl); (have q2 : w'.cell? ⟨w.heap.size, 2, none⟩ = some (.int .i64 er) := cell_of_row2 (LL _ hSw) 2 rfl); (have q3 : w'.cell? ⟨w.heap.size, 3, none⟩ = some (.int .u8 k) := cell_of_row2 (LL _ hSw) 3 rfl); (have q4 : w'.cell? ⟨w.heap.size, 4, none⟩ = some (.int .u32 fid) := cell_of_row2 (LL _ hSw) 4 rfl); (have q5 : w'.cell? ⟨w.heap.size, 5, none⟩ = some (.int .u32 dir) := cell_of_row2 (LL _ hSw) 5 rfl); (have q6 : w'.cell? ⟨w.heap.size, 6, none⟩ = some (.string nm) := cell_of_row2 (LL _ hSw) 6 rfl); (have q7 : w'.cell? ⟨w.heap.size, 7, none⟩ = some (.int .u32 tof) := cell_of_row2 (LL _ hSw) 7 rfl); (have q8 : w'.cell? ⟨w.heap.size, 8, none⟩ = some (.string nm2) := cell_of_row2 (LL _ hSw) 8 rfl); (have q9 : w'.cell? ⟨w.heap.size, 9, none⟩ = some (.int .u16 md) := cell_of_row2 (LL _ hSw) 9 rfl); (have q10 : w'.cell? ⟨w.heap.size, 10, none⟩ = some (.string dt) := cell_of_row2 (LL _ hSw) 10 rfl); (have q11 : w'.cell? ⟨w.heap.size, 11, none⟩ = some (.int .u64 sn) := cell_of_row2 (LL _ hSw) 11 rfl); clear hSw; go_simp; first | done | with_reducible rfl)
 try simp only [Act.put, List.setIfInBounds_toArray, List.set_cons_zero, List.set_cons_succ]
 refine cons_2 1 3 rfl rfl (by kernel_rfl) (fun K hK => ?_) (fun K hK => ?_)
 · go_simp
   refine (cloneV_nil _).mono ?_; rintro _ wz ⟨rfl, hwz⟩; rw [hwz]; clear hwz
   go_simp
   refine hK.out _ _ hS0 (fun hHeld => ?_)
   clear hK K
   try simp only [Act.put, List.setIfInBounds_toArray, List.set_cons_zero, List.set_cons_succ]
   refine cons_l 3 rfl (by kernel_rfl) (fun K hK => ?_)
   go_simp
   refine hK.out _ _ hS1 (fun hHeld => ?_)
   clear hK K
   try simp only [Act.put, List.setIfInBounds_toArray, List.set_cons_zero, List.set_cons_succ]
   refine cons_l 4 rfl (by kernel_rfl) (fun K hK => ?_)
   refine step_appV1 _ (by rfl) _ _ (by rfl) w.heap.size (by rfl) V.heap.size ⟨cl, num, er, k, fid, dir, nm, tof, nm2, md, dt, sn⟩ (by rfl) G1.out (by have h1 := B0.out.size; show w.heap.size ≤ (V.alloc _).heap.size; simp; omega) ?_
   intro v5 w5 ho5 hg5
   have O5 := hid ho5
   have D5 := hid ((below_1 V.drew (.cells #[.int .u8 cl, .int .u32 num, .int .i64 er, .int .u8 k, .int .u32 fid, .int .u32 dir, .string nm, .int .u32 tof, .string nm2, .int .u16 md, .string dt, .int .u64 sn] 58)).grown hg5 (below_1 V.drew (.cells #[.int .u8 cl, .int .u32 num, .int .i64 er, .int .u8 k, .int .u32 fid, .int .u32 dir, .string nm, .int .u32 tof, .string nm2, .int .u16 md, .string dt, .int .u64 sn] 58)).size (fun k hk => by cases hk))
   have hS5 : w5.heap[w.heap.size]? = some (.cells #[.int .u8 cl, .int .u32 num, .int .i64 er, .int .u8 k, .int .u32 fid, .int .u32 dir, .string nm, .int .u32 tof, .string nm2, .int .u16 md, .string dt, .int .u64 sn] 58 (0, 0)) := (D5.out.block _ (lt_blkR hS0)).trans hS0
   clear ho5 hg5
   go_simp
   refine hK.out _ _ hS5 (fun hHeld => ?_)
   clear hK K
   try simp only [Act.put, List.setIfInBounds_toArray, List.set_cons_zero, List.set_cons_succ]
   refine take_l 5 (v := ?_) rfl (by kernel_rfl) (by kernel_rfl) (by kernel_rfl) (fun _ _ _ h => h) (Or.inl ⟨by rfl, ?_⟩) (by assumption) ?_
   rotate_left
   · (intro w' hSw; clear hSw; go_simp; first | done | with_reducible rfl)
   try simp only [Act.put, List.setIfInBounds_toArray, List.set_cons_zero, List.set_cons_succ]
   refine wpAnyH_done (by kernel_rfl) ?_ _
   have B5 := hid (B0.out.trans ((D0.out.trans (D5.out.mono D0.out.size)).mono B0.out.size))
   clear hS0 hS1 hS5 hHeld LL
   obtain ⟨g6, c6, cur6, rfl, hc6, _, _, _⟩ := O5.out.one
   have mx : ∀ W : World, True := fun _ => trivial
   go_wp2_with (go_at_call 112; refine (delV_none g6 c6 hc6 _).mono ?_; rintro _ wz ⟨rfl, hwz⟩; rw [hwz]; clear hwz)
   go_ret
   exact ⟨_, rfl, O5.out, B5.out⟩
 · go_simp
   refine hK.out _ _ hS1 (fun hHeld => ?_)
   clear hK K
   try simp only [Act.put, List.setIfInBounds_toArray, List.set_cons_zero, List.set_cons_succ]
   refine cons_l 1 rfl (by kernel_rfl) (fun K hK => ?_)
   go_simp
   refine (cloneV_nil _).mono ?_; rintro _ wz ⟨rfl, hwz⟩; rw [hwz]; clear hwz
   go_simp
   refine hK.out _ _ hS1 (fun hHeld => ?_)
   clear hK K
   try simp only [Act.put, List.setIfInBounds_toArray, List.set_cons_zero, List.set_cons_succ]
   refine cons_l 4 rfl (by kernel_rfl) (fun K hK => ?_)
   refine step_appV1 _ (by rfl) _ _ (by rfl) w.heap.size (by rfl) V.heap.size ⟨cl, num, er, k, fid, dir, nm, tof, nm2, md, dt, sn⟩ (by rfl) G1.out (by have h1 := B0.out.size; show w.heap.size ≤ (V.alloc _).heap.size; simp; omega) ?_
   intro v5 w5 ho5 hg5
   have O5 := hid ho5
   have D5 := hid ((below_1 V.drew (.cells #[.int .u8 cl, .int .u32 num, .int .i64 er, .int .u8 k, .int .u32 fid, .int .u32 dir, .string nm, .int .u32 tof, .string nm2, .int .u16 md, .string dt, .int .u64 sn] 58)).grown hg5 (below_1 V.drew (.cells #[.int .u8 cl, .int .u32 num, .int .i64 er, .int .u8 k, .int .u32 fid, .int .u32 dir, .string nm, .int .u32 tof, .string nm2, .int .u16 md, .string dt, .int .u64 sn] 58)).size (fun k hk => by cases hk))
   have hS5 : w5.heap[w.heap.size]? = some (.cells #[.int .u8 cl, .int .u32 num, .int .i64 er, .int .u8 k, .int .u32 fid, .int .u32 dir, .string nm, .int .u32 tof, .string nm2, .int .u16 md, .string dt, .int .u64 sn] 58 (0, 0)) := (D5.out.block _ (lt_blkR hS0)).trans hS0
   clear ho5 hg5
   go_simp
   refine hK.out _ _ hS5 (fun hHeld => ?_)
   clear hK K
   try simp only [Act.put, List.setIfInBounds_toArray, List.set_cons_zero, List.set_cons_succ]
   refine take_l 5 (v := ?_) rfl (by kernel_rfl) (by kernel_rfl) (by kernel_rfl) (fun _ _ _ h => h) (Or.inl ⟨by rfl, ?_⟩) (by assumption) ?_
   rotate_left
   · (intro w' hSw; clear hSw; go_simp; first | done | with_reducible rfl)
   try simp only [Act.put, List.setIfInBounds_toArray, List.set_cons_zero, List.set_cons_succ]
   refine wpAnyH_done (by kernel_rfl) ?_ _
   have B5 := hid (B0.out.trans ((D0.out.trans (D5.out.mono D0.out.size)).mono B0.out.size))
   clear hS0 hS1 hS5 hHeld LL
   obtain ⟨g6, c6, cur6, rfl, hc6, _, _, _⟩ := O5.out.one
   have mx : ∀ W : World, True := fun _ => trivial
   go_wp2_with (go_at_call 112; refine (delV_none g6 c6 hc6 _).mono ?_; rintro _ wz ⟨rfl, hwz⟩; rw [hwz]; clear hwz)
   go_ret
   exact ⟨_, rfl, O5.out, B5.out⟩
def OwVs (w : World) (base : Nat) (v : Value) (vs : List Vd) : Prop := (vs = [] ∧ v = .slice none 0 0) ∨ ∃ x, vs = [x] ∧ OwV w base v x
theorem OwVs.later {w w' : World} {base : Nat} {v : Value} {vs : List Vd} (h : OwVs w base v vs) (hb : Below w.heap.size w w') : OwVs w' base v vs := by
 rcases h with h | ⟨x, h1, h2⟩
 · exact .inl h
 · exact .inr ⟨x, h1, own_latR h2 hb⟩
theorem OwVs.low {w : World} {base b : Nat} {v : Value} {vs : List Vd} (h : OwVs w base v vs) (hb : b ≤ base) : OwVs w b v vs := by
 rcases h with h | ⟨x, h1, h2⟩
 · exact .inl h
 · exact .inr ⟨x, h1, own_low h2 hb⟩
theorem OwVs.kb {w w' : World} {base : Nat} {v : Value} {vs : List Vd} (h : OwVs w base v vs) (hk : KeepB base w w') : OwVs w' base v vs := by
 rcases h with h | ⟨x, h1, h2⟩
 · exact .inl h
 · exact .inr ⟨x, h1, own_kbS h2 hk⟩
theorem OwVs.shape {w : World} {base : Nat} {v : Value} {vs : List Vd} (h : OwVs w base v vs) : ∃ a c, v = .slice a vs.length c := by
 rcases h with ⟨rfl, rfl⟩ | ⟨x, rfl, h2⟩
 · exact ⟨_, _, rfl⟩
 · obtain ⟨g, c, cur, rfl, _⟩ := h2.one
   exact ⟨_, _, rfl⟩
def DoG (er : Int) (LF : List Nd) (SS : List St) (ver2 e0 e1 e2 : Int) (vs : List Vd) (base nb : Nat) (W : World) (e : Ending) (w' : World) : Prop :=
 e = .returned (.int .i64 er) ∧ ∃ g cap g2 cap2 L' a n c, w'.heap[nb]? = some (.cells #[.slice (some ⟨g, 0, none⟩) L'.length cap, .slice (some ⟨g2, 0, none⟩) SS.length cap2, .int .u64 ver2, .int .u32 e0, .int .u32 e1, .int .u32 e2, .slice a n c] 76 (0, 0)) ∧ NsO w' base (.slice (some ⟨g, 0, none⟩) L'.length cap) L' ∧ L'.map Nd.er = LF ∧ OwT w' base (.slice (some ⟨g2, 0, none⟩) SS.length cap2) SS ∧ OwVs w' base (.slice a n c) vs ∧ Ou (fun k => k = nb) W w'
set_option maxHeartbeats 8000000 in
theorem behindG_c (p j lb lc : Nat) (o : Rec) (num : Int) (ad bd : Addr) (ca cb : Nat) (l : List Nd) (ss : List St) (ver d0 d1 d2 : Int) (w : World)
   (hrow : w.heap[p]? = some (.cells #[pB j, .slice (some ad) l.length ca, .slice (some bd) ss.length cb, .int .u64 ver, .int .u32 d0, .int .u32 d1, .int .u32 d2, .slice none 0 0] 79 (0, 0))) (hlb : w.heap[lb]? = some (.cells #[.int .u8 o.k, .int .u32 o.fid, .int .u32 o.dir, .string o.nm, .int .u32 o.to, .string o.nm2, .int .u16 o.md, .string o.dt, .int .u64 o.sn] 39 (0, 0))) (h : Tr w (some ad) l) (hs : IsSs w (some bd) ss) (hl0 : 0 < l.length) (hm : l.length ≤ 900) (hll : ss.length = l.length) (hn0 : 0 ≤ num ∧ num < 4294967296) (cl : Int) (hcl : (cl = 1 ∧ d0 < num) ∨ (cl = 2 ∧ d1 < num) ∨ (cl = 3 ∧ d2 < num)) (er : Int) (LF : List Nd) (SS : List St) (ver2 e0 e1 e2 : Int) (vs : List Vd)
   (DOP : ∀ (W : World) (nb base g g2 cap cap2 : Nat) (L : List Nd), base ≤ W.heap.size → W.heap[nb]? = some (.cells #[.slice (some ⟨g, 0, none⟩) L.length cap, .slice (some ⟨g2, 0, none⟩) ss.length cap2, .int .u64 ver, .int .u32 d0, .int .u32 d1, .int .u32 d2, .slice none 0 0] 76 (0, 0)) → NsO W base (.slice (some ⟨g, 0, none⟩) L.length cap) L → OwT W base (.slice (some ⟨g2, 0, none⟩) ss.length cap2) ss → L.map Nd.er = l.map Nd.er → Calls Tryz.prog 43 #[.pointer (some ⟨nb, 0, none⟩), .int .u8 cl, .int .u32 num, o.recV] W (DoG er LF SS ver2 e0 e1 e2 vs base nb W)) :
   Calls Tryz.prog 21 #[.pointer (some ⟨p, 1, none⟩), .int .u8 cl, .int .u32 num, .slice (some ⟨lb, 0, none⟩) 1 lc] w fun e w' => ∃ g cap g2 cap2 L' a n c ve, e = .returned (.tuple #[.agg #[.slice (some ⟨g, 0, none⟩) L'.length cap, .slice (some ⟨g2, 0, none⟩) SS.length cap2, .int .u64 ver2, .int .u32 e0, .int .u32 e1, .int .u32 e2, .slice a n c], ve]) ∧ NsO w' (w.heap.size + 1) (.slice (some ⟨g, 0, none⟩) L'.length cap) L' ∧ L'.map Nd.er = LF ∧ OwT w' (w.heap.size + 1) (.slice (some ⟨g2, 0, none⟩) SS.length cap2) SS ∧ OwVs w' (w.heap.size + 1) (.slice a n c) vs ∧ OwE w' (w.heap.size + 1) ve [er] ∧ Below w.heap.size w w' := by
 have DOH := hid DOP
 clear DOP
 have HROW := hid hrow
 have HLB := hid hlb
 have HT := hid h
 have HS := hid hs
 have HLL := hid hll
 have HSW := hid hs.2.1
 have hss0 : 0 < ss.length := by omega
 have hssm : ss.length ≤ 900 := by omega
 have b1 := below_1 w (.cells #[.slice none 0 0, .slice none 0 0, .int .u64 0, .int .u32 0, .int .u32 0, .int .u32 0, .slice none 0 0] 76)
 have g1 := heap_alloc_new w (.cells #[.slice none 0 0, .slice none 0 0, .int .u64 0, .int .u32 0, .int .u32 0, .int .u32 0, .slice none 0 0] 76)
 have B1 := hid b1
 have HZ := hid g1
 have LV : Hid ((w.alloc (.cells #[.slice none 0 0, .slice none 0 0, .int .u64 0, .int .u32 0, .int .u32 0, .int .u32 0, .slice none 0 0] 76)).heap.size = w.heap.size + 1) := hid (by simp)
 have wn : IntKind.u32.wrap (num + 0) = num := by rw [IntKind.wrap_u32]; omega
 have wn2 : IntKind.u32.wrap num = num := by rw [IntKind.wrap_u32]; omega
 have CC := hid (copied_c p j ad bd ca cb l ss ver d0 d1 d2 _ ((b1.block _ (lt_blkR hrow)).trans hrow) (h.later b1) (hs.later b1) hm hssm)
 clear b1 g1 h hs hrow hlb hll
 go_enter Tryz.func21, Tryz.ntmps21
 go_upto_region 1 with fail
 generalize (w.alloc (.cells #[.slice none 0 0, .slice none 0 0, .int .u64 0, .int .u32 0, .int .u32 0, .int .u32 0, .slice none 0 0] 76)) = V at *
 go_upto_region 2 with (go_at_call 34; refine CC.out.mono ?_; rintro _ w1 ⟨v1, u1, L, rfl, ho1, he1, hn1, ht1, hb1⟩; have hLl : L.length = l.length := (by have := congrArg List.length he1; simpa using this); obtain ⟨g, cap, rfl, hgb, htr⟩ := OwN.trN ho1 hn1 (by omega) (by omega); obtain ⟨g2, cap2, rfl, hgb2, hst⟩ := OwT.is ht1 HSW.out hss0 (by omega); have O1 : Hid (NsO w1 V.heap.size (.slice (some ⟨g, 0, none⟩) L.length cap) L) := hid ⟨ho1, hn1⟩; have E1 := hid he1; have T1 := hid ht1; have D1 := hid hb1; have LL := hid hLl; clear ho1 he1 hn1 ht1 hb1 hLl htr hst hgb hgb2)
 have b2 := below_1 w1 (.cells #[.slice (some ⟨g, 0, none⟩) L.length cap, .slice (some ⟨g2, 0, none⟩) ss.length cap2, .int .u64 ver, .int .u32 d0, .int .u32 d1, .int .u32 d2, .slice none 0 0] 76)
 have g3 := heap_alloc_new w1 (.cells #[.slice (some ⟨g, 0, none⟩) L.length cap, .slice (some ⟨g2, 0, none⟩) ss.length cap2, .int .u64 ver, .int .u32 d0, .int .u32 d1, .int .u32 d2, .slice none 0 0] 76)
 have B2 := hid ((B1.out.trans (D1.out.mono B1.out.size)).trans (b2.mono (Nat.le_trans B1.out.size D1.out.size)))
 have O2 := hid (O1.out.later b2)
 have T2 := hid (T1.out.later b2)
 have Z2 : Hid ((w1.alloc (.cells #[.slice (some ⟨g, 0, none⟩) L.length cap, .slice (some ⟨g2, 0, none⟩) ss.length cap2, .int .u64 ver, .int .u32 d0, .int .u32 d1, .int .u32 d2, .slice none 0 0] 76)).heap[w.heap.size]? = some (.cells #[.slice none 0 0, .slice none 0 0, .int .u64 0, .int .u32 0, .int .u32 0, .int .u32 0, .slice none 0 0] 76 (0, 0))) := hid ((b2.block _ (Nat.lt_of_lt_of_le (lt_blkR HZ.out) D1.out.size)).trans ((D1.out.block _ (lt_blkR HZ.out)).trans HZ.out))
 have GB : Hid (w.heap.size < w1.heap.size) := hid (Nat.lt_of_lt_of_le (lt_blkR HZ.out) D1.out.size)
 have SZ2 : Hid ((w1.alloc (.cells #[.slice (some ⟨g, 0, none⟩) L.length cap, .slice (some ⟨g2, 0, none⟩) ss.length cap2, .int .u64 ver, .int .u32 d0, .int .u32 d1, .int .u32 d2, .slice none 0 0] 76)).heap.size = w1.heap.size + 1) := hid (by simp)
 clear b2
 generalize (w1.alloc (.cells #[.slice (some ⟨g, 0, none⟩) L.length cap, .slice (some ⟨g2, 0, none⟩) ss.length cap2, .int .u64 ver, .int .u32 d0, .int .u32 d1, .int .u32 d2, .slice none 0 0] 76)) = V2 at *
 obtain ⟨nb, hnb⟩ : ∃ nb, nb = w1.heap.size := ⟨_, rfl⟩
 rw [← hnb] at g3 GB SZ2
 rw [← hnb]
 clear hnb
 have HR2 := hid g3
 clear g3
 have hlb2 := (B2.out.block _ (lt_blkR HLB.out)).trans HLB.out
 go_upto_region 4 with fail
 obtain ⟨k, fid, dir, nm, tof, nm2, md, dt, sn⟩ := o
 simp only [Rec.recV, Rec.opV] at *
 have y0 : V2.cell? ⟨lb, 0, none⟩ = some (.int .u8 k) := cell_of_row2 hlb2 0 rfl
 have y1 : V2.cell? ⟨lb, 1, none⟩ = some (.int .u32 fid) := cell_of_row2 hlb2 1 rfl
 have y2 : V2.cell? ⟨lb, 2, none⟩ = some (.int .u32 dir) := cell_of_row2 hlb2 2 rfl
 have y3 : V2.cell? ⟨lb, 3, none⟩ = some (.string nm) := cell_of_row2 hlb2 3 rfl
 have y4 : V2.cell? ⟨lb, 4, none⟩ = some (.int .u32 tof) := cell_of_row2 hlb2 4 rfl
 have y5 : V2.cell? ⟨lb, 5, none⟩ = some (.string nm2) := cell_of_row2 hlb2 5 rfl
 have y6 : V2.cell? ⟨lb, 6, none⟩ = some (.int .u16 md) := cell_of_row2 hlb2 6 rfl
 have y7 : V2.cell? ⟨lb, 7, none⟩ = some (.string dt) := cell_of_row2 hlb2 7 rfl
 have y8 : V2.cell? ⟨lb, 8, none⟩ = some (.int .u64 sn) := cell_of_row2 hlb2 8 rfl
 clear hlb2
 refine wp_loop_rounds 2 ?_
 rw [rounds_succ]
 go_upto_region 6 with fail
 have b3 := below_1 V2 (.cells #[.int .u8 k, .int .u32 fid, .int .u32 dir, .string nm, .int .u32 tof, .string nm2, .int .u16 md, .string dt, .int .u64 sn] 39)
 have g4 := heap_alloc_new V2 (.cells #[.int .u8 k, .int .u32 fid, .int .u32 dir, .string nm, .int .u32 tof, .string nm2, .int .u16 md, .string dt, .int .u64 sn] 39)
 have B3 := hid (B2.out.trans (b3.mono B2.out.size))
 have O3 := hid (O2.out.later b3)
 have T3 := hid (T2.out.later b3)
 have Z3 := hid ((b3.block _ (lt_blkR Z2.out)).trans Z2.out)
 have R3 := (b3.block _ (lt_blkR HR2.out)).trans HR2.out
 have SZ3 : Hid ((V2.alloc (.cells #[.int .u8 k, .int .u32 fid, .int .u32 dir, .string nm, .int .u32 tof, .string nm2, .int .u16 md, .string dt, .int .u64 sn] 39)).heap.size = V2.heap.size + 1) := hid (by simp)
 clear b3 y0 y1 y2 y3 y4 y5 y6 y7 y8
 generalize (V2.alloc (.cells #[.int .u8 k, .int .u32 fid, .int .u32 dir, .string nm, .int .u32 tof, .string nm2, .int .u16 md, .string dt, .int .u64 sn] 39)) = V3 at *
 obtain ⟨rb, hrb⟩ : ∃ rb, rb = V2.heap.size := ⟨_, rfl⟩
 rw [← hrb] at g4 SZ2 SZ3
 rw [← hrb]
 clear hrb
 have n3 : V3.cell? ⟨nb, 3, none⟩ = some (.int .u32 d0) := cell_of_row2 R3 3 rfl
 have n4 : V3.cell? ⟨nb, 4, none⟩ = some (.int .u32 d1) := cell_of_row2 R3 4 rfl
 have n5 : V3.cell? ⟨nb, 5, none⟩ = some (.int .u32 d2) := cell_of_row2 R3 5 rfl
 have x0 : V3.cell? ⟨rb, 0, none⟩ = some (.int .u8 k) := cell_of_row2 g4 0 rfl
 have x1 : V3.cell? ⟨rb, 1, none⟩ = some (.int .u32 fid) := cell_of_row2 g4 1 rfl
 have x2 : V3.cell? ⟨rb, 2, none⟩ = some (.int .u32 dir) := cell_of_row2 g4 2 rfl
 have x3 : V3.cell? ⟨rb, 3, none⟩ = some (.string nm) := cell_of_row2 g4 3 rfl
 have x4 : V3.cell? ⟨rb, 4, none⟩ = some (.int .u32 tof) := cell_of_row2 g4 4 rfl
 have x5 : V3.cell? ⟨rb, 5, none⟩ = some (.string nm2) := cell_of_row2 g4 5 rfl
 have x6 : V3.cell? ⟨rb, 6, none⟩ = some (.int .u16 md) := cell_of_row2 g4 6 rfl
 have x7 : V3.cell? ⟨rb, 7, none⟩ = some (.string dt) := cell_of_row2 g4 7 rfl
 have x8 : V3.cell? ⟨rb, 8, none⟩ = some (.int .u64 sn) := cell_of_row2 g4 8 rfl
 have ZV : w.heap.size + 1 ≤ V3.heap.size := by have h2 := GB.out; have h3 := SZ2.out; have h4 := SZ3.out; omega
 have DO1 := DOH.out V3 nb (w.heap.size + 1) g g2 cap cap2 L ZV R3 (O3.out.low (by rw [LV.out]; omega)) (own_low T3.out (by rw [LV.out]; omega)) E1.out
 have DO := hid DO1
 clear g4 R3 DO1 DOH HT HS
 rcases hcl with ⟨rfl, hN⟩ | ⟨rfl, hN⟩ | ⟨rfl, hN⟩ <;> (
   have hN' := Int.not_le.2 hN
   go_upto_region 10 with (first
     | (at_builtin; refine wpList_appE1 _ rfl _ _ rfl (w.heap.size + 1) rfl w4.heap.size er rfl (heap_alloc_new w4 _) (by have := SZ4.out; simp; omega) ?_; intro v5 w5 ho5 hg5; have O5 := hid ho5; have D5 := hid ((below_1 w4 (.cells #[.int .i64 er] 28)).grown hg5 (below_1 w4 (.cells #[.int .i64 er] 28)).size (fun k hk => by cases hk)); clear ho5 hg5)
     | (go_at_call 43; refine DO.out.mono ?_; rintro _ w4 ⟨rfl, g5, cap5, g6, cap6, L', qa, qn, qc, hr4, hn4, he4, ht4, hq4, hu4⟩; have R4 := hid hr4; have N4 := hid hn4; have E4 := hid he4; have T4 := hid ht4; have Q4 := hid hq4; have U4 := hid hu4; have SZ4 : Hid (w.heap.size + 1 ≤ w4.heap.size) := hid (by have h1 := hu4.size; omega); clear hr4 hn4 he4 ht4 hq4 hu4))
   have R5 := (D5.out.block _ (lt_blkR R4.out)).trans R4.out
   have Z5 : Hid (w5.heap[w.heap.size]? = some (.cells #[.slice none 0 0, .slice none 0 0, .int .u64 0, .int .u32 0, .int .u32 0, .int .u32 0, .slice none 0 0] 76 (0, 0))) := hid (by
     have h4 := (U4.out.block w.heap.size (by omega) (by have := GB.out; omega)).trans Z3.out
     exact (D5.out.block _ (lt_blkR h4)).trans h4)
   have B5 : Hid (Below w.heap.size w w5) := hid (B3.out.trans ((U4.out.below (B := w.heap.size) (by omega) (fun k hk => by have := GB.out; omega)).trans (D5.out.mono (by have := SZ4.out; omega))))
   have N5 := hid (N4.out.later D5.out)
   have T5 := hid (own_latR T4.out D5.out)
   have Q5 := hid (Q4.out.later D5.out)
   obtain ⟨sl, hsl⟩ : ∃ sl, sl = SS.length := ⟨_, rfl⟩
   rw [← hsl] at R5
   have HSLN := hid hsl
   obtain ⟨va5, vn5, vc5, hve⟩ := own_sliceY O5.out
   subst hve
   have O5' := hid O5.out
   clear hsl n3 n4 n5 x0 x1 x2 x3 x4 x5 x6 x7 x8
   have q0 : w5.cell? ⟨nb, 0, none⟩ = some (.slice (some ⟨g5, 0, none⟩) L'.length cap5) := cell_of_row2 R5 0 rfl
   have q1 : w5.cell? ⟨nb, 1, none⟩ = some (.slice (some ⟨g6, 0, none⟩) sl cap6) := cell_of_row2 R5 1 rfl
   have q2 : w5.cell? ⟨nb, 2, none⟩ = some (.int .u64 ver2) := cell_of_row2 R5 2 rfl
   have q3 : w5.cell? ⟨nb, 3, none⟩ = some (.int .u32 e0) := cell_of_row2 R5 3 rfl
   have q4 : w5.cell? ⟨nb, 4, none⟩ = some (.int .u32 e1) := cell_of_row2 R5 4 rfl
   have q5 : w5.cell? ⟨nb, 5, none⟩ = some (.int .u32 e2) := cell_of_row2 R5 5 rfl
   have q6 : w5.cell? ⟨nb, 6, none⟩ = some (.slice qa qn qc) := cell_of_row2 R5 6 rfl
   have r0 : w5.cell? ⟨w.heap.size, 0, none⟩ = some (.slice none 0 0) := cell_of_row2 Z5.out 0 rfl
   have r1 : w5.cell? ⟨w.heap.size, 1, none⟩ = some (.slice none 0 0) := cell_of_row2 Z5.out 1 rfl
   have r2 : w5.cell? ⟨w.heap.size, 2, none⟩ = some (.int .u64 0) := cell_of_row2 Z5.out 2 rfl
   have r3 : w5.cell? ⟨w.heap.size, 3, none⟩ = some (.int .u32 0) := cell_of_row2 Z5.out 3 rfl
   have r4 : w5.cell? ⟨w.heap.size, 4, none⟩ = some (.int .u32 0) := cell_of_row2 Z5.out 4 rfl
   have r5 : w5.cell? ⟨w.heap.size, 5, none⟩ = some (.int .u32 0) := cell_of_row2 Z5.out 5 rfl
   have r6 : w5.cell? ⟨w.heap.size, 6, none⟩ = some (.slice none 0 0) := cell_of_row2 Z5.out 6 rfl
   have fz : ∀ i, w5.frozen? ⟨w.heap.size, i, none⟩ = false := fun i => by simp only [World.frozen?, Z5.out]; simp
   go_wp2
   rw [rounds_succ]
   go_wp2
   have Q9 := seven_cells Z5.out (.slice (some ⟨g5, 0, none⟩) L'.length cap5) (.slice (some ⟨g6, 0, none⟩) sl cap6) (.int .u64 ver2) (.int .u32 e0) (.int .u32 e1) (.int .u32 e2) (.slice qa qn qc)
   have B9 := hid (((((((B5.out.setCell (p := ⟨w.heap.size, 0, none⟩) (Nat.le_refl _) (.slice (some ⟨g5, 0, none⟩) L'.length cap5)).setCell (p := ⟨w.heap.size, 1, none⟩) (Nat.le_refl _) (.slice (some ⟨g6, 0, none⟩) sl cap6)).setCell (p := ⟨w.heap.size, 2, none⟩) (Nat.le_refl _) (.int .u64 ver2)).setCell (p := ⟨w.heap.size, 3, none⟩) (Nat.le_refl _) (.int .u32 e0)).setCell (p := ⟨w.heap.size, 4, none⟩) (Nat.le_refl _) (.int .u32 e1)).setCell (p := ⟨w.heap.size, 5, none⟩) (Nat.le_refl _) (.int .u32 e2)).setCell (p := ⟨w.heap.size, 6, none⟩) (Nat.le_refl _) (.slice qa qn qc))
   have K9 : Hid (KeepB (w.heap.size + 1) w5 (((((((w5.setCell ⟨w.heap.size, 0, none⟩ (.slice (some ⟨g5, 0, none⟩) L'.length cap5)).setCell ⟨w.heap.size, 1, none⟩ (.slice (some ⟨g6, 0, none⟩) sl cap6)).setCell ⟨w.heap.size, 2, none⟩ (.int .u64 ver2)).setCell ⟨w.heap.size, 3, none⟩ (.int .u32 e0)).setCell ⟨w.heap.size, 4, none⟩ (.int .u32 e1)).setCell ⟨w.heap.size, 5, none⟩ (.int .u32 e2)).setCell ⟨w.heap.size, 6, none⟩ (.slice qa qn qc))) := hid ((((((((KeepB.stay (Stay.refl w5)).set (o := 0) (v := .slice (some ⟨g5, 0, none⟩) L'.length cap5) (Nat.lt_succ_self _)).set (o := 1) (v := .slice (some ⟨g6, 0, none⟩) sl cap6) (Nat.lt_succ_self _)).set (o := 2) (v := .int .u64 ver2) (Nat.lt_succ_self _)).set (o := 3) (v := .int .u32 e0) (Nat.lt_succ_self _)).set (o := 4) (v := .int .u32 e1) (Nat.lt_succ_self _)).set (o := 5) (v := .int .u32 e2) (Nat.lt_succ_self _)).set (o := 6) (v := .slice qa qn qc) (Nat.lt_succ_self _))
   clear q0 q1 q2 q3 q4 q5 q6 r0 r1 r2 r3 r4 r5 r6 fz R5
   generalize (((((((w5.setCell ⟨w.heap.size, 0, none⟩ (.slice (some ⟨g5, 0, none⟩) L'.length cap5)).setCell ⟨w.heap.size, 1, none⟩ (.slice (some ⟨g6, 0, none⟩) sl cap6)).setCell ⟨w.heap.size, 2, none⟩ (.int .u64 ver2)).setCell ⟨w.heap.size, 3, none⟩ (.int .u32 e0)).setCell ⟨w.heap.size, 4, none⟩ (.int .u32 e1)).setCell ⟨w.heap.size, 5, none⟩ (.int .u32 e2)).setCell ⟨w.heap.size, 6, none⟩ (.slice qa qn qc)) = W9 at *
   have r0 : W9.cell? ⟨w.heap.size, 0, none⟩ = some (.slice (some ⟨g5, 0, none⟩) L'.length cap5) := cell_of_row2 Q9 0 rfl
   have r1 : W9.cell? ⟨w.heap.size, 1, none⟩ = some (.slice (some ⟨g6, 0, none⟩) sl cap6) := cell_of_row2 Q9 1 rfl
   have r2 : W9.cell? ⟨w.heap.size, 2, none⟩ = some (.int .u64 ver2) := cell_of_row2 Q9 2 rfl
   have r3 : W9.cell? ⟨w.heap.size, 3, none⟩ = some (.int .u32 e0) := cell_of_row2 Q9 3 rfl
   have r4 : W9.cell? ⟨w.heap.size, 4, none⟩ = some (.int .u32 e1) := cell_of_row2 Q9 4 rfl
   have r5 : W9.cell? ⟨w.heap.size, 5, none⟩ = some (.int .u32 e2) := cell_of_row2 Q9 5 rfl
   have r6 : W9.cell? ⟨w.heap.size, 6, none⟩ = some (.slice qa qn qc) := cell_of_row2 Q9 6 rfl
   have NF := hid (N5.out.kb K9.out)
   have TF : Hid (OwT W9 (w.heap.size + 1) (.slice (some ⟨g6, 0, none⟩) SS.length cap6) SS) := hid (own_kbS T5.out K9.out)
   have QF := hid (Q5.out.kb K9.out)
   have OF : Hid (OwE W9 (w.heap.size + 1) (.slice va5 vn5 vc5) [er]) := hid (own_kbS O5'.out K9.out)
   refine bodyPost_ret (v := .tuple #[.agg #[.slice (some ⟨g5, 0, none⟩) L'.length cap5, .slice (some ⟨g6, 0, none⟩) sl cap6, .int .u64 ver2, .int .u32 e0, .int .u32 e1, .int .u32 e2, .slice qa qn qc], .slice va5 vn5 vc5]) (by simp [results, Tryz.results21, go_sem, r0, r1, r2, r3, r4, r5, r6]) rfl ⟨g5, cap5, g6, cap6, L', qa, qn, qc, _, by rw [HSLN.out], NF.out, E4.out, TF.out, QF.out, OF.out, B9.out⟩)
end Go.Proofs.YtpolbbdaippclaaGreat
