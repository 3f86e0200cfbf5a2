/-
  
-/
import Derived.Test.YtpolbbdaippclaaGreatNsAu
import Derived.Test.YtpolbbdaippclaaGreatNsBg
namespace Go.Proofs.YtpolbbdaippclaaGreat
open Go.RowKit Go.ChangeShapes Go.WideShapes Go.ChangeAt Go.Maps Go.Shelf
set_option linter.unusedVariables false
set_option linter.unusedSimpArgs false
set_option maxRecDepth 100000
def vdB (y : Vd) : List Int := [y.cl] ++ be4 y.num ++ [y.er] ++ rec1B y.rc
def vsB (vs : List Vd) : List Int := (vs.length : Int) :: vs.flatMap vdB
def Vd.Ok (y : Vd) : Prop := y.rc.Wf ∧ rightF y.rc = true ∧ (0 ≤ y.cl ∧ y.cl < 256) ∧ (0 ≤ y.num ∧ y.num < 4294967296) ∧ (0 ≤ y.er ∧ y.er < 256)
theorem grown_trans {a b c : World} {r : Option Nat} (h : a.grownBy b r) (k : b.grownBy c r) : a.grownBy c r :=
 ⟨k.os.trans h.os, k.tape.trans h.tape, k.output.trans h.output, Nat.le_trans h.size k.size, fun i hi hn => (k.block i (Nat.lt_of_lt_of_le hi h.size) hn).trans (h.block i hi hn)⟩
theorem grown_drew (a : World) (r : Option Nat) : a.grownBy a.drew r := ⟨rfl, rfl, rfl, Nat.le_refl _, fun _ _ _ => rfl⟩
theorem own_apart {w : World} {b b' : Nat} {v v' : Value} {x x' : Int} {xs xs' : List Int} (h : OwY w b v (x :: xs)) (h' : OwY w b' v' (x' :: xs')) (hne : x ≠ x') : v.ownBlock = none ∨ v.ownBlock ≠ v'.ownBlock := by
 cases hv : v.ownBlock with
 | none => exact .inl rfl
 | some g =>
   refine .inr fun e => hne ?_
   have h1 := h.cells (g := g) hv 0 (u8V x) rfl
   have h2 := h'.cells (g := g) e.symm 0 (u8V x') rfl
   rw [h1] at h2
   simpa [u8V] using h2
theorem own_apart1 {w : World} {b b' : Nat} {v v' : Value} {R zs t zt : List Int} (h : OwY w b v R) (h' : OwY w b' v' zs) (hR : R = 1 :: t) (hz : zs = 0 :: zt) : v.ownBlock = none ∨ v.ownBlock ≠ v'.ownBlock := by
 subst hR hz
 exact own_apart h h' (by decide)
theorem OwY.kept {w w' : World} {b : Nat} {v : Value} {zs : List Int} {r : Option Nat} (h : OwY w b v zs) (hg : w.grownBy w' r) (hne : v.ownBlock = none ∨ v.ownBlock ≠ r) : OwY w' b v zs := World.ownsRow.kept h hg hne
theorem OwY.byte {w : World} {b : Nat} {v : Value} {x : Int} {xs : List Int} (h : OwY w b v (x :: xs)) : ∃ g c, v = .slice (some ⟨g, 0, none⟩) (x :: xs).length c := by
 rcases h.2 with ⟨_, h2⟩ | ⟨g, cap, cur, e, _⟩
 · simp at h2
 · exact ⟨g, cap, e⟩
theorem own_stays {w w' : World} {b : Nat} {v : Value} {zs : List Int} (h : OwY w b v zs) (hg : w.grownBy w' v.ownBlock) {k : Nat} {o : Obj} (hk : w.heap[k]? = some o) (hu : NotU8 o) : w'.heap[k]? = some o :=
 (hg.block k (lt_blkR hk) (own_u8 h hk hu)).trans hk
theorem step_appY (w : World) {ops : Array Oper} {o : Oper} {a : Act} {K : Act → World → Prop} {Q : Exit → Act → World → Prop} {E : Prop} (hgd : o.guard = none) (s x : Operand)
   (ho : o.op = .call { callee := .builtin .append, args := #[s, x], argTypes := #[49, 49] }) (base : Nat) (v : Value) (zs ns : List Int) (hs : a.eval s = v) (hown : OwY w base v zs)
   (g m c : Nat) (hx : a.eval x = .slice (some ⟨g, 0, none⟩) m c) (hl : ns.length = m) (hg : w.heap[g]? = some (.cells (ns.map u8V).toArray 5 (0, 0))) (hz : zs.length ≤ 1000000) (hn : ns.length ≤ 1000000) (hb : base ≤ w.heap.size)
   (h : ∀ v' w', OwY w' base v' (zs ++ ns) → w.grownBy w' v.ownBlock → K (a.put o.dst v') w') :
   if Region.wanted o (yielded ops a.tmps) = true then Oper.wp Tryz.prog o a w K Q else E := by
 rw [if_pos (by simp [Region.wanted, hgd])]
 obtain ⟨i0, hi, hz0, hz1, hz2⟩ := info_parts8
 refine wp_append_own w s x 49 ho base 5 i0 (.int .u8 0) 1 1 Tryz.underlying49 hi hz0 hz1 hz2 rfl (by decide) v zs.length _ hs hown ⟨g, 0, none⟩ m c (ns.map u8V) hx (by simp [hl]) (row_news hg) (u8V_one ns) (by unfold maxLen; omega) (by omega) hb ?_
 intro v' w' h1 h2 _
 exact h v' w' (by unfold OwY; rw [List.length_append, List.map_append, hl]; exact h1) h2
theorem wpList_appYO (w : World) {ops : Array Oper} {rest : List Oper} {o : Oper} {a : Act} {Q : Exit → Act → World → Prop} (hgd : o.guard = none) (s x : Operand)
   (ho : o.op = .call { callee := .builtin .append, args := #[s, x], argTypes := #[49, 49] }) (base b2 : Nat) (v : Value) (zs ns : List Int) (hs : a.eval s = v) (hown : OwY w base v zs)
   (g m c : Nat) (hx : a.eval x = .slice (some ⟨g, 0, none⟩) m c) (hl : ns.length = m) (hg : OwY w b2 (.slice (some ⟨g, 0, none⟩) m c) ns) (hz : zs.length ≤ 1000000) (hn : ns.length ≤ 1000000) (hb : base ≤ w.heap.size)
   (h : ∀ v' w', OwY w' base v' (zs ++ ns) → w.grownBy w' v.ownBlock → wpList Tryz.prog ops Q rest (a.put o.dst v') w') : wpList Tryz.prog ops Q (o :: rest) a w := by
 obtain ⟨i0, hi, hz0, hz1, hz2⟩ := info_parts8
 refine wpList_append_own w hgd s x 49 ho base 5 i0 (.int .u8 0) 1 1 Tryz.underlying49 hi hz0 hz1 hz2 rfl (by decide) v zs.length _ hs hown ⟨g, 0, none⟩ m c (ns.map u8V) hx (by simp [hl]) (World.ownsRow.cells hg rfl) (u8V_one ns) (by unfold maxLen; omega) (by omega) hb ?_
 intro v' w' h1 h2 _
 exact h v' w' (by unfold OwY; rw [List.length_append, List.map_append, hl]; exact h1) h2
set_option maxHeartbeats 2000000 in
theorem wnumG_c (base : Nat) (v : Value) (zs : List Int) (n : Int) (w : World) (ho : OwY w base v zs) (hb : base ≤ w.heap.size) (hz : zs.length ≤ 100000) (h0 : 0 ≤ n) (h1 : n < 4294967296) :
   Calls Tryz.prog 52 #[v, .int .u32 n] w fun e w' => ∃ v', e = .returned v' ∧ OwY w' base v' (zs ++ be4 n) ∧ w.grownBy w' v.ownBlock := by
 obtain ⟨a, m, c, rfl⟩ := own_sliceY ho
 have HO := hid ho
 clear ho
 go_enter Tryz.func52, Tryz.ntmps52
 go_wp2_with (at_builtin; refine wpList_appY _ rfl _ _ rfl base _ zs (be4 n) rfl (HO.out.later (below_1 _ _)) w.heap.size 4 4 rfl rfl (heap_alloc_new w _) (by omega) (by show 4 ≤ _; omega) (by simp; omega) ?_; intro v' w' ho' hg'; have O' := hid ho'; have B' := hid (grown_trans (World.grownBy_alloc w _ _) hg'); clear ho' hg')
 obtain ⟨a', m', c', rfl⟩ := own_sliceY O'.out
 go_ret
 exact ⟨_, rfl, O'.out, B'.out⟩
set_option maxHeartbeats 4000000 in
theorem wverd_c (base : Nat) (v : Value) (zt : List Int) (y : Vd) (w : World) (ho : OwY w base v (0 :: zt)) (hb : base ≤ w.heap.size) (hz : zt.length ≤ 90000) (hy : y.Ok) :
   Calls Tryz.prog 121 #[v, y.val] w fun e w' => ∃ v', e = .returned v' ∧ OwY w' base v' (0 :: zt ++ vdB y) ∧ Below base w w' := by
 obtain ⟨a, m, c, rfl⟩ := own_sliceY ho
 obtain ⟨hy1, hy2, hy3, hy4, hy5⟩ := hy
 have b0 := below_1 w (.cells #[.int .u8 y.cl, .int .u32 y.num, .int .i64 y.er, .int .u8 y.rc.k, .int .u32 y.rc.fid, .int .u32 y.rc.dir, .string y.rc.nm, .int .u32 y.rc.to, .string y.rc.nm2, .int .u16 y.rc.md, .string y.rc.dt, .int .u64 y.rc.sn] 58)
 have h0 := heap_alloc_new w (.cells #[.int .u8 y.cl, .int .u32 y.num, .int .i64 y.er, .int .u8 y.rc.k, .int .u32 y.rc.fid, .int .u32 y.rc.dir, .string y.rc.nm, .int .u32 y.rc.to, .string y.rc.nm2, .int .u16 y.rc.md, .string y.rc.dt, .int .u64 y.rc.sn] 58)
 have b1 := below_1 (w.alloc (.cells #[.int .u8 y.cl, .int .u32 y.num, .int .i64 y.er, .int .u8 y.rc.k, .int .u32 y.rc.fid, .int .u32 y.rc.dir, .string y.rc.nm, .int .u32 y.rc.to, .string y.rc.nm2, .int .u16 y.rc.md, .string y.rc.dt, .int .u64 y.rc.sn] 58)) (.cells #[.int .u8 y.rc.k, .int .u32 y.rc.fid, .int .u32 y.rc.dir, .string y.rc.nm, .int .u32 y.rc.to, .string y.rc.nm2, .int .u16 y.rc.md, .string y.rc.dt, .int .u64 y.rc.sn] 39)
 have h1 := heap_alloc_new (w.alloc (.cells #[.int .u8 y.cl, .int .u32 y.num, .int .i64 y.er, .int .u8 y.rc.k, .int .u32 y.rc.fid, .int .u32 y.rc.dir, .string y.rc.nm, .int .u32 y.rc.to, .string y.rc.nm2, .int .u16 y.rc.md, .string y.rc.dt, .int .u64 y.rc.sn] 58)) (.cells #[.int .u8 y.rc.k, .int .u32 y.rc.fid, .int .u32 y.rc.dir, .string y.rc.nm, .int .u32 y.rc.to, .string y.rc.nm2, .int .u16 y.rc.md, .string y.rc.dt, .int .u64 y.rc.sn] 39)
 rw [show (w.alloc (.cells #[.int .u8 y.cl, .int .u32 y.num, .int .i64 y.er, .int .u8 y.rc.k, .int .u32 y.rc.fid, .int .u32 y.rc.dir, .string y.rc.nm, .int .u32 y.rc.to, .string y.rc.nm2, .int .u16 y.rc.md, .string y.rc.dt, .int .u64 y.rc.sn] 58)).heap.size = w.heap.size + 1 by simp] at h1
 have RC := hid (records1_c (w.heap.size + 1) 1 y.rc _ h1 hy1 hy2)
 have HB0 := hid (b0.trans (b1.mono b0.size))
 have HX := hid ((b1.block _ (lt_blkR h0)).trans h0)
 have HO := hid (ho.later HB0.out)
 have GW : Hid (w.grownBy ((w.alloc (.cells #[.int .u8 y.cl, .int .u32 y.num, .int .i64 y.er, .int .u8 y.rc.k, .int .u32 y.rc.fid, .int .u32 y.rc.dir, .string y.rc.nm, .int .u32 y.rc.to, .string y.rc.nm2, .int .u16 y.rc.md, .string y.rc.dt, .int .u64 y.rc.sn] 58)).alloc (.cells #[.int .u8 y.rc.k, .int .u32 y.rc.fid, .int .u32 y.rc.dir, .string y.rc.nm, .int .u32 y.rc.to, .string y.rc.nm2, .int .u16 y.rc.md, .string y.rc.dt, .int .u64 y.rc.sn] 39)) (Value.ownBlock (.slice a m c))) := hid (grown_trans (World.grownBy_alloc _ _ _) (World.grownBy_alloc _ _ _))
 have SZ0 : Hid (((w.alloc (.cells #[.int .u8 y.cl, .int .u32 y.num, .int .i64 y.er, .int .u8 y.rc.k, .int .u32 y.rc.fid, .int .u32 y.rc.dir, .string y.rc.nm, .int .u32 y.rc.to, .string y.rc.nm2, .int .u16 y.rc.md, .string y.rc.dt, .int .u64 y.rc.sn] 58)).alloc (.cells #[.int .u8 y.rc.k, .int .u32 y.rc.fid, .int .u32 y.rc.dir, .string y.rc.nm, .int .u32 y.rc.to, .string y.rc.nm2, .int .u16 y.rc.md, .string y.rc.dt, .int .u64 y.rc.sn] 39)).heap.size = w.heap.size + 2) := hid (by simp)
 have ER : Hid (vdB y = [y.cl] ++ be4 y.num ++ [y.er] ++ rec1B y.rc) := hid rfl
 have RL : Hid ((rec1B y.rc).length ≤ 200) := hid (by have := right_size y.rc hy2; unfold rec1B recB; simp only [List.length_append, beF_len, opB_len]; omega)
 have RH : Hid (∃ t, rec1B y.rc = 1 :: t) := hid ⟨recB y.rc, by unfold rec1B; simp [beF]⟩
 rw [ER.out]
 generalize rec1B y.rc = R at *
 clear ER h0 h1 b0 b1 ho hy1 hy2
 obtain ⟨cl, num, er, k, fid, dir, nm, tof, nm2, md, dt, sn⟩ := y
 simp only [Vd.val, Rec.recV] at *
 have we : IntKind.u8.wrap er = er := by rw [IntKind.wrap_u8]; omega
 go_enter Tryz.func121, Tryz.ntmps121
 go_upto_region 2 with (go_at_call 163; refine RC.out.mono ?_; rintro _ w1 ⟨v1, rfl, ho1, hb1⟩; obtain ⟨t, hRt⟩ := RH.out; rw [hRt] at ho1; obtain ⟨g1, c1, rfl⟩ := ho1.byte; rw [← hRt] at ho1 ⊢; have HRT := hid hRt; clear hRt; have O1 := hid ho1; have B1 := hid hb1; clear ho1 hb1)
 have hS0 : w1.drew.heap[w.heap.size]? = some (.cells #[.int .u8 cl, .int .u32 num, .int .i64 er, .int .u8 k, .int .u32 fid, .int .u32 dir, .string nm, .int .u32 tof, .string nm2, .int .u16 md, .string dt, .int .u64 sn] 58 (0, 0)) := (B1.out.block _ (lt_blkR HX.out)).trans HX.out
 have P1 := hid ((HO.out.later B1.out).later (Below.drew (Below.refl w1.heap.size w1)))
 have A1 := hid (O1.out.later (Below.drew (Below.refl w1.heap.size w1)))
 have Z1 : Hid (w.heap.size + 2 ≤ w1.heap.size) := hid (by have := B1.out.size; have := SZ0.out; omega)
 have D1 : Hid (Below base w w1.drew) := hid ((HB0.out.trans (B1.out.mono HB0.out.size)).mono hb |>.drew)
 have LL : ∀ w' : World, (w'.heap[w.heap.size]? = some (.cells #[.int .u8 cl, .int .u32 num, .int .i64 er, .int .u8 k, .int .u32 fid, .int .u32 dir, .string nm, .int .u32 tof, .string nm2, .int .u16 md, .string dt, .int .u64 sn] 58 (0, 0))) → (w'.heap[w.heap.size]? = some (.cells #[.int .u8 cl, .int .u32 num, .int .i64 er, .int .u8 k, .int .u32 fid, .int .u32 dir, .string nm, .int .u32 tof, .string nm2, .int .u16 md, .string dt, .int .u64 sn] 58 (0, 0))) := fun _ h => h
 have NU : Hid (NotU8 (.cells #[.int .u8 cl, .int .u32 num, .int .i64 er, .int .u8 k, .int .u32 fid, .int .u32 dir, .string nm, .int .u32 tof, .string nm2, .int .u16 md, .string dt, .int .u64 sn] 58 (0, 0))) := hid (fun cs fr e => by injection e with e1 e2; cases e2)
 clear HX HO GW B1 O1
 have hS1 : (w1.drew.alloc (.cells #[.int .u8 cl] 5)).heap[w.heap.size]? = some (.cells #[.int .u8 cl, .int .u32 num, .int .i64 er, .int .u8 k, .int .u32 fid, .int .u32 dir, .string nm, .int .u32 tof, .string nm2, .int .u16 md, .string dt, .int .u64 sn] 58 (0, 0)) := ((below_1 w1.drew _).block _ (lt_blkR hS0)).trans hS0
 go_wp2_with fail
 refine wp_region_held_drew (S := fun w' => w'.heap[w.heap.size]? = some (.cells #[.int .u8 cl, .int .u32 num, .int .i64 er, .int .u8 k, .int .u32 fid, .int .u32 dir, .string nm, .int .u32 tof, .string nm2, .int .u16 md, .string dt, .int .u64 sn] 58 (0, 0))) (by kernel_rfl) hS0 (fun hHeld => ?_)
 refine take_l 0 (v := ?_) rfl (by kernel_rfl) (by kernel_rfl) (by kernel_rfl) (fun _ _ _ h => h) (Or.inl ⟨by rfl, ?_⟩) (by assumption) ?_
 rotate_left
 · (intro w' hSw; clear hSw; go_simp; first | done | with_reducible rfl)
 try simp only [Act.put, List.setIfInBounds_toArray, List.set_cons_zero, List.set_cons_succ]
 refine take_l 1 (v := ?_) rfl (by kernel_rfl) (by kernel_rfl) (by kernel_rfl) (fun _ _ _ h => h) (Or.inl ⟨by rfl, ?_⟩) (by assumption) ?_
 rotate_left
 · (intro w' hSw; clear hSw; go_simp; first | done | with_reducible rfl)
 try simp only [Act.put, List.setIfInBounds_toArray, List.set_cons_zero, List.set_cons_succ]
 refine take_l 2 (v := ?_) rfl (by kernel_rfl) (by kernel_rfl) (by kernel_rfl) (fun _ _ _ h => h) (Or.inl ⟨by rfl, ?_⟩) (by assumption) ?_
 rotate_left
 · (intro w' hSw; (have q0 : w'.cell? ⟨w.heap.size, 0, none⟩ = some (.int .u8 cl) := cell_of_row2 (LL _ hSw) 0 rfl); clear hSw; go_simp; first | done | with_reducible rfl)
 try simp only [Act.put, List.setIfInBounds_toArray, List.set_cons_zero, List.set_cons_succ]
 refine take_l 5 (v := ?_) rfl (by kernel_rfl) (by kernel_rfl) (by kernel_rfl) (fun _ _ _ h => h) (Or.inl ⟨by rfl, ?_⟩) (by assumption) ?_
 rotate_left
 · (intro w' hSw; clear hSw; go_simp; first | done | with_reducible rfl)
 try simp only [Act.put, List.setIfInBounds_toArray, List.set_cons_zero, List.set_cons_succ]
 refine take_l 6 (v := ?_) rfl (by kernel_rfl) (by kernel_rfl) (by kernel_rfl) (fun _ _ _ h => h) (Or.inl ⟨by rfl, ?_⟩) (by assumption) ?_
 rotate_left
 · (intro w' hSw; (have q0 : w'.cell? ⟨w.heap.size, 1, none⟩ = some (.int .u32 num) := cell_of_row2 (LL _ hSw) 1 rfl); clear hSw; go_simp; first | done | with_reducible rfl)
 try simp only [Act.put, List.setIfInBounds_toArray, List.set_cons_zero, List.set_cons_succ]
 refine cons_l 3 rfl (by kernel_rfl) (fun K hK => ?_)
 go_simp
 refine hK.out _ _ hS1 (fun hHeld => ?_)
 clear hK K
 try simp only [Act.put, List.setIfInBounds_toArray, List.set_cons_zero, List.set_cons_succ]
 refine cons_l 4 rfl (by kernel_rfl) (fun K hK => ?_)
 refine step_appY _ (by rfl) _ _ (by rfl) base _ (0 :: zt) [cl] (by rfl) (P1.out.later (below_1 _ _)) w1.heap.size 1 1 (by rfl) rfl (heap_alloc_new w1.drew _) (by simp; omega) (by simp) (by have := Z1.out; show base ≤ (w1.drew.alloc _).heap.size; simp; omega) ?_
 intro v4 w4 ho4 hg4
 have A4 := hid ((A1.out.later (below_1 w1.drew (.cells #[.int .u8 cl] 5))).kept hg4 (own_apart1 (A1.out.later (below_1 w1.drew (.cells #[.int .u8 cl] 5))) (P1.out.later (below_1 w1.drew (.cells #[.int .u8 cl] 5))) HRT.out rfl))
 have O4 := hid ho4
 have D4 : Hid (Below base w w4) := hid (below_grownY (D1.out.trans ((below_1 w1.drew (.cells #[.int .u8 cl] 5)).mono (by have := Z1.out; show base ≤ w1.heap.size; omega))) (P1.out.later (below_1 w1.drew (.cells #[.int .u8 cl] 5))) (Nat.le_refl _) (by have := Z1.out; show base ≤ (w1.drew.alloc _).heap.size; simp; omega) hg4)
 have Z4 : Hid (base ≤ w4.heap.size) := hid (by have := D4.out.size; omega)
 have hS4 := own_stays (P1.out.later (below_1 w1.drew (.cells #[.int .u8 cl] 5))) hg4 hS1 NU.out
 obtain ⟨a4, n4, k4, rfl⟩ := own_sliceY ho4
 have WN := hid (wnumG_c base _ _ num w4 O4.out Z4.out (by simp; omega) hy4.1 hy4.2)
 clear ho4 hg4
 go_simp
 refine hK.out _ _ hS4 (fun hHeld => ?_)
 clear hK K
 try simp only [Act.put, List.setIfInBounds_toArray, List.set_cons_zero, List.set_cons_succ]
 refine cons_l 7 rfl (by kernel_rfl) (fun K hK => ?_)
 go_simp
 refine WN.out.mono ?_; rintro _ w5 ⟨v5, rfl, ho5, hg5⟩
 have O5 := hid ho5
 have A5 := hid (A4.out.kept hg5 (own_apart1 A4.out O4.out HRT.out rfl))
 have D5 : Hid (Below base w w5) := hid (below_grownY D4.out O4.out (Nat.le_refl _) Z4.out hg5)
 have hS5 := own_stays O4.out hg5 hS4 NU.out
 obtain ⟨a5, n5, k5, rfl⟩ := own_sliceY ho5
 clear ho5 hg5
 go_simp
 refine hK.out _ _ hS5 (fun hHeld => ?_)
 clear hK K
 try simp only [Act.put, List.setIfInBounds_toArray, List.set_cons_zero, List.set_cons_succ]
 refine take_l 8 (v := ?_) rfl (by kernel_rfl) (by kernel_rfl) (by kernel_rfl) (fun _ _ _ h => h) (Or.inl ⟨by rfl, ?_⟩) (by assumption) ?_
 rotate_left
 · (intro w' hSw; clear hSw; go_simp; first | done | with_reducible rfl)
 try simp only [Act.put, List.setIfInBounds_toArray, List.set_cons_zero, List.set_cons_succ]
 refine wpAnyH_done (by kernel_rfl) ?_ _
 have e2 : w5.cell? ⟨w.heap.size, 2, none⟩ = some (.int .i64 er) := cell_of_row2 hS5 2 rfl
 have Z5 : Hid (base ≤ w5.heap.size) := hid (by have := D5.out.size; omega)
 clear hS0 hS1 hS4 hS5 LL hHeld WN
 go_wp2_with (first
   | (at_builtin; refine wpList_appYO _ rfl _ _ rfl base _ _ _ R rfl O7.out g1 _ c1 rfl (by rw [HRT.out]) A7.out (by simp [be4]; omega) (by have := RL.out; omega) Z7.out ?_; intro v8 w8 ho8 hg8; have O8 := hid ho8; have D8 : Hid (Below base w w8) := hid (below_grownY D7.out O7.out (Nat.le_refl _) Z7.out hg8); clear ho8 hg8; obtain ⟨a8, n8, k8, rfl⟩ := own_sliceY O8.out)
   | (at_builtin; refine wpList_appY _ rfl _ _ rfl base _ _ [er] rfl (O5.out.later (below_1 _ _)) w5.heap.size 1 1 rfl rfl (heap_alloc_new w5 _) (by simp [be4]; omega) (by simp) (by have := Z5.out; simp; omega) ?_; intro v7 w7 ho7 hg7; have O7 := hid ho7; have A7 := hid ((A5.out.later (below_1 w5 (.cells #[.int .u8 er] 5))).kept hg7 (own_apart1 (A5.out.later (below_1 w5 (.cells #[.int .u8 er] 5))) (O5.out.later (below_1 w5 (.cells #[.int .u8 er] 5))) HRT.out rfl)); have D7 : Hid (Below base w w7) := hid (below_grownY (D5.out.trans ((below_1 w5 (.cells #[.int .u8 er] 5)).mono Z5.out)) (O5.out.later (below_1 w5 (.cells #[.int .u8 er] 5))) (Nat.le_refl _) (by have := Z5.out; simp; omega) hg7); have Z7 : Hid (base ≤ w7.heap.size) := hid (by have := D7.out.size; omega); clear ho7 hg7; obtain ⟨a7, n7, k7, rfl⟩ := own_sliceY O7.out))
 go_ret
 exact ⟨_, rfl, by simpa using O8.out, D8.out⟩
end Go.Proofs.YtpolbbdaippclaaGreat
