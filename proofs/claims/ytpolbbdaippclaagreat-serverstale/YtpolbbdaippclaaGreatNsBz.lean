/-
  
-/
import Derived.Test.YtpolbbdaippclaaGreatNsBx
import Derived.Test.YtpolbbdaippclaaGreatNsBg
namespace Go.Proofs.YtpolbbdaippclaaGreat
open Go.RowKit Go.ChangeShapes Go.WideShapes Go.ChangeAt Go.Maps Go.Shelf
set_option linter.unusedVariables false
set_option linter.unusedSimpArgs false
set_option maxRecDepth 100000
set_option maxHeartbeats 4000000 in
theorem stale8_c (o : Rec) (hk : o.k = 8) (b : Nat) (cl : Int) (w : World) (ad bd : Addr) (ca cb : Nat) (l : List Nd) (ss : List St) (ver d0 d1 d2 : Int) (ve : Value)
   (hrow : w.heap[b]? = some (.cells #[.slice (some ad) l.length ca, .slice (some bd) ss.length cb, .int .u64 ver, .int .u32 d0, .int .u32 d1, .int .u32 d2, ve] 76 (0, 0))) (h : IsNs w (some ad) l) (hs : IsSs w (some bd) ss) (hll : ss.length = l.length) (hm : l.length ≤ 900) (hsn : o.sn ≠ 0) (i : Nat) (hi : plI l o.fid = i) (hil : i < l.length) :
   Calls Tryz.prog 107 #[.pointer (some ⟨b, 0, none⟩), .int .u8 cl, o.recV] w fun e w' => e = .returned (.bool ((ss.getD i St.no).ver != o.sn && (ss.getD i St.no).wr != cl)) ∧ Below w.heap.size w w' := by
 obtain ⟨k, fid, dir, nm, tof, nm2, md, dt, sn⟩ := o
 have hk : k = 8 := hk
 subst hk
 have hsn : sn ≠ 0 := hsn
 obtain ⟨⟨sf, sv, sw⟩, hst⟩ : ∃ st, st = ss.getD i St.no := ⟨_, rfl⟩
 rw [← hst]
 have HST := hid hst
 clear hst
 have hs0 : (sn == 0) = false := beq_eq_false_iff_ne.2 hsn
 simp only [Rec.recV] at *
 have b0 := below_1 w (.cells #[.int .u8 8, .int .u32 fid, .int .u32 dir, .string nm, .int .u32 tof, .string nm2, .int .u16 md, .string dt, .int .u64 sn] 39)
 have h0 := heap_alloc_new w (.cells #[.int .u8 8, .int .u32 fid, .int .u32 dir, .string nm, .int .u32 tof, .string nm2, .int .u16 md, .string dt, .int .u64 sn] 39)
 have hr0 := (b0.block _ (lt_blkR hrow)).trans hrow
 have B0 := hid b0
 have hL : i < ss.length := by rw [hll]; exact hil
 have hiI : (i : Int) < (ss.length : Int) := by omega
 have hi0 : ¬ (i : Int) < 0 := by omega
 have PC0 := fun W (hW : Below w.heap.size w W) => splaceOf_c (some ad) ca l fid W (h.later hW) (by omega)
 rw [hi] at PC0
 have PC := hid PC0
 have SS := hid (fun W (hW : Below w.heap.size w W) => hs.later hW)
 clear b0 hrow h hs PC0 hi hll hil hsn
 obtain ⟨g0, hg0⟩ : ∃ g0, g0 = w.heap.size := ⟨_, rfl⟩
 go_enter Tryz.func107, Tryz.ntmps107
 go_upto_region 1 with fail
 generalize (w.alloc (.cells #[.int .u8 8, .int .u32 fid, .int .u32 dir, .string nm, .int .u32 tof, .string nm2, .int .u16 md, .string dt, .int .u64 sn] 39)) = V at *
 rw [← hg0] at h0
 rw [← hg0]
 have c0 : V.cell? ⟨g0, 0, none⟩ = some (.int .u8 8) := cell_of_row2 h0 0 rfl
 have c8 : V.cell? ⟨g0, 8, none⟩ = some (.int .u64 sn) := cell_of_row2 h0 8 rfl
 have HG0 := hid hg0
 clear hg0
 have hS0 : V.drew.heap[b]? = some (.cells #[.slice (some ad) l.length ca, .slice (some bd) ss.length cb, .int .u64 ver, .int .u32 d0, .int .u32 d1, .int .u32 d2, ve] 76 (0, 0)) ∧ V.drew.heap[g0]? = some (.cells #[.int .u8 8, .int .u32 fid, .int .u32 dir, .string nm, .int .u32 tof, .string nm2, .int .u16 md, .string dt, .int .u64 sn] 39 (0, 0)) := ⟨hr0, h0⟩
 have HX := hid h0
 have HR := hid hr0
 clear h0 hr0
 go_upto_region 3 with fail
 clear c0 c8
 have DD := hid (Below.drew (Below.refl V.heap.size V))
 have A0 : ∀ w' : World, (w'.heap[b]? = some (.cells #[.slice (some ad) l.length ca, .slice (some bd) ss.length cb, .int .u64 ver, .int .u32 d0, .int .u32 d1, .int .u32 d2, ve] 76 (0, 0)) ∧ w'.heap[g0]? = some (.cells #[.int .u8 8, .int .u32 fid, .int .u32 dir, .string nm, .int .u32 tof, .string nm2, .int .u16 md, .string dt, .int .u64 sn] 39 (0, 0))) → w'.cell? ⟨b, 0, none⟩ = some (.slice (some ad) l.length ca) := fun w' h => cell_of_row2 h.1 0 rfl
 have A1 : ∀ w' : World, (w'.heap[b]? = some (.cells #[.slice (some ad) l.length ca, .slice (some bd) ss.length cb, .int .u64 ver, .int .u32 d0, .int .u32 d1, .int .u32 d2, ve] 76 (0, 0)) ∧ w'.heap[g0]? = some (.cells #[.int .u8 8, .int .u32 fid, .int .u32 dir, .string nm, .int .u32 tof, .string nm2, .int .u16 md, .string dt, .int .u64 sn] 39 (0, 0))) → w'.cell? ⟨g0, 1, none⟩ = some (.int .u32 fid) := fun w' h => cell_of_row2 h.2 1 rfl
 have PV := hid (PC.out V.drew (B0.out.trans (DD.out.mono B0.out.size)))
 go_wp2_with fail
 refine wp_region_held_drew (S := fun w' => w'.heap[b]? = some (.cells #[.slice (some ad) l.length ca, .slice (some bd) ss.length cb, .int .u64 ver, .int .u32 d0, .int .u32 d1, .int .u32 d2, ve] 76 (0, 0)) ∧ w'.heap[g0]? = some (.cells #[.int .u8 8, .int .u32 fid, .int .u32 dir, .string nm, .int .u32 tof, .string nm2, .int .u16 md, .string dt, .int .u64 sn] 39 (0, 0))) (by kernel_rfl) hS0 (fun hHeld => ?_)
 refine take_l 0 (v := ?_) rfl (by kernel_rfl) (by kernel_rfl) (by kernel_rfl) (fun _ _ _ h => h) (Or.inl ⟨by rfl, ?_⟩) (by assumption) ?_
 rotate_left
 · (intro w' hSw; clear hSw; go_simp; first | done | with_reducible rfl)
 try simp only [Act.put, List.setIfInBounds_toArray, List.set_cons_zero, List.set_cons_succ]
 refine take_l 1 (v := ?_) rfl (by kernel_rfl) (by kernel_rfl) (by kernel_rfl) (fun _ _ _ h => h) (Or.inl ⟨by rfl, ?_⟩) (by assumption) ?_
 rotate_left
 · (intro w' hSw; clear hSw; go_simp; first | done | with_reducible rfl)
 try simp only [Act.put, List.setIfInBounds_toArray, List.set_cons_zero, List.set_cons_succ]
 refine take_l 2 (v := ?_) rfl (by kernel_rfl) (by kernel_rfl) (by kernel_rfl) (fun _ _ _ h => h) (Or.inl ⟨by rfl, ?_⟩) (by assumption) ?_
 rotate_left
 · (intro w' hSw; clear hSw; go_simp; first | done | with_reducible rfl)
 try simp only [Act.put, List.setIfInBounds_toArray, List.set_cons_zero, List.set_cons_succ]
 refine take_l 3 (v := ?_) rfl (by kernel_rfl) (by kernel_rfl) (by kernel_rfl) (fun _ _ _ h => h) (Or.inl ⟨by rfl, ?_⟩) (by assumption) ?_
 rotate_left
 · (intro w' hSw; clear hSw; go_simp; first | done | with_reducible rfl)
 try simp only [Act.put, List.setIfInBounds_toArray, List.set_cons_zero, List.set_cons_succ]
 refine take_l 4 (v := ?_) rfl (by kernel_rfl) (by kernel_rfl) (by kernel_rfl) (fun _ _ _ h => h) (Or.inl ⟨by rfl, ?_⟩) (by assumption) ?_
 rotate_left
 · (intro w' hSw; (have kq := A0 _ hSw); clear hSw; go_simp; first | done | with_reducible rfl)
 try simp only [Act.put, List.setIfInBounds_toArray, List.set_cons_zero, List.set_cons_succ]
 refine take_l 5 (v := ?_) rfl (by kernel_rfl) (by kernel_rfl) (by kernel_rfl) (fun _ _ _ h => h) (Or.inl ⟨by rfl, ?_⟩) (by assumption) ?_
 rotate_left
 · (intro w' hSw; clear hSw; go_simp; first | done | with_reducible rfl)
 try simp only [Act.put, List.setIfInBounds_toArray, List.set_cons_zero, List.set_cons_succ]
 refine take_l 6 (v := ?_) rfl (by kernel_rfl) (by kernel_rfl) (by kernel_rfl) (fun _ _ _ h => h) (Or.inl ⟨by rfl, ?_⟩) (by assumption) ?_
 rotate_left
 · (intro w' hSw; clear hSw; go_simp; first | done | with_reducible rfl)
 try simp only [Act.put, List.setIfInBounds_toArray, List.set_cons_zero, List.set_cons_succ]
 refine take_l 7 (v := ?_) rfl (by kernel_rfl) (by kernel_rfl) (by kernel_rfl) (fun _ _ _ h => h) (Or.inl ⟨by rfl, ?_⟩) (by assumption) ?_
 rotate_left
 · (intro w' hSw; (have kq := A1 _ hSw); clear hSw; go_simp; first | done | with_reducible rfl)
 try simp only [Act.put, List.setIfInBounds_toArray, List.set_cons_zero, List.set_cons_succ]
 refine cons_l 8 rfl (by kernel_rfl) (fun K hK => ?_)
 go_simp
 refine PV.out.mono ?_; rintro _ w2 ⟨rfl, hb2⟩
 have D2 := hid (DD.out.trans (hb2.mono DD.out.size))
 have hS2 : w2.heap[b]? = some (.cells #[.slice (some ad) l.length ca, .slice (some bd) ss.length cb, .int .u64 ver, .int .u32 d0, .int .u32 d1, .int .u32 d2, ve] 76 (0, 0)) ∧ w2.heap[g0]? = some (.cells #[.int .u8 8, .int .u32 fid, .int .u32 dir, .string nm, .int .u32 tof, .string nm2, .int .u16 md, .string dt, .int .u64 sn] 39 (0, 0)) := ⟨(hb2.block _ (lt_blkR hS0.1)).trans hS0.1, (hb2.block _ (lt_blkR hS0.2)).trans hS0.2⟩
 clear hb2 hS0
 go_simp
 refine hK.out _ _ hS2 (fun hHeld => ?_)
 clear hK K
 try simp only [Act.put, List.setIfInBounds_toArray, List.set_cons_zero, List.set_cons_succ]
 refine take_l 9 (v := ?_) rfl (by kernel_rfl) (by kernel_rfl) (by kernel_rfl) (fun _ _ _ h => h) (Or.inl ⟨by rfl, ?_⟩) (by assumption) ?_
 rotate_left
 · (intro w' hSw; clear hSw; go_simp; first | done | with_reducible rfl)
 try simp only [Act.put, List.setIfInBounds_toArray, List.set_cons_zero, List.set_cons_succ]
 refine wpAnyH_done (by kernel_rfl) ?_ _
 clear A0 A1 hHeld
 have B2 := hid (B0.out.trans (D2.out.mono B0.out.size))
 have HS2 := SS.out w2 B2.out
 obtain ⟨b3, off3, e3, _⟩ := HS2.2.2 (by omega)
 cases e3
 obtain ⟨z0, z1, z2⟩ := HS2.at (i := i) hL
 have q1 : w2.cell? ⟨b, 1, none⟩ = some (.slice (some ⟨b3, off3, none⟩) ss.length cb) := cell_of_row2 hS2.1 1 rfl
 have HX2 := hid hS2.2
 clear HS2 hS2 HX HR
 rw [← HST.out] at z0 z1 z2
 simp only at z0 z1 z2
 go_upto_region 7 with fail
 have b4 := below_1 w2 (.cells #[.int .u32 sf, .int .u64 sv, .int .u8 sw] 47)
 have g4 := heap_alloc_new w2 (.cells #[.int .u32 sf, .int .u64 sv, .int .u8 sw] 47)
 have hx4 := (b4.block _ (lt_blkR HX2.out)).trans HX2.out
 have B4 := hid (B2.out.trans (b4.mono B2.out.size))
 clear b4 z0 z1 z2 q1
 generalize (w2.alloc (.cells #[.int .u32 sf, .int .u64 sv, .int .u8 sw] 47)) = V4 at *
 have x1 : V4.cell? ⟨w2.heap.size, 1, none⟩ = some (.int .u64 sv) := cell_of_row2 g4 1 rfl
 have x2 : V4.cell? ⟨w2.heap.size, 2, none⟩ = some (.int .u8 sw) := cell_of_row2 g4 2 rfl
 have x8 : V4.cell? ⟨g0, 8, none⟩ = some (.int .u64 sn) := cell_of_row2 hx4 8 rfl
 clear g4 hx4
 cases t1 : (sv != sn) <;> cases t2 : (sw != cl) <;> (go_wp2; go_ret; exact ⟨by first | rfl | exact ret_bool (by simp [t1, t2]), B4.out⟩)
set_option maxHeartbeats 2000000 in
theorem try_stale (b : Nat) (o : Rec) (cl : Int) (w : World) (ST : ∀ W, Below w.heap.size w W → Calls Tryz.prog 107 #[.pointer (some ⟨b, 0, none⟩), .int .u8 cl, o.recV] W fun e w' => e = .returned (.bool true) ∧ Below W.heap.size W w') :
   Calls Tryz.prog 71 #[.pointer (some ⟨b, 0, none⟩), .int .u8 cl, o.recV] w fun e w' => e = .returned (.int .i64 12) ∧ Below w.heap.size w w' := by
 have b0 := below_1 w (.cells #[.int .u8 o.k, .int .u32 o.fid, .int .u32 o.dir, .string o.nm, .int .u32 o.to, .string o.nm2, .int .u16 o.md, .string o.dt, .int .u64 o.sn] 39)
 have h0 := heap_alloc_new w (.cells #[.int .u8 o.k, .int .u32 o.fid, .int .u32 o.dir, .string o.nm, .int .u32 o.to, .string o.nm2, .int .u16 o.md, .string o.dt, .int .u64 o.sn] 39)
 have B0 := hid b0
 have SV := hid (ST _ b0)
 clear b0 ST
 obtain ⟨k, fid, dir, nm, tof, nm2, md, dt, sn⟩ := o
 simp only [Rec.recV] at *
 go_enter Tryz.func71, Tryz.ntmps71
 go_upto_region 1 with fail
 generalize (w.alloc (.cells #[.int .u8 k, .int .u32 fid, .int .u32 dir, .string nm, .int .u32 tof, .string nm2, .int .u16 md, .string dt, .int .u64 sn] 39)) = V at *
 have y0 : V.cell? ⟨w.heap.size, 0, none⟩ = some (.int .u8 k) := cell_of_row2 h0 0 rfl
 have y1 : V.cell? ⟨w.heap.size, 1, none⟩ = some (.int .u32 fid) := cell_of_row2 h0 1 rfl
 have y2 : V.cell? ⟨w.heap.size, 2, none⟩ = some (.int .u32 dir) := cell_of_row2 h0 2 rfl
 have y3 : V.cell? ⟨w.heap.size, 3, none⟩ = some (.string nm) := cell_of_row2 h0 3 rfl
 have y4 : V.cell? ⟨w.heap.size, 4, none⟩ = some (.int .u32 tof) := cell_of_row2 h0 4 rfl
 have y5 : V.cell? ⟨w.heap.size, 5, none⟩ = some (.string nm2) := cell_of_row2 h0 5 rfl
 have y6 : V.cell? ⟨w.heap.size, 6, none⟩ = some (.int .u16 md) := cell_of_row2 h0 6 rfl
 have y7 : V.cell? ⟨w.heap.size, 7, none⟩ = some (.string dt) := cell_of_row2 h0 7 rfl
 have y8 : V.cell? ⟨w.heap.size, 8, none⟩ = some (.int .u64 sn) := cell_of_row2 h0 8 rfl
 clear h0
 go_wp2_with (go_at_call 107; refine SV.out.mono ?_; rintro _ w1 ⟨rfl, hb1⟩)
 go_ret
 exact ⟨rfl, B0.out.trans (hb1.mono B0.out.size)⟩
set_option maxHeartbeats 8000000 in
theorem do2_stale {b base : Nat} {w : World} (o : Rec) (num : Int) (ad bd : Addr) (ca cb : Nat) (l : List Nd) (ss : List St) (ver d0 d1 d2 : Int)
   (hrow : w.heap[b]? = some (.cells #[.slice (some ad) l.length ca, .slice (some bd) ss.length cb, .int .u64 ver, .int .u32 d0, .int .u32 d1, .int .u32 d2, .slice none 0 0] 76 (0, 0))) (h : NsO w base (.slice (some ad) l.length ca) l) (hs : OwT w base (.slice (some bd) ss.length cb) ss) (hsw : ∀ s ∈ ss, s.Wf) (hll : ss.length = l.length) (hl0 : 0 < l.length) (hm : l.length ≤ 900)
   (ST : ∀ W, W.heap[b]? = some (.cells #[.slice (some ad) l.length ca, .slice (some bd) ss.length cb, .int .u64 ver, .int .u32 d0, .int .u32 num, .int .u32 d2, .slice none 0 0] 76 (0, 0)) → IsNs W (some ad) l → IsSs W (some bd) ss → Calls Tryz.prog 107 #[.pointer (some ⟨b, 0, none⟩), .int .u8 2, o.recV] W fun e w' => e = .returned (.bool true) ∧ Below W.heap.size W w') :
   Calls Tryz.prog 43 #[.pointer (some ⟨b, 0, none⟩), .int .u8 2, .int .u32 num, o.recV] w fun e w' => e = .returned (.int .i64 12) ∧ ∃ va vn vc, w'.heap[b]? = some (.cells #[.slice (some ad) l.length ca, .slice (some bd) ss.length cb, .int .u64 ver, .int .u32 d0, .int .u32 num, .int .u32 d2, .slice va vn vc] 76 (0, 0)) ∧ NsO w' base (.slice (some ad) l.length ca) l ∧ OwT w' base (.slice (some bd) ss.length cb) ss ∧ OwV w' w.heap.size (.slice va vn vc) ⟨2, num, 12, o⟩ ∧ Ou (fun k => k = b) w w' := by
 have b0 := below_1 w (.cells #[.int .u8 o.k, .int .u32 o.fid, .int .u32 o.dir, .string o.nm, .int .u32 o.to, .string o.nm2, .int .u16 o.md, .string o.dt, .int .u64 o.sn] 39)
 have h0 := heap_alloc_new w (.cells #[.int .u8 o.k, .int .u32 o.fid, .int .u32 o.dir, .string o.nm, .int .u32 o.to, .string o.nm2, .int .u16 o.md, .string o.dt, .int .u64 o.sn] 39)
 have hr0 := (b0.block _ (lt_blkR hrow)).trans hrow
 have hbl : b < w.heap.size := lt_blkR hrow
 have hw1 := heap_setCell_same (w.alloc (.cells #[.int .u8 o.k, .int .u32 o.fid, .int .u32 o.dir, .string o.nm, .int .u32 o.to, .string o.nm2, .int .u16 o.md, .string o.dt, .int .u64 o.sn] 39)) b 4 _ _ (.int .u32 num) hr0
 have hx1 : ((w.alloc (.cells #[.int .u8 o.k, .int .u32 o.fid, .int .u32 o.dir, .string o.nm, .int .u32 o.to, .string o.nm2, .int .u16 o.md, .string o.dt, .int .u64 o.sn] 39)).setCell ⟨b, 4, none⟩ (.int .u32 num)).heap[w.heap.size]? = _ := (heap_setCell_other _ ⟨b, 4, none⟩ w.heap.size _ (by show w.heap.size ≠ b; omega)).trans h0
 have N1 := hid ((h.later b0).setS (q := ⟨b, 4, none⟩) hr0 (by decide) (by decide) (by decide) (.int .u32 num))
 have T1 := hid ((hs.later b0).setS (q := ⟨b, 4, none⟩) hr0 (by decide) (.int .u32 num))
 have U1 : Hid (Ou (fun k => k = b) w ((w.alloc (.cells #[.int .u8 o.k, .int .u32 o.fid, .int .u32 o.dir, .string o.nm, .int .u32 o.to, .string o.nm2, .int .u16 o.md, .string o.dt, .int .u64 o.sn] 39)).setCell ⟨b, 4, none⟩ (.int .u32 num))) := hid ((Ou.of b0).set (g := b) (o := 4) (v := .int .u32 num) rfl)
 have hz1 : Hid (w.heap.size < ((w.alloc (.cells #[.int .u8 o.k, .int .u32 o.fid, .int .u32 o.dir, .string o.nm, .int .u32 o.to, .string o.nm2, .int .u16 o.md, .string o.dt, .int .u64 o.sn] 39)).setCell ⟨b, 4, none⟩ (.int .u32 num)).heap.size) := hid (by simp)
 have k3 : (w.alloc (.cells #[.int .u8 o.k, .int .u32 o.fid, .int .u32 o.dir, .string o.nm, .int .u32 o.to, .string o.nm2, .int .u16 o.md, .string o.dt, .int .u64 o.sn] 39)).cell? ⟨b, 4, none⟩ = some (.int .u32 d1) := cell_of_row2 hr0 4 rfl
 have kz : ∀ i, (w.alloc (.cells #[.int .u8 o.k, .int .u32 o.fid, .int .u32 o.dir, .string o.nm, .int .u32 o.to, .string o.nm2, .int .u16 o.md, .string o.dt, .int .u64 o.sn] 39)).frozen? ⟨b, i, none⟩ = false := fun i => by simp only [World.frozen?, hr0]; simp
 have TRY := fun (W : World) (hW1 : W.heap[b]? = some (.cells #[.slice (some ad) l.length ca, .slice (some bd) ss.length cb, .int .u64 ver, .int .u32 d0, .int .u32 num, .int .u32 d2, .slice none 0 0] 76 (0, 0))) (hW2 : NsO W base (.slice (some ad) l.length ca) l) (hW3 : OwT W base (.slice (some bd) ss.length cb) ss) => (by
   obtain ⟨g1, c1, e1, _, t1⟩ := OwN.trN hW2.1 (fun x hx => hW2.2 x hx) hl0 (by omega)
   obtain ⟨g2, c2, e2, _, t2⟩ := OwT.is hW3 hsw (by omega) (by omega)
   have q1 : ad = ⟨g1, 0, none⟩ := by simp only [Value.slice.injEq, Option.some.injEq] at e1; exact e1.1
   have q2 : bd = ⟨g2, 0, none⟩ := by simp only [Value.slice.injEq, Option.some.injEq] at e2; exact e2.1
   rw [← q1] at t1
   rw [← q2] at t2
   exact try_stale b o 2 W (fun X hX => ST X ((hX.block _ (lt_blkR hW1)).trans hW1) (t1.1.later hX) (t2.later hX)) : Calls Tryz.prog 71 #[.pointer (some ⟨b, 0, none⟩), .int .u8 2, o.recV] W _)
 have TRYH := hid (TRY _ hw1 N1.out T1.out)
 have AV := hid (addV_c ⟨2, num, 12, o⟩)
 have HX1 := hid hx1
 have HW1 := hid hw1
 clear TRY h hs hsw hll ST hrow hr0 hw1 hx1 h0 b0
 obtain ⟨k, fid, dir, nm, tof, nm2, md, dt, sn⟩ := o
 simp only [Rec.recV, Vd.val] at *
 go_enter Tryz.func43, Tryz.ntmps43
 go_upto_region 1 with fail
 generalize (w.alloc (.cells #[.int .u8 k, .int .u32 fid, .int .u32 dir, .string nm, .int .u32 tof, .string nm2, .int .u16 md, .string dt, .int .u64 sn] 39)) = V0 at *
 go_upto_region 2 with fail
 clear k3 kz
 generalize (V0.setCell ⟨b, 4, none⟩ (.int .u32 num)) = V at *
 have y0 : V.cell? ⟨w.heap.size, 0, none⟩ = some (.int .u8 k) := cell_of_row2 HX1.out 0 rfl
 have y1 : V.cell? ⟨w.heap.size, 1, none⟩ = some (.int .u32 fid) := cell_of_row2 HX1.out 1 rfl
 have y2 : V.cell? ⟨w.heap.size, 2, none⟩ = some (.int .u32 dir) := cell_of_row2 HX1.out 2 rfl
 have y3 : V.cell? ⟨w.heap.size, 3, none⟩ = some (.string nm) := cell_of_row2 HX1.out 3 rfl
 have y4 : V.cell? ⟨w.heap.size, 4, none⟩ = some (.int .u32 tof) := cell_of_row2 HX1.out 4 rfl
 have y5 : V.cell? ⟨w.heap.size, 5, none⟩ = some (.string nm2) := cell_of_row2 HX1.out 5 rfl
 have y6 : V.cell? ⟨w.heap.size, 6, none⟩ = some (.int .u16 md) := cell_of_row2 HX1.out 6 rfl
 have y7 : V.cell? ⟨w.heap.size, 7, none⟩ = some (.string dt) := cell_of_row2 HX1.out 7 rfl
 have y8 : V.cell? ⟨w.heap.size, 8, none⟩ = some (.int .u64 sn) := cell_of_row2 HX1.out 8 rfl
 go_upto_region 4 with (go_at_call 71; refine TRYH.out.mono ?_; rintro _ w1 ⟨rfl, hb1⟩; have D1 := hid hb1; clear hb1)
 clear y0 y1 y2 y3 y4 y5 y6 y7 y8
 have hx2 := (D1.out.block _ (lt_blkR HX1.out)).trans HX1.out
 have y0 : w1.cell? ⟨w.heap.size, 0, none⟩ = some (.int .u8 k) := cell_of_row2 hx2 0 rfl
 have y1 : w1.cell? ⟨w.heap.size, 1, none⟩ = some (.int .u32 fid) := cell_of_row2 hx2 1 rfl
 have y2 : w1.cell? ⟨w.heap.size, 2, none⟩ = some (.int .u32 dir) := cell_of_row2 hx2 2 rfl
 have y3 : w1.cell? ⟨w.heap.size, 3, none⟩ = some (.string nm) := cell_of_row2 hx2 3 rfl
 have y4 : w1.cell? ⟨w.heap.size, 4, none⟩ = some (.int .u32 tof) := cell_of_row2 hx2 4 rfl
 have y5 : w1.cell? ⟨w.heap.size, 5, none⟩ = some (.string nm2) := cell_of_row2 hx2 5 rfl
 have y6 : w1.cell? ⟨w.heap.size, 6, none⟩ = some (.int .u16 md) := cell_of_row2 hx2 6 rfl
 have y7 : w1.cell? ⟨w.heap.size, 7, none⟩ = some (.string dt) := cell_of_row2 hx2 7 rfl
 have y8 : w1.cell? ⟨w.heap.size, 8, none⟩ = some (.int .u64 sn) := cell_of_row2 hx2 8 rfl
 have HX2 := hid hx2
 clear hx2
 go_upto_region 5 with fail
 clear y0 y1 y2 y3 y4 y5 y6 y7 y8
 have b3 := below_1 w1 (.cells #[.int .u8 2, .int .u32 num, .int .i64 12, .int .u8 k, .int .u32 fid, .int .u32 dir, .string nm, .int .u32 tof, .string nm2, .int .u16 md, .string dt, .int .u64 sn] 58)
 have g3 := heap_alloc_new w1 (.cells #[.int .u8 2, .int .u32 num, .int .i64 12, .int .u8 k, .int .u32 fid, .int .u32 dir, .string nm, .int .u32 tof, .string nm2, .int .u16 md, .string dt, .int .u64 sn] 58)
 have D3 := hid (D1.out.trans (b3.mono D1.out.size))
 clear b3
 generalize (w1.alloc (.cells #[.int .u8 2, .int .u32 num, .int .i64 12, .int .u8 k, .int .u32 fid, .int .u32 dir, .string nm, .int .u32 tof, .string nm2, .int .u16 md, .string dt, .int .u64 sn] 58)) = V3 at *
 obtain ⟨vb, hvb⟩ : ∃ vb, vb = w1.heap.size := ⟨_, rfl⟩
 rw [← hvb] at g3
 rw [← hvb]
 have HVB := hid hvb
 clear hvb
 have hrw : V3.heap[b]? = some (.cells #[.slice (some ad) l.length ca, .slice (some bd) ss.length cb, .int .u64 ver, .int .u32 d0, .int .u32 num, .int .u32 d2, .slice none 0 0] 76 (0, 0)) := (D3.out.block _ (lt_blkR HW1.out)).trans HW1.out
 have hS0 : V3.drew.heap[vb]? = some (.cells #[.int .u8 2, .int .u32 num, .int .i64 12, .int .u8 k, .int .u32 fid, .int .u32 dir, .string nm, .int .u32 tof, .string nm2, .int .u16 md, .string dt, .int .u64 sn] 58 (0, 0)) := g3
 have c6 : V3.drew.cell? ⟨b, 6, none⟩ = some (.slice none 0 0) := cell_of_row2 (show V3.drew.heap[b]? = _ from hrw) 6 rfl
 have HRW := hid hrw
 have DD := hid (Below.drew (Below.refl V3.heap.size V3))
 have LL : ∀ w' : World, w'.heap[vb]? = some (.cells #[.int .u8 2, .int .u32 num, .int .i64 12, .int .u8 k, .int .u32 fid, .int .u32 dir, .string nm, .int .u32 tof, .string nm2, .int .u16 md, .string dt, .int .u64 sn] 58 (0, 0)) → w'.heap[vb]? = some (.cells #[.int .u8 2, .int .u32 num, .int .i64 12, .int .u8 k, .int .u32 fid, .int .u32 dir, .string nm, .int .u32 tof, .string nm2, .int .u16 md, .string dt, .int .u64 sn] 58 (0, 0)) := fun _ h => h
 have AVV := hid (AV.out V3.drew)
 have hne : vb ≠ b := by have := HVB.out; have := D1.out.size; have := hz1.out; omega
 clear g3 hrw
 go_wp2_with fail
 refine wp_region_held_drew (S := fun w' => w'.heap[vb]? = some (.cells #[.int .u8 2, .int .u32 num, .int .i64 12, .int .u8 k, .int .u32 fid, .int .u32 dir, .string nm, .int .u32 tof, .string nm2, .int .u16 md, .string dt, .int .u64 sn] 58 (0, 0))) (by kernel_rfl) hS0 (fun hHeld => ?_)
 refine take_l 0 (v := ?_) rfl (by kernel_rfl) (by kernel_rfl) (by kernel_rfl) (fun _ _ _ h => h) (Or.inl ⟨by rfl, ?_⟩) (by assumption) ?_
 rotate_left
 · (intro w' hSw; clear hSw; go_simp; first | done | with_reducible rfl)
 try simp only [Act.put, List.setIfInBounds_toArray, List.set_cons_zero, List.set_cons_succ]
 refine take_l 1 (v := ?_) rfl (by kernel_rfl) (by kernel_rfl) (by kernel_rfl) (fun _ _ _ h => h) (Or.inl ⟨by rfl, ?_⟩) (by assumption) ?_
 rotate_left
 · (intro w' hSw; clear hSw; go_simp; first | done | with_reducible rfl)
 try simp only [Act.put, List.setIfInBounds_toArray, List.set_cons_zero, List.set_cons_succ]
 refine take_l 2 (v := ?_) rfl (by kernel_rfl) (by kernel_rfl) (by kernel_rfl) (fun _ _ _ h => h) (Or.inl ⟨by rfl, ?_⟩) (by assumption) ?_
 rotate_left
 · (intro w' hSw; clear hSw; go_simp; first | done | with_reducible rfl)
 try simp only [Act.put, List.setIfInBounds_toArray, List.set_cons_zero, List.set_cons_succ]
 refine take_l 3 (v := ?_) rfl (by kernel_rfl) (by kernel_rfl) (by kernel_rfl) (fun _ _ _ h => h) (Or.inl ⟨by rfl, ?_⟩) (by assumption) ?_
 rotate_left
 · (intro w' hSw; clear hSw; go_simp; first | done | with_reducible rfl)
 try simp only [Act.put, List.setIfInBounds_toArray, List.set_cons_zero, List.set_cons_succ]
 refine take_l 5 (v := ?_) rfl (by kernel_rfl) (by kernel_rfl) (by kernel_rfl) (fun _ _ _ h => h) (Or.inl ⟨by rfl, ?_⟩) (by assumption) ?_
 rotate_left
 · (intro w' hSw; (have q0 : w'.cell? ⟨vb, 0, none⟩ = some (.int .u8 2) := cell_of_row2 (LL _ hSw) 0 rfl); (have q1 : w'.cell? ⟨vb, 1, none⟩ = some (.int .u32 num) := cell_of_row2 (LL _ hSw) 1 rfl); (have q2 : w'.cell? ⟨vb, 2, none⟩ = some (.int .i64 12) := cell_of_row2 (LL _ hSw) 2 rfl); (have q3 : w'.cell? ⟨vb, 3, none⟩ = some (.int .u8 k) := cell_of_row2 (LL _ hSw) 3 rfl); (have q4 : w'.cell? ⟨vb, 4, none⟩ = some (.int .u32 fid) := cell_of_row2 (LL _ hSw) 4 rfl); (have q5 : w'.cell? ⟨vb, 5, none⟩ = some (.int .u32 dir) := cell_of_row2 (LL _ hSw) 5 rfl); (have q6 : w'.cell? ⟨vb, 6, none⟩ = some (.string nm) := cell_of_row2 (LL _ hSw) 6 rfl); (have q7 : w'.cell? ⟨vb, 7, none⟩ = some (.int .u32 tof) := cell_of_row2 (LL _ hSw) 7 rfl); (have q8 : w'.cell? ⟨vb, 8, none⟩ = some (.string nm2) := cell_of_row2 (LL _ hSw) 8 rfl); (have q9 : w'.cell? ⟨vb, 9, none⟩ = some (.int .u16 md) := cell_of_row2 (LL _ hSw) 9 rfl); (have q10 : w'.cell? ⟨vb, 10, none⟩ = some (.string dt) := cell_of_row2 (LL _ hSw) 10 rfl); (have q11 : w'.cell? ⟨vb, 11, none⟩ = some (.int .u64 sn) := cell_of_row2 (LL _ hSw) 11 rfl); clear hSw; go_simp; first | done | with_reducible rfl)
 try simp only [Act.put, List.setIfInBounds_toArray, List.set_cons_zero, List.set_cons_succ]
 refine cons_l 4 rfl (by kernel_rfl) (fun K hK => ?_)
 go_simp
 refine hK.out _ _ hS0 (fun hHeld => ?_)
 clear hK K
 try simp only [Act.put, List.setIfInBounds_toArray, List.set_cons_zero, List.set_cons_succ]
 refine cons_l 6 rfl (by kernel_rfl) (fun K hK => ?_)
 go_simp
 refine AVV.out.mono ?_; rintro _ w4 ⟨v4, rfl, ho4, hb4⟩
 obtain ⟨va, vn, vc, rfl⟩ := own_sliceY ho4
 have O4 := hid ho4
 have D4 := hid (DD.out.trans (hb4.mono DD.out.size))
 have hS4 : w4.heap[vb]? = some (.cells #[.int .u8 2, .int .u32 num, .int .i64 12, .int .u8 k, .int .u32 fid, .int .u32 dir, .string nm, .int .u32 tof, .string nm2, .int .u16 md, .string dt, .int .u64 sn] 58 (0, 0)) := (hb4.block _ (lt_blkR hS0)).trans hS0
 clear ho4 hb4 c6
 go_simp
 refine hK.out _ _ hS4 (fun hHeld => ?_)
 clear hK K
 try simp only [Act.put, List.setIfInBounds_toArray, List.set_cons_zero, List.set_cons_succ]
 refine take_l 7 (v := ?_) rfl (by kernel_rfl) (by kernel_rfl) (by kernel_rfl) (fun _ _ _ h => h) (Or.inl ⟨by rfl, ?_⟩) (by assumption) ?_
 rotate_left
 · (intro w' hSw; clear hSw; go_simp; first | done | with_reducible rfl)
 try simp only [Act.put, List.setIfInBounds_toArray, List.set_cons_zero, List.set_cons_succ]
 refine take_l 8 (v := ?_) rfl (by kernel_rfl) (by kernel_rfl) (by kernel_rfl) (fun _ _ _ h => h) (Or.inl ⟨by rfl, ?_⟩) (by assumption) ?_
 rotate_left
 · (intro w' hSw; clear hSw; go_simp; first | done | with_reducible rfl)
 try simp only [Act.put, List.setIfInBounds_toArray, List.set_cons_zero, List.set_cons_succ]
 have hr4 := (D4.out.block _ (lt_blkR HRW.out)).trans HRW.out
 have c6 : w4.cell? ⟨b, 6, none⟩ = some (.slice none 0 0) := cell_of_row2 hr4 6 rfl
 have fz : ∀ i, w4.frozen? ⟨b, i, none⟩ = false := fun i => by simp only [World.frozen?, hr4]; simp
 have hS5 : (w4.setCell ⟨b, 6, none⟩ (.slice va vn vc)).heap[vb]? = some (.cells #[.int .u8 2, .int .u32 num, .int .i64 12, .int .u8 k, .int .u32 fid, .int .u32 dir, .string nm, .int .u32 tof, .string nm2, .int .u16 md, .string dt, .int .u64 sn] 58 (0, 0)) := (heap_setCell_other w4 ⟨b, 6, none⟩ vb _ hne).trans hS4
 refine cons_l 9 rfl (by kernel_rfl) (fun K hK => ?_)
 go_simp
 refine hK.out _ _ hS5 (fun hHeld => ?_)
 clear hK K
 try simp only [Act.put, List.setIfInBounds_toArray, List.set_cons_zero, List.set_cons_succ]
 refine wpAnyH_done (by kernel_rfl) ?_ _
 have R5 := hid (heap_setCell_same w4 b 6 _ _ (.slice va vn vc) hr4)
 have DA := hid (D3.out.trans (D4.out.mono D3.out.size))
 have N5 := hid ((N1.out.later DA.out).setS (q := ⟨b, 6, none⟩) hr4 (by decide) (by decide) (by decide) (.slice va vn vc))
 have T5 := hid ((T1.out.later DA.out).setS (q := ⟨b, 6, none⟩) hr4 (by decide) (.slice va vn vc))
 have O5 : Hid (OwV (w4.setCell ⟨b, 6, none⟩ (.slice va vn vc)) w.heap.size (.slice va vn vc) ⟨2, num, 12, ⟨k, fid, dir, nm, tof, nm2, md, dt, sn⟩⟩) := hid (own_low (own_setQ O4.out (q := ⟨b, 6, none⟩) hr4 (by decide) (.slice va vn vc)) (by show w.heap.size ≤ V3.heap.size; have := D3.out.size; have := hz1.out; omega))
 have U5 := hid ((U1.out.trans (Ou.of DA.out)).set (g := b) (o := 6) (v := .slice va vn vc) rfl)
 clear hS4 hS5 hS0 c6 fz hr4 LL hHeld
 generalize (w4.setCell ⟨b, 6, none⟩ (.slice va vn vc)) = w5 at *
 go_wp2
 go_ret
 exact ⟨rfl, va, vn, vc, R5.out, N5.out, T5.out, O5.out, U5.out⟩
end Go.Proofs.YtpolbbdaippclaaGreat
