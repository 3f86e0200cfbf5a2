/-
  The package tree: do, chmod.
-/
import Derived.Test.YtgbdplammniidaaGreatDoorFiBh
import Derived.Test.YtgbdplammniidaaGreatDoorFiAz
namespace Go.Proofs.YtgbdplammniidaaGreatDoor
open Go.RowKit Go.ChangeShapes Go.WideShapes Go.ChangeAt Go.Maps Go.Shelf
set_option linter.unusedVariables false
set_option linter.unusedSimpArgs false
set_option maxRecDepth 100000
set_option maxHeartbeats 4000000 in
theorem do_9n {w : World} {base tb : Nat} {r : Int × List Nd} (fid dir : Int) (nm : ByteArray) (tof : Int) (nm2 : ByteArray) (md : Int) (dt : ByteArray) (sn : Int) (hz : base ≤ w.heap.size) (hz1 : nm.size ≤ maxLen) (hz2 : nm2.size ≤ maxLen) (hr : rightF ⟨9, fid, dir, nm, tof, nm2, md, dt, sn⟩ = true) (RE : Hid (r = (5, [])))
   (NC : Hid (∀ W, Below w.heap.size w W → Calls Tryz.prog 80 #[.map (some tb), .int .u32 fid] W fun e w' => e = PT 5 ∧ w' = W)) :
   Calls Tryz.prog 59 #[.map (some tb), (⟨9, fid, dir, nm, tof, nm2, md, dt, sn⟩ : Rec).opV] w (DoP w base tb r) := by
 have b0 := below_1 w (.cells #[.int .u8 9, .int .u32 fid, .int .u32 dir, .string nm, .int .u32 tof, .string nm2, .int .u16 md, .string dt] 58)
 have h0 := heap_alloc_new w (.cells #[.int .u8 9, .int .u32 fid, .int .u32 dir, .string nm, .int .u32 tof, .string nm2, .int .u16 md, .string dt] 58)
 have B0 := hid b0
 have H0 := hid h0
 have RC0 := rightOp_c ⟨9, fid, dir, nm, tof, nm2, md, dt, sn⟩ (w.alloc (.cells #[.int .u8 9, .int .u32 fid, .int .u32 dir, .string nm, .int .u32 tof, .string nm2, .int .u16 md, .string dt] 58)) hz1 hz2
 rw [hr] at RC0
 have RC := hid RC0
 have OPL : Hid (∀ W, Below (w.alloc (.cells #[.int .u8 9, .int .u32 fid, .int .u32 dir, .string nm, .int .u32 tof, .string nm2, .int .u16 md, .string dt] 58)).heap.size (w.alloc (.cells #[.int .u8 9, .int .u32 fid, .int .u32 dir, .string nm, .int .u32 tof, .string nm2, .int .u16 md, .string dt] 58)) W → W.heap[w.heap.size]? = some (.cells #[.int .u8 9, .int .u32 fid, .int .u32 dir, .string nm, .int .u32 tof, .string nm2, .int .u16 md, .string dt] 58)) := hid (fun W hW => (hW.block _ (lt_blkR h0)).trans h0)
 have HZ := hid hz
 simp only [Rec.opV] at *
 clear b0 h0 RC0 hr hz hz1 hz2
 go_enter Tryz.func59, Tryz.ntmps59
 go_upto_region 1 with fail
 generalize w.alloc (.cells #[.int .u8 9, .int .u32 fid, .int .u32 dir, .string nm, .int .u32 tof, .string nm2, .int .u16 md, .string dt] 58) = V at *
 have o0 : V.cell? ⟨w.heap.size, 0, none⟩ = some (.int .u8 9) := cell_of_row2 H0.out 0 rfl
 have o1 : V.cell? ⟨w.heap.size, 1, none⟩ = some (.int .u32 fid) := cell_of_row2 H0.out 1 rfl
 have o2 : V.cell? ⟨w.heap.size, 2, none⟩ = some (.int .u32 dir) := cell_of_row2 H0.out 2 rfl
 have o3 : V.cell? ⟨w.heap.size, 3, none⟩ = some (.string nm) := cell_of_row2 H0.out 3 rfl
 have o4 : V.cell? ⟨w.heap.size, 4, none⟩ = some (.int .u32 tof) := cell_of_row2 H0.out 4 rfl
 have o5 : V.cell? ⟨w.heap.size, 5, none⟩ = some (.string nm2) := cell_of_row2 H0.out 5 rfl
 have o6 : V.cell? ⟨w.heap.size, 6, none⟩ = some (.int .u16 md) := cell_of_row2 H0.out 6 rfl
 have o7 : V.cell? ⟨w.heap.size, 7, none⟩ = some (.string dt) := cell_of_row2 H0.out 7 rfl
 go_upto_region 20 with (first
   | (go_at_call 72; refine (trefuse_f _ _).mono ?_; rintro _ wz ⟨rfl, hwz⟩; have hwz2 := hwz.symm; clear hwz; subst hwz2)
   | (go_at_call 73; refine RC.out.mono ?_; rintro _ w1 ⟨rfl, hb1⟩; have u0 : w1.cell? ⟨w.heap.size, 0, none⟩ = some (.int .u8 9) := cell_of_row2 (OPL.out w1 hb1) 0 rfl; have u1 : w1.cell? ⟨w.heap.size, 1, none⟩ = some (.int .u32 fid) := cell_of_row2 (OPL.out w1 hb1) 1 rfl; have u2 : w1.cell? ⟨w.heap.size, 2, none⟩ = some (.int .u32 dir) := cell_of_row2 (OPL.out w1 hb1) 2 rfl; have u3 : w1.cell? ⟨w.heap.size, 3, none⟩ = some (.string nm) := cell_of_row2 (OPL.out w1 hb1) 3 rfl; have u4 : w1.cell? ⟨w.heap.size, 4, none⟩ = some (.int .u32 tof) := cell_of_row2 (OPL.out w1 hb1) 4 rfl; have u5 : w1.cell? ⟨w.heap.size, 5, none⟩ = some (.string nm2) := cell_of_row2 (OPL.out w1 hb1) 5 rfl; have u6 : w1.cell? ⟨w.heap.size, 6, none⟩ = some (.int .u16 md) := cell_of_row2 (OPL.out w1 hb1) 6 rfl; have u7 : w1.cell? ⟨w.heap.size, 7, none⟩ = some (.string dt) := cell_of_row2 (OPL.out w1 hb1) 7 rfl; have B1 := hid (B0.out.trans (hb1.mono B0.out.size)); clear hb1))
 go_wp2_with fail
 have NC1 := hid (NC.out w1.drew (Below.drew B1.out))
 have s1 : w1.drew.cell? ⟨w.heap.size, 1, none⟩ = some (.int .u32 fid) := u1
 have s6 : w1.drew.cell? ⟨w.heap.size, 6, none⟩ = some (.int .u16 md) := u6
 have OD1 : ∀ w' : World, (w'.cell? ⟨w.heap.size, 1, none⟩ = some (.int .u32 fid) ∧ w'.cell? ⟨w.heap.size, 6, none⟩ = some (.int .u16 md)) → w'.cell? ⟨w.heap.size, 1, none⟩ = some (.int .u32 fid) := fun w' h => h.1
 have OD6 : ∀ w' : World, (w'.cell? ⟨w.heap.size, 1, none⟩ = some (.int .u32 fid) ∧ w'.cell? ⟨w.heap.size, 6, none⟩ = some (.int .u16 md)) → w'.cell? ⟨w.heap.size, 6, none⟩ = some (.int .u16 md) := fun w' h => h.2
 have hS0 : w1.drew.cell? ⟨w.heap.size, 1, none⟩ = some (.int .u32 fid) ∧ w1.drew.cell? ⟨w.heap.size, 6, none⟩ = some (.int .u16 md) := ⟨s1, s6⟩
 clear u0 u1 u2 u3 u4 u5 u6 u7 o0 o1 o2 o3 o4 o5 o6 o7 s1 s6
 refine wp_region_held_drew (S := fun w' => w'.cell? ⟨w.heap.size, 1, none⟩ = some (.int .u32 fid) ∧ w'.cell? ⟨w.heap.size, 6, none⟩ = some (.int .u16 md)) (by kernel_rfl) hS0 (fun hHeld => ?_)
 refine take_l 0 (v := ?_) rfl (by kernel_rfl) (by kernel_rfl) (by kernel_rfl) (fun _ _ _ h => h) (Or.inl ⟨by rfl, ?_⟩) (by assumption) ?_
 rotate_left
 · (intro w' hSw; clear hSw; go_simp; first | done | with_reducible rfl)
 try simp only [Act.put, List.setIfInBounds_toArray, List.set_cons_zero, List.set_cons_succ]
 refine take_l 1 (v := ?_) rfl (by kernel_rfl) (by kernel_rfl) (by kernel_rfl) (fun _ _ _ h => h) (Or.inl ⟨by rfl, ?_⟩) (by assumption) ?_
 rotate_left
 · (intro w' hSw; clear hSw; go_simp; first | done | with_reducible rfl)
 try simp only [Act.put, List.setIfInBounds_toArray, List.set_cons_zero, List.set_cons_succ]
 refine take_l 2 (v := ?_) rfl (by kernel_rfl) (by kernel_rfl) (by kernel_rfl) (fun _ _ _ h => h) (Or.inl ⟨by rfl, ?_⟩) (by assumption) ?_
 rotate_left
 · (intro w' hSw; (have kq := OD1 _ hSw); clear hSw; go_simp; first | done | with_reducible rfl)
 try simp only [Act.put, List.setIfInBounds_toArray, List.set_cons_zero, List.set_cons_succ]
 refine take_l 4 (v := ?_) rfl (by kernel_rfl) (by kernel_rfl) (by kernel_rfl) (fun _ _ _ h => h) (Or.inl ⟨by rfl, ?_⟩) (by assumption) ?_
 rotate_left
 · (intro w' hSw; clear hSw; go_simp; first | done | with_reducible rfl)
 try simp only [Act.put, List.setIfInBounds_toArray, List.set_cons_zero, List.set_cons_succ]
 refine take_l 5 (v := ?_) rfl (by kernel_rfl) (by kernel_rfl) (by kernel_rfl) (fun _ _ _ h => h) (Or.inl ⟨by rfl, ?_⟩) (by assumption) ?_
 rotate_left
 · (intro w' hSw; (have kq := OD6 _ hSw); clear hSw; go_simp; first | done | with_reducible rfl)
 try simp only [Act.put, List.setIfInBounds_toArray, List.set_cons_zero, List.set_cons_succ]
 refine cons_l 3 rfl (by kernel_rfl) (fun K hK => ?_)
 go_simp
 refine NC1.out.mono ?_; rintro _ w2 ⟨rfl, hw2⟩; rw [hw2]; clear hw2
 exact ⟨rfl, DoP.err RE.out (by decide) (Below.drew B1.out)⟩
set_option maxHeartbeats 4000000 in
theorem do_9s {w : World} {base tb : Nat} {r : Int × List Nd} (fid dir : Int) (nm : ByteArray) (tof : Int) (nm2 : ByteArray) (md : Int) (dt : ByteArray) (sn : Int) (hz : base ≤ w.heap.size) (hz1 : nm.size ≤ maxLen) (hz2 : nm2.size ≤ maxLen) (hr : rightF ⟨9, fid, dir, nm, tof, nm2, md, dt, sn⟩ = true) {pb po : Nat} (hpb : pb < w.heap.size)
   (FZ : Hid (∀ W, Below w.heap.size w W → W.frozen? ⟨pb, po + 2, none⟩ = false ∧ ∃ v, W.cell? ⟨pb, po + 2, none⟩ = some (.int .u16 v)))
   (NC : Hid (∀ W, Below w.heap.size w W → Calls Tryz.prog 80 #[.map (some tb), .int .u32 fid] W fun e w' => e = .returned (.pointer (some ⟨pb, po, none⟩)) ∧ w' = W))
   (FIN : Hid (∀ W, Below w.heap.size w W → DoP w base tb r (.returned (.tuple #[])) (W.setCell ⟨pb, po + 2, none⟩ (.int .u16 md)))) :
   Calls Tryz.prog 59 #[.map (some tb), (⟨9, fid, dir, nm, tof, nm2, md, dt, sn⟩ : Rec).opV] w (DoP w base tb r) := by
 have b0 := below_1 w (.cells #[.int .u8 9, .int .u32 fid, .int .u32 dir, .string nm, .int .u32 tof, .string nm2, .int .u16 md, .string dt] 58)
 have h0 := heap_alloc_new w (.cells #[.int .u8 9, .int .u32 fid, .int .u32 dir, .string nm, .int .u32 tof, .string nm2, .int .u16 md, .string dt] 58)
 have B0 := hid b0
 have H0 := hid h0
 have RC0 := rightOp_c ⟨9, fid, dir, nm, tof, nm2, md, dt, sn⟩ (w.alloc (.cells #[.int .u8 9, .int .u32 fid, .int .u32 dir, .string nm, .int .u32 tof, .string nm2, .int .u16 md, .string dt] 58)) hz1 hz2
 rw [hr] at RC0
 have RC := hid RC0
 have OPL : Hid (∀ W, Below (w.alloc (.cells #[.int .u8 9, .int .u32 fid, .int .u32 dir, .string nm, .int .u32 tof, .string nm2, .int .u16 md, .string dt] 58)).heap.size (w.alloc (.cells #[.int .u8 9, .int .u32 fid, .int .u32 dir, .string nm, .int .u32 tof, .string nm2, .int .u16 md, .string dt] 58)) W → W.heap[w.heap.size]? = some (.cells #[.int .u8 9, .int .u32 fid, .int .u32 dir, .string nm, .int .u32 tof, .string nm2, .int .u16 md, .string dt] 58)) := hid (fun W hW => (hW.block _ (lt_blkR h0)).trans h0)
 have HZ := hid hz
 simp only [Rec.opV] at *
 clear b0 h0 RC0 hr hz hz1 hz2
 go_enter Tryz.func59, Tryz.ntmps59
 go_upto_region 1 with fail
 generalize w.alloc (.cells #[.int .u8 9, .int .u32 fid, .int .u32 dir, .string nm, .int .u32 tof, .string nm2, .int .u16 md, .string dt] 58) = V at *
 have o0 : V.cell? ⟨w.heap.size, 0, none⟩ = some (.int .u8 9) := cell_of_row2 H0.out 0 rfl
 have o1 : V.cell? ⟨w.heap.size, 1, none⟩ = some (.int .u32 fid) := cell_of_row2 H0.out 1 rfl
 have o2 : V.cell? ⟨w.heap.size, 2, none⟩ = some (.int .u32 dir) := cell_of_row2 H0.out 2 rfl
 have o3 : V.cell? ⟨w.heap.size, 3, none⟩ = some (.string nm) := cell_of_row2 H0.out 3 rfl
 have o4 : V.cell? ⟨w.heap.size, 4, none⟩ = some (.int .u32 tof) := cell_of_row2 H0.out 4 rfl
 have o5 : V.cell? ⟨w.heap.size, 5, none⟩ = some (.string nm2) := cell_of_row2 H0.out 5 rfl
 have o6 : V.cell? ⟨w.heap.size, 6, none⟩ = some (.int .u16 md) := cell_of_row2 H0.out 6 rfl
 have o7 : V.cell? ⟨w.heap.size, 7, none⟩ = some (.string dt) := cell_of_row2 H0.out 7 rfl
 go_upto_region 20 with (first
   | (go_at_call 72; refine (trefuse_f _ _).mono ?_; rintro _ wz ⟨rfl, hwz⟩; have hwz2 := hwz.symm; clear hwz; subst hwz2)
   | (go_at_call 73; refine RC.out.mono ?_; rintro _ w1 ⟨rfl, hb1⟩; have u0 : w1.cell? ⟨w.heap.size, 0, none⟩ = some (.int .u8 9) := cell_of_row2 (OPL.out w1 hb1) 0 rfl; have u1 : w1.cell? ⟨w.heap.size, 1, none⟩ = some (.int .u32 fid) := cell_of_row2 (OPL.out w1 hb1) 1 rfl; have u2 : w1.cell? ⟨w.heap.size, 2, none⟩ = some (.int .u32 dir) := cell_of_row2 (OPL.out w1 hb1) 2 rfl; have u3 : w1.cell? ⟨w.heap.size, 3, none⟩ = some (.string nm) := cell_of_row2 (OPL.out w1 hb1) 3 rfl; have u4 : w1.cell? ⟨w.heap.size, 4, none⟩ = some (.int .u32 tof) := cell_of_row2 (OPL.out w1 hb1) 4 rfl; have u5 : w1.cell? ⟨w.heap.size, 5, none⟩ = some (.string nm2) := cell_of_row2 (OPL.out w1 hb1) 5 rfl; have u6 : w1.cell? ⟨w.heap.size, 6, none⟩ = some (.int .u16 md) := cell_of_row2 (OPL.out w1 hb1) 6 rfl; have u7 : w1.cell? ⟨w.heap.size, 7, none⟩ = some (.string dt) := cell_of_row2 (OPL.out w1 hb1) 7 rfl; have B1 := hid (B0.out.trans (hb1.mono B0.out.size)); clear hb1))
 go_wp2_with fail
 have NC1 := hid (NC.out w1.drew (Below.drew B1.out))
 have s1 : w1.drew.cell? ⟨w.heap.size, 1, none⟩ = some (.int .u32 fid) := u1
 have s6 : w1.drew.cell? ⟨w.heap.size, 6, none⟩ = some (.int .u16 md) := u6
 have OD1 : ∀ w' : World, (w'.cell? ⟨w.heap.size, 1, none⟩ = some (.int .u32 fid) ∧ w'.cell? ⟨w.heap.size, 6, none⟩ = some (.int .u16 md)) → w'.cell? ⟨w.heap.size, 1, none⟩ = some (.int .u32 fid) := fun w' h => h.1
 have OD6 : ∀ w' : World, (w'.cell? ⟨w.heap.size, 1, none⟩ = some (.int .u32 fid) ∧ w'.cell? ⟨w.heap.size, 6, none⟩ = some (.int .u16 md)) → w'.cell? ⟨w.heap.size, 6, none⟩ = some (.int .u16 md) := fun w' h => h.2
 have hS0 : w1.drew.cell? ⟨w.heap.size, 1, none⟩ = some (.int .u32 fid) ∧ w1.drew.cell? ⟨w.heap.size, 6, none⟩ = some (.int .u16 md) := ⟨s1, s6⟩
 clear u0 u1 u2 u3 u4 u5 u6 u7 o0 o1 o2 o3 o4 o5 o6 o7 s1 s6
 refine wp_region_held_drew (S := fun w' => w'.cell? ⟨w.heap.size, 1, none⟩ = some (.int .u32 fid) ∧ w'.cell? ⟨w.heap.size, 6, none⟩ = some (.int .u16 md)) (by kernel_rfl) hS0 (fun hHeld => ?_)
 refine take_l 0 (v := ?_) rfl (by kernel_rfl) (by kernel_rfl) (by kernel_rfl) (fun _ _ _ h => h) (Or.inl ⟨by rfl, ?_⟩) (by assumption) ?_
 rotate_left
 · (intro w' hSw; clear hSw; go_simp; first | done | with_reducible rfl)
 try simp only [Act.put, List.setIfInBounds_toArray, List.set_cons_zero, List.set_cons_succ]
 refine take_l 1 (v := ?_) rfl (by kernel_rfl) (by kernel_rfl) (by kernel_rfl) (fun _ _ _ h => h) (Or.inl ⟨by rfl, ?_⟩) (by assumption) ?_
 rotate_left
 · (intro w' hSw; clear hSw; go_simp; first | done | with_reducible rfl)
 try simp only [Act.put, List.setIfInBounds_toArray, List.set_cons_zero, List.set_cons_succ]
 refine take_l 2 (v := ?_) rfl (by kernel_rfl) (by kernel_rfl) (by kernel_rfl) (fun _ _ _ h => h) (Or.inl ⟨by rfl, ?_⟩) (by assumption) ?_
 rotate_left
 · (intro w' hSw; (have kq := OD1 _ hSw); clear hSw; go_simp; first | done | with_reducible rfl)
 try simp only [Act.put, List.setIfInBounds_toArray, List.set_cons_zero, List.set_cons_succ]
 refine take_l 4 (v := ?_) rfl (by kernel_rfl) (by kernel_rfl) (by kernel_rfl) (fun _ _ _ h => h) (Or.inl ⟨by rfl, ?_⟩) (by assumption) ?_
 rotate_left
 · (intro w' hSw; clear hSw; go_simp; first | done | with_reducible rfl)
 try simp only [Act.put, List.setIfInBounds_toArray, List.set_cons_zero, List.set_cons_succ]
 refine take_l 5 (v := ?_) rfl (by kernel_rfl) (by kernel_rfl) (by kernel_rfl) (fun _ _ _ h => h) (Or.inl ⟨by rfl, ?_⟩) (by assumption) ?_
 rotate_left
 · (intro w' hSw; (have kq := OD6 _ hSw); clear hSw; go_simp; first | done | with_reducible rfl)
 try simp only [Act.put, List.setIfInBounds_toArray, List.set_cons_zero, List.set_cons_succ]
 refine cons_l 3 rfl (by kernel_rfl) (fun K hK => ?_)
 go_simp
 refine NC1.out.mono ?_; rintro _ w2 ⟨rfl, hw2⟩; rw [hw2]; clear hw2
 go_simp
 refine hK.out _ _ hS0 (fun hHeld => ?_)
 clear hK K
 try simp only [Act.put, List.setIfInBounds_toArray, List.set_cons_zero, List.set_cons_succ]
 refine take_l 6 (v := ?_) rfl (by kernel_rfl) (by kernel_rfl) (by kernel_rfl) (fun _ _ _ h => h) (Or.inl ⟨by rfl, ?_⟩) (by assumption) ?_
 rotate_left
 · (intro w' hSw; clear hSw; go_simp; first | done | with_reducible rfl)
 try simp only [Act.put, List.setIfInBounds_toArray, List.set_cons_zero, List.set_cons_succ]
 refine take_l 7 (v := ?_) rfl (by kernel_rfl) (by kernel_rfl) (by kernel_rfl) (fun _ _ _ h => h) (Or.inl ⟨by rfl, ?_⟩) (by assumption) ?_
 rotate_left
 · (intro w' hSw; clear hSw; go_simp; first | done | with_reducible rfl)
 try simp only [Act.put, List.setIfInBounds_toArray, List.set_cons_zero, List.set_cons_succ]
 obtain ⟨fz, ov, cv⟩ := FZ.out w1.drew (Below.drew B1.out)
 have hS1 : (w1.drew.setCell ⟨pb, po + 2, none⟩ (.int .u16 md)).cell? ⟨w.heap.size, 1, none⟩ = some (.int .u32 fid) ∧ (w1.drew.setCell ⟨pb, po + 2, none⟩ (.int .u16 md)).cell? ⟨w.heap.size, 6, none⟩ = some (.int .u16 md) := by
   rw [World.cell?_setCell_far _ _ _ _ (show pb ≠ w.heap.size by omega), World.cell?_setCell_far _ _ _ _ (show pb ≠ w.heap.size by omega)]
   exact hS0
 refine cons_l 8 rfl (by kernel_rfl) (fun K hK => ?_)
 go_simp
 refine hK.out _ _ hS1 (fun hHeld => ?_)
 clear hK K
 try simp only [Act.put, List.setIfInBounds_toArray, List.set_cons_zero, List.set_cons_succ]
 refine wpAnyH_done (by kernel_rfl) ?_ _
 go_wp2
 exact body_end (by kernel_rfl) rfl (FIN.out _ (Below.drew B1.out))
end Go.Proofs.YtgbdplammniidaaGreatDoor
