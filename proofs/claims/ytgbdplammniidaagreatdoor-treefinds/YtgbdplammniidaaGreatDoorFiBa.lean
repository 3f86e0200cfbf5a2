/-
  The package tree: rename, one way.
-/
import Derived.Test.YtgbdplammniidaaGreatDoorFiAz
namespace Go.Proofs.YtgbdplammniidaaGreatDoor
open Go.RowKit Go.ChangeShapes Go.WideShapes Go.ChangeAt Go.Maps Go.Shelf
set_option linter.unusedVariables false
set_option linter.unusedSimpArgs false
set_option maxRecDepth 100000
set_option maxHeartbeats 4000000 in
theorem ren_10 {w : World} {base tb : Nat} {N : Tab} {l : List Nd} {o : Rec} {p : Addr} {x : Nd} {q : Kd} {p2 : Addr} {y : Nd} {p4 : Addr} {b : Nd} (H : RenH w base tb N l o p x q p2 y p4 b) (hab : abN l y.fid (l.length + 1) o.to = true) : Calls Tryz.prog 78 #[.map (some tb), o.opV] w (DoP w base tb (renameL l o)) := by
 obtain ⟨r, hr⟩ : ∃ r, r = renameL l o := ⟨_, rfl⟩
 rw [← hr]
 have HR := hid hr
 clear hr
 obtain ⟨hmt, hrel, hrt, ho, n1, k1, q1, n2, n4, k4⟩ := H
 have h := hmt
 obtain ⟨k, fid, dir, nm, tof, nm2, md, dt, sn⟩ := o
 have b0 := below_1 w (.cells #[.int .u8 k, .int .u32 fid, .int .u32 dir, .string nm, .int .u32 tof, .string nm2, .int .u16 md, .string dt] 58)
 have h0 := heap_alloc_new w (.cells #[.int .u8 k, .int .u32 fid, .int .u32 dir, .string nm, .int .u32 tof, .string nm2, .int .u16 md, .string dt] 58)
 have MV := hid (h.later b0)
 have B0 := hid b0
 have H0 := hid h0
 have OPL : Hid (∀ W, Below (w.alloc (.cells #[.int .u8 k, .int .u32 fid, .int .u32 dir, .string nm, .int .u32 tof, .string nm2, .int .u16 md, .string dt] 58)).heap.size (w.alloc (.cells #[.int .u8 k, .int .u32 fid, .int .u32 dir, .string nm, .int .u32 tof, .string nm2, .int .u16 md, .string dt] 58)) W → W.heap[w.heap.size]? = some (.cells #[.int .u8 k, .int .u32 fid, .int .u32 dir, .string nm, .int .u32 tof, .string nm2, .int .u16 md, .string dt] 58)) := hid (fun W hW => (hW.block _ (lt_blkR h0)).trans h0)
 obtain ⟨_, hf, hdr, hto, hmd, _, hz1, hz2, hz3⟩ := ho
 simp only [Rec.opV] at *
 clear b0 h0
 have HZ := hid hmt.size
 have hl := hrel.got n1
 have hly := hrel.got n2
 have hlb := hrel.got n4
 have hfx := (hmt.nd _ p x n1).2.2.2
 have hfy := (hmt.nd _ p2 y n2).2.2.2
 have hfb := (hmt.nd _ p4 b n4).2.2.2
 obtain ⟨hks, hk12, hk0⟩ := tab_dir hmt hrel hrt n1 k1
 obtain ⟨hks4, hk412, hk40⟩ := tab_dir hmt hrel hrt n4 k4
 obtain ⟨_, _, n2', eq, hq0, hq1, hqd, _, _, _⟩ := tab_ent hmt hrel hrt n1 k1 q1
 clear n2'
 have LC := hid (tlook_s MV.out hdr.1 hdr.2 n1 k1 q1 n2)
 have DCL : Hid (∀ W, Below (w.alloc (.cells #[.int .u8 k, .int .u32 fid, .int .u32 dir, .string nm, .int .u32 tof, .string nm2, .int .u16 md, .string dt] 58)).heap.size (w.alloc (.cells #[.int .u8 k, .int .u32 fid, .int .u32 dir, .string nm, .int .u32 tof, .string nm2, .int .u16 md, .string dt] 58)) W → Calls Tryz.prog 98 #[.map (some tb), .int .u32 tof] W fun e w' => e = .returned (.pointer (some p4)) ∧ w' = W) := hid (fun W hW => tdir_s (MV.out.later hW) hto.1 hto.2 n4 k4)
 have PCL := hid (fun (W : World) (hW : Below (w.alloc (.cells #[.int .u8 k, .int .u32 fid, .int .u32 dir, .string nm, .int .u32 tof, .string nm2, .int .u16 md, .string dt] 58)).heap.size (w.alloc (.cells #[.int .u8 k, .int .u32 fid, .int .u32 dir, .string nm, .int .u32 tof, .string nm2, .int .u16 md, .string dt] 58)) W) => par_lead MV.out hrel hrt hW hlb k4 hto.1 hto.2 y.fid)
 have YC : Hid (∀ W, Below (w.alloc (.cells #[.int .u8 k, .int .u32 fid, .int .u32 dir, .string nm, .int .u32 tof, .string nm2, .int .u16 md, .string dt] 58)).heap.size (w.alloc (.cells #[.int .u8 k, .int .u32 fid, .int .u32 dir, .string nm, .int .u32 tof, .string nm2, .int .u16 md, .string dt] 58)) W → NdC W p2.block p2.off y) := hid (fun W hW => ((MV.out.later hW).nd _ p2 y n2).2.1.ndc)
 have XC : Hid (∀ W, Below (w.alloc (.cells #[.int .u8 k, .int .u32 fid, .int .u32 dir, .string nm, .int .u32 tof, .string nm2, .int .u16 md, .string dt] 58)).heap.size (w.alloc (.cells #[.int .u8 k, .int .u32 fid, .int .u32 dir, .string nm, .int .u32 tof, .string nm2, .int .u16 md, .string dt] 58)) W → NdC W p4.block p4.off b) := hid (fun W hW => ((MV.out.later hW).nd _ p4 b n4).2.1.ndc)
 have hp := (hmt.nd _ p x n1).2.1.1
 have hp2 := (hmt.nd _ p2 y n2).2.1.1
 have hp4 := (hmt.nd _ p4 b n4).2.1.1
 have RE : Hid (r = (10, [])) := hid (by
   rw [HR.out]
   rw [hfy] at hab
   obtain ⟨y', h1, h2⟩ := ab_dir hrt q.fid _ hlb k4 hab
   rw [hly] at h1
   cases h1
   exact (rename_w (o := ⟨k, fid, dir, nm, tof, nm2, md, dt, sn⟩) (d := x.er) (n := y.er) (b := b.er) (g := q.fid) hl k1 (by show kq x.ks nm = _; rw [← eq]; exact q1) hq0 hly hlb k4).1 h2 hab)
 have HAB := hid hab
 rw [hab] at PCL
 clear hab
 obtain ⟨p2b, p2o, p2s⟩ := p2
 obtain ⟨p4b, p4o, p4s⟩ := p4
 obtain ⟨pb, po, ps⟩ := p
 simp only at hp hp2 hp4 YC XC
 subst hp hp2 hp4
 clear hmt hrel hrt n1 k1 q1 n2 n4 k4 h hf hdr hto hmd hz1 hz2 hz3 hly hl hlb hfy hfx hfb hks hk12 hk0 hks4 hk412 hk40 eq hq0 hq1 hqd HR MV
 go_enter Tryz.func78, Tryz.ntmps78
 go_upto_region 1 with fail
 generalize w.alloc (.cells #[.int .u8 k, .int .u32 fid, .int .u32 dir, .string nm, .int .u32 tof, .string nm2, .int .u16 md, .string dt] 58) = V at *
 have o2 : V.cell? ⟨w.heap.size, 2, none⟩ = some (.int .u32 dir) := cell_of_row2 H0.out 2 rfl
 have o3 : V.cell? ⟨w.heap.size, 3, none⟩ = some (.string nm) := cell_of_row2 H0.out 3 rfl
 have o4 : V.cell? ⟨w.heap.size, 4, none⟩ = some (.int .u32 tof) := cell_of_row2 H0.out 4 rfl
 have o5 : V.cell? ⟨w.heap.size, 5, none⟩ = some (.string nm2) := cell_of_row2 H0.out 5 rfl
 go_upto_region 3 with (first
   | (go_at_call 98; refine DC1.out.mono ?_; rintro _ wd ⟨rfl, hwd⟩; have hwd2 := hwd.symm; clear hwd; subst hwd2)
   | (go_at_call 100; refine LC.out.mono ?_; rintro _ w1 ⟨rfl, hb1⟩; have n0 := (YC.out w1 hb1).all.1; have n0d : w1.drew.cell? ⟨p2b, p2o, none⟩ = some (.int .u32 y.fid) := n0; have u4 : w1.cell? ⟨w.heap.size, 4, none⟩ = some (.int .u32 tof) := cell_of_row2 (OPL.out w1 hb1) 4 rfl; have u4d : w1.drew.cell? ⟨w.heap.size, 4, none⟩ = some (.int .u32 tof) := u4; have DC1 := hid (DCL.out w1 hb1); have PC1 := hid (PCL.out w1.drew (Below.drew hb1)); have B1 := hid hb1; clear hb1))
 have YD : ∀ w', Below w1.drew.heap.size w1.drew w' → w'.cell? ⟨p2b, p2o, none⟩ = some (.int .u32 y.fid) := fun w' hb => cell_later hb n0d
 have OD : ∀ w', Below w1.drew.heap.size w1.drew w' → w'.cell? ⟨w.heap.size, 4, none⟩ = some (.int .u32 tof) := fun w' hb => cell_later hb u4d
 clear n0 n0d u4 u4d
 go_wp2_with fail
 refine wp_region_held_drew (S := fun w' => Below w1.drew.heap.size w1.drew w') (by kernel_rfl) (Below.refl _ _) (fun hHeld => ?_)
 refine take_l 0 (v := ?_) rfl (by kernel_rfl) (by kernel_rfl) (by kernel_rfl) (fun _ _ _ h => h) (Or.inl ⟨by rfl, ?_⟩) (by assumption) ?_
 rotate_left
 · (intro w' hSw; clear hSw; go_simp; first | done | with_reducible rfl)
 try simp only [Act.put, List.setIfInBounds_toArray, List.set_cons_zero, List.set_cons_succ]
 refine take_l 2 (v := ?_) rfl (by kernel_rfl) (by kernel_rfl) (by kernel_rfl) (fun _ _ _ h => h) (Or.inl ⟨by rfl, ?_⟩) (by assumption) ?_
 rotate_left
 · (intro w' hSw; clear hSw; go_simp; first | done | with_reducible rfl)
 try simp only [Act.put, List.setIfInBounds_toArray, List.set_cons_zero, List.set_cons_succ]
 refine take_l 3 (v := ?_) rfl (by kernel_rfl) (by kernel_rfl) (by kernel_rfl) (fun _ _ _ h => h) (Or.inl ⟨by rfl, ?_⟩) (by assumption) ?_
 rotate_left
 · (intro w' hSw; clear hSw; go_simp; first | done | with_reducible rfl)
 try simp only [Act.put, List.setIfInBounds_toArray, List.set_cons_zero, List.set_cons_succ]
 refine take_l 4 (v := ?_) rfl (by kernel_rfl) (by kernel_rfl) (by kernel_rfl) (fun _ _ _ h => h) (Or.inl ⟨by rfl, ?_⟩) (by assumption) ?_
 rotate_left
 · (intro w' hSw; clear hSw; go_simp; first | done | with_reducible rfl)
 try simp only [Act.put, List.setIfInBounds_toArray, List.set_cons_zero, List.set_cons_succ]
 refine take_l 5 (v := ?_) rfl (by kernel_rfl) (by kernel_rfl) (by kernel_rfl) (fun _ _ _ h => h) (Or.inl ⟨by rfl, ?_⟩) (by assumption) ?_
 rotate_left
 · (intro w' hSw; (have kq := YD _ hSw); clear hSw; go_simp; first | done | with_reducible rfl)
 try simp only [Act.put, List.setIfInBounds_toArray, List.set_cons_zero, List.set_cons_succ]
 refine take_l 6 (v := ?_) rfl (by kernel_rfl) (by kernel_rfl) (by kernel_rfl) (fun _ _ _ h => h) (Or.inl ⟨by rfl, ?_⟩) (by assumption) ?_
 rotate_left
 · (intro w' hSw; clear hSw; go_simp; first | done | with_reducible rfl)
 try simp only [Act.put, List.setIfInBounds_toArray, List.set_cons_zero, List.set_cons_succ]
 refine take_l 7 (v := ?_) rfl (by kernel_rfl) (by kernel_rfl) (by kernel_rfl) (fun _ _ _ h => h) (Or.inl ⟨by rfl, ?_⟩) (by assumption) ?_
 rotate_left
 · (intro w' hSw; (have kq := OD _ hSw); clear hSw; go_simp; first | done | with_reducible rfl)
 try simp only [Act.put, List.setIfInBounds_toArray, List.set_cons_zero, List.set_cons_succ]
 refine cons_l 1 rfl (by kernel_rfl) (fun K hK => ?_)
 go_simp
 refine PC1.out.mono ?_; intro e2 w2 h2; obtain ⟨rfl, L2', hb2⟩ := h2; have L2 := hid L2'; have B2 := hid hb2; clear L2' hb2
 go_simp
 refine hK.out _ _ B2.out (fun hHeld => ?_)
 clear hK K
 try simp only [Act.put, List.setIfInBounds_toArray, List.set_cons_zero, List.set_cons_succ]
 refine cons_l 8 rfl (by kernel_rfl) (fun K hK => ?_)
 go_simp
 refine (L2.out _ (Below.refl _ _)).mono ?_; rintro _ w3 ⟨rfl, hb3⟩
 have B3 := hid (B2.out.trans (hb3.mono B2.out.size))
 clear hb3
 go_simp
 refine hK.out _ _ B3.out (fun hHeld => ?_)
 clear hK K
 try simp only [Act.put, List.setIfInBounds_toArray, List.set_cons_zero, List.set_cons_succ]
 refine cons_l 9 rfl (by kernel_rfl) (fun K hK => ?_)
 go_simp
 refine (trefuse_t _ _).mono ?_; rintro _ wz ⟨rfl, hwz⟩
 rw [hwz]
 exact ⟨rfl, DoP.err RE.out (by decide) (B0.out.trans (((Below.drew B1.out).trans (B3.out.mono (Below.drew B1.out).size)).mono B0.out.size))⟩
end Go.Proofs.YtgbdplammniidaaGreatDoor
