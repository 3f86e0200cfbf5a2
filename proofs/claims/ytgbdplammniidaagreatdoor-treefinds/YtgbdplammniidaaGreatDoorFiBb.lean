/-
  The package tree: rename, one way.
-/
import Derived.Test.YtgbdplammniidaaGreatDoorFiAz
namespace Go.Proofs.YtgbdplammniidaaGreatDoor
open Go.RowKit Go.ChangeShapes Go.WideShapes Go.ChangeAt Go.Maps Go.Shelf
set_option linter.unusedVariables false
set_option linter.unusedSimpArgs false
set_option maxRecDepth 100000
set_option maxHeartbeats 4000000 in
theorem ren_4 {w : World} {base tb : Nat} {N : Tab} {l : List Nd} {o : Rec} {p : Addr} {x : Nd} {q : Kd} {p2 : Addr} {y : Nd} {p4 : Addr} {b : Nd} (H : RenH w base tb N l o p x q p2 y p4 b) (hab : abN l y.fid (l.length + 1) o.to = false) (hq2 : kq b.ks o.nm2 = none) (hne : o.to ≠ o.dir) (h12 : b.ks.length = 12) : Calls Tryz.prog 78 #[.map (some tb), o.opV] w (DoP w base tb (renameL l o)) := by
 obtain ⟨r, hr⟩ : ∃ r, r = renameL l o := ⟨_, rfl⟩
 rw [← hr]
 have HR := hid hr
 clear hr
 obtain ⟨hmt, hrel, hrt, ho, n1, k1, q1, n2, n4, k4⟩ := H
 have h := hmt
 obtain ⟨k, fid, dir, nm, tof, nm2, md, dt, sn⟩ := o
 have b0 := below_1 w (.cells #[.int .u8 k, .int .u32 fid, .int .u32 dir, .string nm, .int .u32 tof, .string nm2, .int .u16 md, .string dt] 58)
 have h0 := heap_alloc_new w (.cells #[.int .u8 k, .int .u32 fid, .int .u32 dir, .string nm, .int .u32 tof, .string nm2, .int .u16 md, .string dt] 58)
 have MV := hid (h.later b0)
 have B0 := hid b0
 have H0 := hid h0
 have OPL : Hid (∀ W, Below (w.alloc (.cells #[.int .u8 k, .int .u32 fid, .int .u32 dir, .string nm, .int .u32 tof, .string nm2, .int .u16 md, .string dt] 58)).heap.size (w.alloc (.cells #[.int .u8 k, .int .u32 fid, .int .u32 dir, .string nm, .int .u32 tof, .string nm2, .int .u16 md, .string dt] 58)) W → W.heap[w.heap.size]? = some (.cells #[.int .u8 k, .int .u32 fid, .int .u32 dir, .string nm, .int .u32 tof, .string nm2, .int .u16 md, .string dt] 58)) := hid (fun W hW => (hW.block _ (lt_blkR h0)).trans h0)
 obtain ⟨_, hf, hdr, hto, hmd, _, hz1, hz2, hz3⟩ := ho
 simp only [Rec.opV] at *
 clear b0 h0
 have HZ := hid hmt.size
 have hl := hrel.got n1
 have hly := hrel.got n2
 have hlb := hrel.got n4
 have hfx := (hmt.nd _ p x n1).2.2.2
 have hfy := (hmt.nd _ p2 y n2).2.2.2
 have hfb := (hmt.nd _ p4 b n4).2.2.2
 obtain ⟨hks, hk12, hk0⟩ := tab_dir hmt hrel hrt n1 k1
 obtain ⟨hks4, hk412, hk40⟩ := tab_dir hmt hrel hrt n4 k4
 obtain ⟨_, _, n2', eq, hq0, hq1, hqd, _, _, _⟩ := tab_ent hmt hrel hrt n1 k1 q1
 clear n2'
 have LC := hid (tlook_s MV.out hdr.1 hdr.2 n1 k1 q1 n2)
 have DCL : Hid (∀ W, Below (w.alloc (.cells #[.int .u8 k, .int .u32 fid, .int .u32 dir, .string nm, .int .u32 tof, .string nm2, .int .u16 md, .string dt] 58)).heap.size (w.alloc (.cells #[.int .u8 k, .int .u32 fid, .int .u32 dir, .string nm, .int .u32 tof, .string nm2, .int .u16 md, .string dt] 58)) W → Calls Tryz.prog 98 #[.map (some tb), .int .u32 tof] W fun e w' => e = .returned (.pointer (some p4)) ∧ w' = W) := hid (fun W hW => tdir_s (MV.out.later hW) hto.1 hto.2 n4 k4)
 have PCL := hid (fun (W : World) (hW : Below (w.alloc (.cells #[.int .u8 k, .int .u32 fid, .int .u32 dir, .string nm, .int .u32 tof, .string nm2, .int .u16 md, .string dt] 58)).heap.size (w.alloc (.cells #[.int .u8 k, .int .u32 fid, .int .u32 dir, .string nm, .int .u32 tof, .string nm2, .int .u16 md, .string dt] 58)) W) => par_lead MV.out hrel hrt hW hlb k4 hto.1 hto.2 y.fid)
 have YC : Hid (∀ W, Below (w.alloc (.cells #[.int .u8 k, .int .u32 fid, .int .u32 dir, .string nm, .int .u32 tof, .string nm2, .int .u16 md, .string dt] 58)).heap.size (w.alloc (.cells #[.int .u8 k, .int .u32 fid, .int .u32 dir, .string nm, .int .u32 tof, .string nm2, .int .u16 md, .string dt] 58)) W → NdC W p2.block p2.off y) := hid (fun W hW => ((MV.out.later hW).nd _ p2 y n2).2.1.ndc)
 have XC : Hid (∀ W, Below (w.alloc (.cells #[.int .u8 k, .int .u32 fid, .int .u32 dir, .string nm, .int .u32 tof, .string nm2, .int .u16 md, .string dt] 58)).heap.size (w.alloc (.cells #[.int .u8 k, .int .u32 fid, .int .u32 dir, .string nm, .int .u32 tof, .string nm2, .int .u16 md, .string dt] 58)) W → NdC W p4.block p4.off b) := hid (fun W hW => ((MV.out.later hW).nd _ p4 b n4).2.1.ndc)
 have hp := (hmt.nd _ p x n1).2.1.1
 have hp2 := (hmt.nd _ p2 y n2).2.1.1
 have hp4 := (hmt.nd _ p4 b n4).2.1.1
 have HNO : Hid (¬ (y.er.k = 2 ∧ abN l q.fid (l.length + 1) tof = true)) := hid (fun e => by rw [← hfy] at e; rw [hab] at e; cases e.2)
 rw [hab] at PCL
 clear hab
 have RE : Hid (r = (4, [])) := hid (by
   rw [HR.out]
   exact (rename_w (o := ⟨k, fid, dir, nm, tof, nm2, md, dt, sn⟩) (d := x.er) (n := y.er) (b := b.er) (g := q.fid) hl k1 (by show kq x.ks nm = _; rw [← eq]; exact q1) hq0 hly hlb k4).2.2 HNO.out (kidI_no hq2) (by cases e : getF l 0 with | none => rfl | some z => have := (hrt.at e).2.1; omega) hne (by show 12 ≤ b.ks.length; omega))
 have BCL : Hid (∀ W, Below (w.alloc (.cells #[.int .u8 k, .int .u32 fid, .int .u32 dir, .string nm, .int .u32 tof, .string nm2, .int .u16 md, .string dt] 58)).heap.size (w.alloc (.cells #[.int .u8 k, .int .u32 fid, .int .u32 dir, .string nm, .int .u32 tof, .string nm2, .int .u16 md, .string dt] 58)) W → Calls Tryz.prog 103 #[.map (some tb), .pointer (some p4), .string nm2] W fun e w' => e = .returned (.pointer none) ∧ Below W.heap.size W w') := hid (fun W hW => tbehind_n (MV.out.later hW) n4 hq2)
 have neB : (tof != dir) = true := by unfold bne; rw [beq_eq_false_iff_ne.2 hne]; rfl
 have kB : ((b.ks.length : Int) == 12) = true := by rw [h12]; rfl
 obtain ⟨p2b, p2o, p2s⟩ := p2
 obtain ⟨p4b, p4o, p4s⟩ := p4
 obtain ⟨pb, po, ps⟩ := p
 simp only at hp hp2 hp4 YC XC BCL
 subst hp hp2 hp4
 clear hmt hrel hrt n1 k1 q1 n2 n4 k4 h hf hdr hto hmd hz1 hz2 hz3 hly hl hlb hfy hfx hfb hks hk12 hk0 hks4 hk412 hk40 eq hq0 hq1 hqd HR MV hq2 hne h12 HNO
 go_enter Tryz.func78, Tryz.ntmps78
 go_upto_region 1 with fail
 generalize w.alloc (.cells #[.int .u8 k, .int .u32 fid, .int .u32 dir, .string nm, .int .u32 tof, .string nm2, .int .u16 md, .string dt] 58) = V at *
 have o2 : V.cell? ⟨w.heap.size, 2, none⟩ = some (.int .u32 dir) := cell_of_row2 H0.out 2 rfl
 have o3 : V.cell? ⟨w.heap.size, 3, none⟩ = some (.string nm) := cell_of_row2 H0.out 3 rfl
 have o4 : V.cell? ⟨w.heap.size, 4, none⟩ = some (.int .u32 tof) := cell_of_row2 H0.out 4 rfl
 have o5 : V.cell? ⟨w.heap.size, 5, none⟩ = some (.string nm2) := cell_of_row2 H0.out 5 rfl
 go_upto_region 3 with (first
   | (go_at_call 98; refine DC1.out.mono ?_; rintro _ wd ⟨rfl, hwd⟩; have hwd2 := hwd.symm; clear hwd; subst hwd2)
   | (go_at_call 100; refine LC.out.mono ?_; rintro _ w1 ⟨rfl, hb1⟩; have n0 := (YC.out w1 hb1).all.1; have n0d : w1.drew.cell? ⟨p2b, p2o, none⟩ = some (.int .u32 y.fid) := n0; have u4 : w1.cell? ⟨w.heap.size, 4, none⟩ = some (.int .u32 tof) := cell_of_row2 (OPL.out w1 hb1) 4 rfl; have u4d : w1.drew.cell? ⟨w.heap.size, 4, none⟩ = some (.int .u32 tof) := u4; have DC1 := hid (DCL.out w1 hb1); have PC1 := hid (PCL.out w1.drew (Below.drew hb1)); have B1 := hid hb1; clear hb1))
 go_cut [30] from 21 to 79 (fun s30 wx => ∃ wy, wy = wx ∧ Hid (Below V.heap.size V wy))
 case first =>
   go_region_with (first
     | (go_at_call 72; refine (trefuse_f _ _).mono ?_; rintro _ wz ⟨rfl, hwz⟩; have hwz2 := hwz.symm; clear hwz; subst hwz2)
     | (go_at_call 56; refine (L2.out _ (Below.refl _ _)).mono ?_; rintro _ w3 ⟨rfl, hb3⟩; have B3 := hid (B2.out.trans (hb3.mono B2.out.size)); clear hb3)
     | (go_at_call 55; refine PC1.out.mono ?_; intro e2 w2 h2; obtain ⟨rfl, L2', hb2⟩ := h2; have L2 := hid L2'; have B2 := hid ((Below.drew B1.out).trans (hb2.mono (Below.drew B1.out).size)); have n0e := (YC.out w2 B2.out).all.1; have v4 : w2.cell? ⟨w.heap.size, 4, none⟩ = some (.int .u32 tof) := cell_of_row2 (OPL.out w2 B2.out) 4 rfl; clear hb2 L2'))
   all_goals (go_wp2_with fail; go_meet; exact ⟨_, rfl, B3⟩)
 obtain ⟨wy, hwy, HBY⟩ := hcut
 subst hwy
 clear n0 n0d u4 u4d DC1 PC1 PCL DCL LC
 have BC := hid (BCL.out wy HBY.out)
 have t5 : wy.cell? ⟨w.heap.size, 5, none⟩ = some (.string nm2) := cell_of_row2 (OPL.out wy HBY.out) 5 rfl
 go_wp2_with (first
   | (go_at_call 72; refine (trefuse_t _ _).mono ?_; rintro _ wz ⟨rfl, hwz⟩; have hwz2 := hwz.symm; clear hwz; subst hwz2)
   | (go_at_call 103; refine BC.out.mono ?_; rintro _ w4 ⟨rfl, hb4⟩; have B4 := hid (HBY.out.trans (hb4.mono HBY.out.size)); have x5 := (XC.out w4 B4.out).all.2.2.2.2.2; have s2 : w4.cell? ⟨w.heap.size, 2, none⟩ = some (.int .u32 dir) := cell_of_row2 (OPL.out w4 B4.out) 2 rfl; have s3 : w4.cell? ⟨w.heap.size, 3, none⟩ = some (.string nm) := cell_of_row2 (OPL.out w4 B4.out) 3 rfl; have s4 : w4.cell? ⟨w.heap.size, 4, none⟩ = some (.int .u32 tof) := cell_of_row2 (OPL.out w4 B4.out) 4 rfl; have s5 : w4.cell? ⟨w.heap.size, 5, none⟩ = some (.string nm2) := cell_of_row2 (OPL.out w4 B4.out) 5 rfl; have pe := eql_none w4 ⟨p2b, p2o, none⟩; clear hb4))
 exact ⟨rfl, DoP.err RE.out (by decide) (B0.out.trans (B4.out.mono B0.out.size))⟩
end Go.Proofs.YtgbdplammniidaaGreatDoor
