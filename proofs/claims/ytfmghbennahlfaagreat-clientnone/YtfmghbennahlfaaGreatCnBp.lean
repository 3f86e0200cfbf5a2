/-
  
-/
import Derived.Test.YtfmghbennahlfaaGreatCnBl
namespace Go.Proofs.YtfmghbennahlfaaGreat
open Go.RowKit Go.ChangeShapes Go.WideShapes Go.ChangeAt Go.Maps Go.Shelf
set_option linter.unusedVariables false
set_option linter.unusedSimpArgs false
set_option maxRecDepth 100000
set_option maxHeartbeats 4000000 in
theorem do_2 {w : World} {base tb : Nat} {c : Int} {L : List Nd} (fid dir : Int) (nm : ByteArray) (tof : Int) (nm2 : ByteArray) (md : Int) (dt : ByteArray) (sn : Int) (hz : base ≤ w.heap.size) (hz1 : nm.size ≤ maxLen) (hz2 : nm2.size ≤ maxLen) (hr : rightF ⟨2, fid, dir, nm, tof, nm2, md, dt, sn⟩ = true)
   (CC : Hid (∀ W, Below w.heap.size w W → Calls Tryz.prog 233 #[.map (some tb), (⟨2, fid, dir, nm, tof, nm2, md, dt, sn⟩ : Rec).opV, .int .u8 2] W (DoP W base tb (c, L)))) :
   Calls Tryz.prog 176 #[.map (some tb), (⟨2, fid, dir, nm, tof, nm2, md, dt, sn⟩ : Rec).opV] w (DoP w base tb (c, L)) := by
 have b0 := below_1 w (.cells #[.int .u8 2, .int .u32 fid, .int .u32 dir, .string nm, .int .u32 tof, .string nm2, .int .u16 md, .string dt] 111)
 have h0 := heap_alloc_new w (.cells #[.int .u8 2, .int .u32 fid, .int .u32 dir, .string nm, .int .u32 tof, .string nm2, .int .u16 md, .string dt] 111)
 have B0 := hid b0
 have H0 := hid h0
 have RC0 := rightOp_c ⟨2, fid, dir, nm, tof, nm2, md, dt, sn⟩ (w.alloc (.cells #[.int .u8 2, .int .u32 fid, .int .u32 dir, .string nm, .int .u32 tof, .string nm2, .int .u16 md, .string dt] 111)) hz1 hz2
 rw [hr] at RC0
 have RC := hid RC0
 have OPL : Hid (∀ W, Below (w.alloc (.cells #[.int .u8 2, .int .u32 fid, .int .u32 dir, .string nm, .int .u32 tof, .string nm2, .int .u16 md, .string dt] 111)).heap.size (w.alloc (.cells #[.int .u8 2, .int .u32 fid, .int .u32 dir, .string nm, .int .u32 tof, .string nm2, .int .u16 md, .string dt] 111)) W → W.heap[w.heap.size]? = some (.cells #[.int .u8 2, .int .u32 fid, .int .u32 dir, .string nm, .int .u32 tof, .string nm2, .int .u16 md, .string dt] 111)) := hid (fun W hW => (hW.block _ (lt_blkR h0)).trans h0)
 have HZ := hid hz
 simp only [Rec.opV] at *
 clear b0 h0 RC0 hr hz hz1 hz2
 by_cases hc : c = 0
 ·
   go_enter Tryz.func176, Tryz.ntmps176
   go_upto_region 1 with fail
   generalize w.alloc (.cells #[.int .u8 2, .int .u32 fid, .int .u32 dir, .string nm, .int .u32 tof, .string nm2, .int .u16 md, .string dt] 111) = V at *
   have o0 : V.cell? ⟨w.heap.size, 0, none⟩ = some (.int .u8 2) := cell_of_row2 H0.out 0 rfl
   have o1 : V.cell? ⟨w.heap.size, 1, none⟩ = some (.int .u32 fid) := cell_of_row2 H0.out 1 rfl
   have o2 : V.cell? ⟨w.heap.size, 2, none⟩ = some (.int .u32 dir) := cell_of_row2 H0.out 2 rfl
   have o3 : V.cell? ⟨w.heap.size, 3, none⟩ = some (.string nm) := cell_of_row2 H0.out 3 rfl
   have o4 : V.cell? ⟨w.heap.size, 4, none⟩ = some (.int .u32 tof) := cell_of_row2 H0.out 4 rfl
   have o5 : V.cell? ⟨w.heap.size, 5, none⟩ = some (.string nm2) := cell_of_row2 H0.out 5 rfl
   have o6 : V.cell? ⟨w.heap.size, 6, none⟩ = some (.int .u16 md) := cell_of_row2 H0.out 6 rfl
   have o7 : V.cell? ⟨w.heap.size, 7, none⟩ = some (.string dt) := cell_of_row2 H0.out 7 rfl
   go_wp2_with (first
     | (go_at_call 233; refine CC1.out.mono ?_; intro e2 w2 hD; obtain ⟨rfl, hF⟩ := hD.out0 hc; have F := hid hF; clear hF hD)
     | (go_at_call 232; refine (trefuse_f _ _).mono ?_; rintro _ wz ⟨rfl, hwz⟩; have hwz2 := hwz.symm; clear hwz; subst hwz2)
     | (go_at_call 135; refine RC.out.mono ?_; rintro _ w1 ⟨rfl, hb1⟩; have u0 : w1.cell? ⟨w.heap.size, 0, none⟩ = some (.int .u8 2) := cell_of_row2 (OPL.out w1 hb1) 0 rfl; have u1 : w1.cell? ⟨w.heap.size, 1, none⟩ = some (.int .u32 fid) := cell_of_row2 (OPL.out w1 hb1) 1 rfl; have u2 : w1.cell? ⟨w.heap.size, 2, none⟩ = some (.int .u32 dir) := cell_of_row2 (OPL.out w1 hb1) 2 rfl; have u3 : w1.cell? ⟨w.heap.size, 3, none⟩ = some (.string nm) := cell_of_row2 (OPL.out w1 hb1) 3 rfl; have u4 : w1.cell? ⟨w.heap.size, 4, none⟩ = some (.int .u32 tof) := cell_of_row2 (OPL.out w1 hb1) 4 rfl; have u5 : w1.cell? ⟨w.heap.size, 5, none⟩ = some (.string nm2) := cell_of_row2 (OPL.out w1 hb1) 5 rfl; have u6 : w1.cell? ⟨w.heap.size, 6, none⟩ = some (.int .u16 md) := cell_of_row2 (OPL.out w1 hb1) 6 rfl; have u7 : w1.cell? ⟨w.heap.size, 7, none⟩ = some (.string dt) := cell_of_row2 (OPL.out w1 hb1) 7 rfl; have B1 := hid hb1; have CC1 := hid (CC.out w1 (B0.out.trans (hb1.mono B0.out.size))); clear hb1))
   exact body_end (by kernel_rfl) rfl (F.out.lift (B0.out.trans (B1.out.mono B0.out.size)) HZ.out)
 ·
   go_enter Tryz.func176, Tryz.ntmps176
   go_upto_region 1 with fail
   generalize w.alloc (.cells #[.int .u8 2, .int .u32 fid, .int .u32 dir, .string nm, .int .u32 tof, .string nm2, .int .u16 md, .string dt] 111) = V at *
   have o0 : V.cell? ⟨w.heap.size, 0, none⟩ = some (.int .u8 2) := cell_of_row2 H0.out 0 rfl
   have o1 : V.cell? ⟨w.heap.size, 1, none⟩ = some (.int .u32 fid) := cell_of_row2 H0.out 1 rfl
   have o2 : V.cell? ⟨w.heap.size, 2, none⟩ = some (.int .u32 dir) := cell_of_row2 H0.out 2 rfl
   have o3 : V.cell? ⟨w.heap.size, 3, none⟩ = some (.string nm) := cell_of_row2 H0.out 3 rfl
   have o4 : V.cell? ⟨w.heap.size, 4, none⟩ = some (.int .u32 tof) := cell_of_row2 H0.out 4 rfl
   have o5 : V.cell? ⟨w.heap.size, 5, none⟩ = some (.string nm2) := cell_of_row2 H0.out 5 rfl
   have o6 : V.cell? ⟨w.heap.size, 6, none⟩ = some (.int .u16 md) := cell_of_row2 H0.out 6 rfl
   have o7 : V.cell? ⟨w.heap.size, 7, none⟩ = some (.string dt) := cell_of_row2 H0.out 7 rfl
   go_wp2_with (first
     | (go_at_call 233; refine CC1.out.mono ?_; intro e2 w2 hD; obtain ⟨rfl, hF⟩ := hD.out1 hc; have F := hid hF; clear hF hD)
     | (go_at_call 232; refine (trefuse_f _ _).mono ?_; rintro _ wz ⟨rfl, hwz⟩; have hwz2 := hwz.symm; clear hwz; subst hwz2)
     | (go_at_call 135; refine RC.out.mono ?_; rintro _ w1 ⟨rfl, hb1⟩; have u0 : w1.cell? ⟨w.heap.size, 0, none⟩ = some (.int .u8 2) := cell_of_row2 (OPL.out w1 hb1) 0 rfl; have u1 : w1.cell? ⟨w.heap.size, 1, none⟩ = some (.int .u32 fid) := cell_of_row2 (OPL.out w1 hb1) 1 rfl; have u2 : w1.cell? ⟨w.heap.size, 2, none⟩ = some (.int .u32 dir) := cell_of_row2 (OPL.out w1 hb1) 2 rfl; have u3 : w1.cell? ⟨w.heap.size, 3, none⟩ = some (.string nm) := cell_of_row2 (OPL.out w1 hb1) 3 rfl; have u4 : w1.cell? ⟨w.heap.size, 4, none⟩ = some (.int .u32 tof) := cell_of_row2 (OPL.out w1 hb1) 4 rfl; have u5 : w1.cell? ⟨w.heap.size, 5, none⟩ = some (.string nm2) := cell_of_row2 (OPL.out w1 hb1) 5 rfl; have u6 : w1.cell? ⟨w.heap.size, 6, none⟩ = some (.int .u16 md) := cell_of_row2 (OPL.out w1 hb1) 6 rfl; have u7 : w1.cell? ⟨w.heap.size, 7, none⟩ = some (.string dt) := cell_of_row2 (OPL.out w1 hb1) 7 rfl; have B1 := hid hb1; have CC1 := hid (CC.out w1 (B0.out.trans (hb1.mono B0.out.size))); clear hb1))
   exact ⟨rfl, F.out.lift (B0.out.trans (B1.out.mono B0.out.size)) HZ.out⟩
end Go.Proofs.YtfmghbennahlfaaGreat
