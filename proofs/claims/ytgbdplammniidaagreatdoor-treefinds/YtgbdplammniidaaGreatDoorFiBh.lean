/-
  The package tree: rename.
  The package tree: do: an operation on a table.
-/
import Derived.Test.YtgbdplammniidaaGreatDoorFiBa
import Derived.Test.YtgbdplammniidaaGreatDoorFiBb
import Derived.Test.YtgbdplammniidaaGreatDoorFiBc
import Derived.Test.YtgbdplammniidaaGreatDoorFiBd
import Derived.Test.YtgbdplammniidaaGreatDoorFiBf
import Derived.Test.YtgbdplammniidaaGreatDoorFiBg
namespace Go.Proofs.YtgbdplammniidaaGreatDoor
open Go.RowKit Go.ChangeShapes Go.WideShapes Go.ChangeAt Go.Maps Go.Shelf
set_option linter.unusedVariables false
set_option linter.unusedSimpArgs false
set_option maxRecDepth 100000
set_option maxHeartbeats 4000000 in
theorem trename_c {w : World} {base tb : Nat} {N : Tab} {l : List Nd} (o : Rec) (h : MT w base tb l.length N) (hR : Rel N l) (R : Rt l) (ho : o.Wf) :
   Calls Tryz.prog 78 #[.map (some tb), o.opV] w (DoP w base tb (renameL l o)) := by
 obtain ⟨r, hr⟩ : ∃ r, r = renameL l o := ⟨_, rfl⟩
 rw [← hr]
 have HR := hid hr
 clear hr
 have hwf := ho
 obtain ⟨k, fid, dir, nm, tof, nm2, md, dt, sn⟩ := o
 have b0 := below_1 w (.cells #[.int .u8 k, .int .u32 fid, .int .u32 dir, .string nm, .int .u32 tof, .string nm2, .int .u16 md, .string dt] 58)
 have h0 := heap_alloc_new w (.cells #[.int .u8 k, .int .u32 fid, .int .u32 dir, .string nm, .int .u32 tof, .string nm2, .int .u16 md, .string dt] 58)
 have MV := hid (h.later b0)
 have B0 := hid b0
 have H0 := hid h0
 have OPL : Hid (∀ W, Below (w.alloc (.cells #[.int .u8 k, .int .u32 fid, .int .u32 dir, .string nm, .int .u32 tof, .string nm2, .int .u16 md, .string dt] 58)).heap.size (w.alloc (.cells #[.int .u8 k, .int .u32 fid, .int .u32 dir, .string nm, .int .u32 tof, .string nm2, .int .u16 md, .string dt] 58)) W → W.heap[w.heap.size]? = some (.cells #[.int .u8 k, .int .u32 fid, .int .u32 dir, .string nm, .int .u32 tof, .string nm2, .int .u16 md, .string dt] 58)) := hid (fun W hW => (hW.block _ (lt_blkR h0)).trans h0)
 obtain ⟨_, hf, hdr, hto, hmd, _, hz1, hz2, hz3⟩ := ho
 simp only [Rec.opV] at *
 clear b0 h0
 have HZ := hid h.size
 cases hN : N dir with
 | none =>
   have RE : Hid (r = (5, [])) := hid (by rw [HR.out]; exact rename_e (lookE_n _ (hR.no hN)) (by decide))
   have LC := hid (tlook_n MV.out hdr.1 hdr.2 hN nm)
   clear h hR R HR HZ hf hdr hto hmd hz1 hz2 hz3 hwf hN OPL MV
   go_enter Tryz.func78, Tryz.ntmps78
   go_upto_region 1 with fail
   generalize w.alloc (.cells #[.int .u8 k, .int .u32 fid, .int .u32 dir, .string nm, .int .u32 tof, .string nm2, .int .u16 md, .string dt] 58) = V at *
   have o2 : V.cell? ⟨w.heap.size, 2, none⟩ = some (.int .u32 dir) := cell_of_row2 H0.out 2 rfl
   have o3 : V.cell? ⟨w.heap.size, 3, none⟩ = some (.string nm) := cell_of_row2 H0.out 3 rfl
   go_wp2_with (go_at_call 100; refine LC.out.mono ?_; rintro _ w1 ⟨rfl, hb1⟩)
   exact ⟨rfl, DoP.err RE.out (by decide) (B0.out.trans (hb1.mono B0.out.size))⟩
 | some z =>
   obtain ⟨p, x⟩ := z
   have hl := hR.got hN
   by_cases k2 : x.k = 2
   · cases hq : kq x.ks nm with
     | none =>
       have RE : Hid (r = (5, [])) := hid (by rw [HR.out]; exact rename_e (lookE_q hl k2 hq) (by decide))
       have LC := hid (tlook_q MV.out hdr.1 hdr.2 hN k2 hq)
       clear h hR R HR HZ hf hdr hto hmd hz1 hz2 hz3 hwf hN OPL MV hl hq k2
       go_enter Tryz.func78, Tryz.ntmps78
       go_upto_region 1 with fail
       generalize w.alloc (.cells #[.int .u8 k, .int .u32 fid, .int .u32 dir, .string nm, .int .u32 tof, .string nm2, .int .u16 md, .string dt] 58) = V at *
       have o2 : V.cell? ⟨w.heap.size, 2, none⟩ = some (.int .u32 dir) := cell_of_row2 H0.out 2 rfl
       have o3 : V.cell? ⟨w.heap.size, 3, none⟩ = some (.string nm) := cell_of_row2 H0.out 3 rfl
       go_wp2_with (go_at_call 100; refine LC.out.mono ?_; rintro _ w1 ⟨rfl, hb1⟩)
       exact ⟨rfl, DoP.err RE.out (by decide) (B0.out.trans (hb1.mono B0.out.size))⟩
     | some q =>
       obtain ⟨hks, hk12, hk0⟩ := tab_dir MV.out hR R hN k2
       obtain ⟨p2, y, hN2, eq, hq0, hq1, hqd, hyl, hyf, hly⟩ := tab_ent MV.out hR R hN k2 hq
       have LC := hid (tlook_s MV.out hdr.1 hdr.2 hN k2 hq hN2)
       cases hN4 : N tof with
       | none =>
         have RE : Hid (r = (5, [])) := hid (by rw [HR.out]; exact rename_t (o := ⟨k, fid, dir, nm, tof, nm2, md, dt, sn⟩) (d := x.er) (g := q.fid) hl k2 (by show kq x.ks nm = _; rw [← eq]; exact hq) hq0 (dirE_n (hR.no hN4)) (by decide))
         have DCL : Hid (∀ W, Below (w.alloc (.cells #[.int .u8 k, .int .u32 fid, .int .u32 dir, .string nm, .int .u32 tof, .string nm2, .int .u16 md, .string dt] 58)).heap.size (w.alloc (.cells #[.int .u8 k, .int .u32 fid, .int .u32 dir, .string nm, .int .u32 tof, .string nm2, .int .u16 md, .string dt] 58)) W → Calls Tryz.prog 98 #[.map (some tb), .int .u32 tof] W fun e w' => e = PT 5 ∧ w' = W) := hid (fun W hW => tdir_n (MV.out.later hW) hto.1 hto.2 hN4)
         clear h hR R HR HZ hf hdr hto hmd hz1 hz2 hz3 hN MV hl hq hN2 hks hk12 hk0 eq hq0 hq1 hqd hyl hyf hly hN4 hwf k2
         go_enter Tryz.func78, Tryz.ntmps78
         go_upto_region 1 with fail
         generalize w.alloc (.cells #[.int .u8 k, .int .u32 fid, .int .u32 dir, .string nm, .int .u32 tof, .string nm2, .int .u16 md, .string dt] 58) = V at *
         have o2 : V.cell? ⟨w.heap.size, 2, none⟩ = some (.int .u32 dir) := cell_of_row2 H0.out 2 rfl
         have o3 : V.cell? ⟨w.heap.size, 3, none⟩ = some (.string nm) := cell_of_row2 H0.out 3 rfl
         go_wp2_with (first
           | (go_at_call 98; refine DC1.out.mono ?_; rintro _ wd ⟨rfl, hwd⟩; have hwd2 := hwd.symm; clear hwd; subst hwd2)
           | (go_at_call 100; refine LC.out.mono ?_; rintro _ w1 ⟨rfl, hb1⟩; have u4 : w1.cell? ⟨w.heap.size, 4, none⟩ = some (.int .u32 tof) := cell_of_row2 (OPL.out w1 hb1) 4 rfl; have DC1 := hid (DCL.out w1 hb1); have B1 := hid hb1; clear hb1))
         exact ⟨rfl, DoP.err RE.out (by decide) (B0.out.trans (B1.out.mono B0.out.size))⟩
       | some z =>
         obtain ⟨p4, b⟩ := z
         by_cases k4 : b.k = 2
         · rw [HR.out]
           cases hab : abN l y.fid (l.length + 1) tof with
           | true => exact ren_10 (o := ⟨k, fid, dir, nm, tof, nm2, md, dt, sn⟩) ⟨h, hR, R, hwf, hN, k2, hq, hN2, hN4, k4⟩ hab
           | false =>
             cases hq2 : kq b.ks nm2 with
             | none =>
               by_cases c : tof ≠ dir ∧ b.ks.length = 12
               · exact ren_4 (o := ⟨k, fid, dir, nm, tof, nm2, md, dt, sn⟩) ⟨h, hR, R, hwf, hN, k2, hq, hN2, hN4, k4⟩ hab hq2 c.1 c.2
               · refine ren_new (o := ⟨k, fid, dir, nm, tof, nm2, md, dt, sn⟩) ⟨h, hR, R, hwf, hN, k2, hq, hN2, hN4, k4⟩ hab hq2 ?_
                 have h12 := (tab_dir h hR R hN4 k4).2.1
                 by_cases e : tof = dir
                 · exact .inl e
                 · refine .inr ?_
                   have h13 : b.ks.length ≠ 12 := fun e2 => c ⟨e, e2⟩
                   show b.ks.length < 12
                   omega
             | some q2 =>
               obtain ⟨p3, z, n3, _⟩ := tab_ent h hR R hN4 k4 hq2
               by_cases e : q2.fid = q.fid
               · exact ren_same (o := ⟨k, fid, dir, nm, tof, nm2, md, dt, sn⟩) ⟨h, hR, R, hwf, hN, k2, hq, hN2, hN4, k4⟩ hab hq2 e
               · by_cases e2 : plE z y = 0
                 · exact ren_old (o := ⟨k, fid, dir, nm, tof, nm2, md, dt, sn⟩) ⟨h, hR, R, hwf, hN, k2, hq, hN2, hN4, k4⟩ hab hq2 e n3 e2
                 · exact ren_pl (o := ⟨k, fid, dir, nm, tof, nm2, md, dt, sn⟩) ⟨h, hR, R, hwf, hN, k2, hq, hN2, hN4, k4⟩ hab hq2 e n3 e2
         · have RE : Hid (r = (7, [])) := hid (by rw [HR.out]; exact rename_t (o := ⟨k, fid, dir, nm, tof, nm2, md, dt, sn⟩) (d := x.er) (g := q.fid) hl k2 (by show kq x.ks nm = _; rw [← eq]; exact hq) hq0 (dirE_k (hR.got hN4) k4) (by decide))
           have DCL : Hid (∀ W, Below (w.alloc (.cells #[.int .u8 k, .int .u32 fid, .int .u32 dir, .string nm, .int .u32 tof, .string nm2, .int .u16 md, .string dt] 58)).heap.size (w.alloc (.cells #[.int .u8 k, .int .u32 fid, .int .u32 dir, .string nm, .int .u32 tof, .string nm2, .int .u16 md, .string dt] 58)) W → Calls Tryz.prog 98 #[.map (some tb), .int .u32 tof] W fun e w' => e = PT 7 ∧ w' = W) := hid (fun W hW => tdir_k (MV.out.later hW) hto.1 hto.2 hN4 k4)
           clear h hR R HR HZ hf hdr hto hmd hz1 hz2 hz3 hN MV hl hq hN2 hks hk12 hk0 eq hq0 hq1 hqd hyl hyf hly hN4 hwf k2 k4
           go_enter Tryz.func78, Tryz.ntmps78
           go_upto_region 1 with fail
           generalize w.alloc (.cells #[.int .u8 k, .int .u32 fid, .int .u32 dir, .string nm, .int .u32 tof, .string nm2, .int .u16 md, .string dt] 58) = V at *
           have o2 : V.cell? ⟨w.heap.size, 2, none⟩ = some (.int .u32 dir) := cell_of_row2 H0.out 2 rfl
           have o3 : V.cell? ⟨w.heap.size, 3, none⟩ = some (.string nm) := cell_of_row2 H0.out 3 rfl
           go_wp2_with (first
             | (go_at_call 98; refine DC1.out.mono ?_; rintro _ wd ⟨rfl, hwd⟩; have hwd2 := hwd.symm; clear hwd; subst hwd2)
             | (go_at_call 100; refine LC.out.mono ?_; rintro _ w1 ⟨rfl, hb1⟩; have u4 : w1.cell? ⟨w.heap.size, 4, none⟩ = some (.int .u32 tof) := cell_of_row2 (OPL.out w1 hb1) 4 rfl; have DC1 := hid (DCL.out w1 hb1); have B1 := hid hb1; clear hb1))
           exact ⟨rfl, DoP.err RE.out (by decide) (B0.out.trans (B1.out.mono B0.out.size))⟩
   · have RE : Hid (r = (7, [])) := hid (by rw [HR.out]; exact rename_e (lookE_k _ hl k2) (by decide))
     have LC := hid (tlook_k MV.out hdr.1 hdr.2 hN k2 nm)
     clear h hR R HR HZ hf hdr hto hmd hz1 hz2 hz3 hwf hN OPL MV hl k2
     go_enter Tryz.func78, Tryz.ntmps78
     go_upto_region 1 with fail
     generalize w.alloc (.cells #[.int .u8 k, .int .u32 fid, .int .u32 dir, .string nm, .int .u32 tof, .string nm2, .int .u16 md, .string dt] 58) = V at *
     have o2 : V.cell? ⟨w.heap.size, 2, none⟩ = some (.int .u32 dir) := cell_of_row2 H0.out 2 rfl
     have o3 : V.cell? ⟨w.heap.size, 3, none⟩ = some (.string nm) := cell_of_row2 H0.out 3 rfl
     go_wp2_with (go_at_call 100; refine LC.out.mono ?_; rintro _ w1 ⟨rfl, hb1⟩)
     exact ⟨rfl, DoP.err RE.out (by decide) (B0.out.trans (hb1.mono B0.out.size))⟩
theorem DoP.lift {w w1 w' : World} {base tb : Nat} {r : Int × List Nd} {e : Ending} (h : DoP w1 base tb r e w') (hb : Below w.heap.size w w1) (hz : base ≤ w.heap.size) : DoP w base tb r e w' := by
 rcases h with ⟨h1, h2, h3, h4⟩ | ⟨h1, h2, h4⟩
 · exact .inl ⟨h1, h2, h3, (Keeps.of hb hz).trans h4⟩
 · exact .inr ⟨h1, h2, hb.trans (h4.mono hb.size)⟩
theorem rightF_parts {o : Rec} (h : rightF o = true) : pOk o.k = true ∧ (pFid o.k = true → o.fid ≠ 0) ∧ datF (pData o.k) o.dt = true := by
 unfold rightF at h
 simp only [Bool.and_eq_true, Bool.not_eq_true', Bool.or_eq_false_iff] at h
 obtain ⟨⟨⟨h1, h2⟩, _⟩, ⟨_, h3⟩⟩ := h
 refine ⟨by simpa using h1, fun e => ?_, h3⟩
 rw [e] at h2
 simp at h2
 exact h2
theorem dat_len {b : Bool} {s : ByteArray} (h : datF b s = true) : b = false → txB s = [] := by
 intro hb
 subst hb
 unfold datF at h
 have := (ba_nil s).1 h
 rw [this]; rfl
theorem ok_kinds {o : Rec} (h : rightF o = true) : o.k = 1 ∨ o.k = 2 ∨ o.k = 3 ∨ o.k = 4 ∨ o.k = 5 ∨ o.k = 6 ∨ o.k = 7 ∨ o.k = 8 ∨ o.k = 9 := by
 have := rightF_k h
 omega
theorem DoP.out0 {w w' : World} {base tb : Nat} {r : Int × List Nd} {e : Ending} (h : DoP w base tb r e w') (hr : r.1 = 0) : e = .returned (.tuple #[]) ∧ DoP w base tb r (.returned (.tuple #[])) w' := by
 have h2 := h
 rcases h with ⟨h1, rfl, h3, h4⟩ | ⟨h1, _, _⟩
 · exact ⟨rfl, h2⟩
 · exact absurd hr h1
theorem DoP.out1 {w w' : World} {base tb : Nat} {c : Int} {L : List Nd} {e : Ending} (h : DoP w base tb (c, L) e w') (hr : c ≠ 0) : e = PT c ∧ DoP w base tb (c, L) (PT c) w' := by
 have h2 := h
 rcases h with ⟨h1, _, _, _⟩ | ⟨h1, rfl, _⟩
 · exact absurd h1 hr
 · exact ⟨rfl, h2⟩
theorem apply_1 {l : List Nd} {o : Rec} (R : Rt l) (h : rightF o = true) (hk : o.k = 1 ∨ o.k = 2 ∨ o.k = 3) : ApplyL l o = createL l o := by
 rw [ApplyL_of R h]; unfold applyL; rw [if_pos hk]
theorem apply_4 {l : List Nd} {o : Rec} (R : Rt l) (h : rightF o = true) (hk : o.k = 4) : ApplyL l o = hardL l o := by
 rw [ApplyL_of R h]; unfold applyL; rw [hk]; rfl
theorem apply_5 {l : List Nd} {o : Rec} (R : Rt l) (h : rightF o = true) (hk : o.k = 5 ∨ o.k = 6) : ApplyL l o = removeL l o := by
 rw [ApplyL_of R h]; unfold applyL; rcases hk with hk | hk <;> (rw [hk]; rfl)
theorem apply_7 {l : List Nd} {o : Rec} (R : Rt l) (h : rightF o = true) (hk : o.k = 7) : ApplyL l o = renameL l o := by
 rw [ApplyL_of R h]; unfold applyL; rw [hk]; rfl
theorem apply_8 {l : List Nd} {o : Rec} (R : Rt l) (h : rightF o = true) (hk : o.k = 8 ∨ o.k = 9) : ApplyL l o = writeL l o := by
 rw [ApplyL_of R h]; unfold applyL; rcases hk with hk | hk <;> (rw [hk]; rfl)
theorem apply_no {l : List Nd} {o : Rec} (h : rightF o = false) : ApplyL l o = (3, []) := by
 unfold ApplyL
 rw [h, Bool.and_false]
 rfl
end Go.Proofs.YtgbdplammniidaaGreatDoor
