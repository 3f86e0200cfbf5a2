/-
  The package tree: hard.
  The package tree: create.
-/
import Derived.Test.YtgbdplammniidaaGreatDoorFiAx
namespace Go.Proofs.YtgbdplammniidaaGreatDoor
open Go.RowKit Go.ChangeShapes Go.WideShapes Go.ChangeAt Go.Maps Go.Shelf
set_option linter.unusedVariables false
set_option linter.unusedSimpArgs false
set_option maxRecDepth 100000
theorem hard_n {l : List Nd} {o : Rec} (h : getF l o.fid = none) : hardL l o = (5, []) := by
 unfold hardL
 rw [h]
 rfl
theorem hard_d {l : List Nd} {o : Rec} {n : Nd} (h : getF l o.fid = some n) (hk : n.k = 2) : hardL l o = (8, []) := by
 unfold hardL
 rw [h]
 simp [hk]
theorem hard_e {l : List Nd} {o : Rec} {n : Nd} {c : Int} (h : getF l o.fid = some n) (hk : n.k ≠ 2) (he : dirE (getF l o.dir) = c) (hc : c ≠ 0) : hardL l o = (c, []) := by
 unfold hardL
 rw [h, he]
 simp [hk, hc]
theorem hard_x {l : List Nd} {o : Rec} {n d : Nd} (h : getF l o.fid = some n) (hk : n.k ≠ 2) (hd : getF l o.dir = some d) (h2 : d.k = 2) :
   (kidI d.ks o.nm ≠ 0 → hardL l o = (6, [])) ∧ (kidI d.ks o.nm = 0 → 12 ≤ d.ks.length → hardL l o = (4, [])) := by
 obtain ⟨e1, e2⟩ := dir_of hd h2
 unfold hardL
 rw [h, e1, e2]
 refine ⟨fun a => ?_, fun a b => ?_⟩
 · simp [hk, a]
 · simp [hk, a, b]
theorem kid_of {l : List Kd} {s : ByteArray} {q : Kd} (hq : kq l s = some q) (h0 : ∀ q ∈ l, q.fid ≠ 0) : kidI l s ≠ 0 := by
 rw [kidI_kq, hq]
 exact h0 q (kq_some hq).1
theorem rt_links {l : List Nd} (R : Rt l) {f : Int} {x : Nd} (h : getF l f = some x) : x.ln ≤ 60000 := (rightD_tok (rightD_rt.2 R)).1.links x (getF_mem h).1
theorem Rel.set2 {N : Tab} {l : List Nd} (h : Rel N l) {f g : Int} {p q : Addr} {x y X Y : Nd} (hx : x.er = X) (hy : y.er = Y) (hf : X.fid = f) (hg : Y.fid = g) (hne : f ≠ g) : Rel (updT (updT N g q y) f p x) (setL (setL l X) Y) := fun t => by
 rw [getF_set, getF_set, hf, hg]
 unfold updT
 by_cases e : t = g
 · subst e
   rw [if_pos rfl, if_neg (fun e => hne e.symm), if_pos rfl, ← hy]
   rfl
 · rw [if_neg e, if_neg e]
   by_cases e2 : t = f
   · rw [if_pos e2, if_pos e2, ← hx]
     rfl
   · rw [if_neg e2, if_neg e2]
     exact h t
set_option maxHeartbeats 4000000 in
theorem thard_c {w : World} {base tb : Nat} {N : Tab} {l : List Nd} (o : Rec) (h : MT w base tb l.length N) (hR : Rel N l) (R : Rt l) (ho : o.Wf) (hf0 : o.fid ≠ 0) :
   Calls Tryz.prog 75 #[.map (some tb), o.opV] w (DoP w base tb (hardL l o)) := by
 obtain ⟨r, hr⟩ : ∃ r, r = hardL l o := ⟨_, rfl⟩
 rw [← hr]
 have HR := hid hr
 clear hr
 obtain ⟨k, fid, dir, nm, tof, nm2, md, dt, sn⟩ := o
 have b0 := below_1 w (.cells #[.int .u8 k, .int .u32 fid, .int .u32 dir, .string nm, .int .u32 tof, .string nm2, .int .u16 md, .string dt] 58)
 have h0 := heap_alloc_new w (.cells #[.int .u8 k, .int .u32 fid, .int .u32 dir, .string nm, .int .u32 tof, .string nm2, .int .u16 md, .string dt] 58)
 have MV := hid (h.later b0)
 have B0 := hid b0
 have H0 := hid h0
 have OPL : Hid (∀ W, Below (w.alloc (.cells #[.int .u8 k, .int .u32 fid, .int .u32 dir, .string nm, .int .u32 tof, .string nm2, .int .u16 md, .string dt] 58)).heap.size (w.alloc (.cells #[.int .u8 k, .int .u32 fid, .int .u32 dir, .string nm, .int .u32 tof, .string nm2, .int .u16 md, .string dt] 58)) W → W.heap[w.heap.size]? = some (.cells #[.int .u8 k, .int .u32 fid, .int .u32 dir, .string nm, .int .u32 tof, .string nm2, .int .u16 md, .string dt] 58)) := hid (fun W hW => (hW.block _ (lt_blkR h0)).trans h0)
 obtain ⟨_, hf, hdr, hto, hmd, _, hz1, hz2, hz3⟩ := ho
 simp only [Rec.opV] at *
 clear b0 h0
 have HZ := hid h.size
 have HF0 := hid hf0
 clear hf0
 cases hN2 : N fid with
 | none =>
   have RE : Hid (r = (5, [])) := hid (by rw [HR.out]; exact hard_n (hR.no hN2))
   have NC := hid (tnode_n MV.out hf.1 hf.2 hN2)
   clear h hR R HR HZ hf hdr hto hmd hz1 hz2 hz3 hN2 OPL MV
   go_enter Tryz.func75, Tryz.ntmps75
   go_upto_region 1 with fail
   generalize w.alloc (.cells #[.int .u8 k, .int .u32 fid, .int .u32 dir, .string nm, .int .u32 tof, .string nm2, .int .u16 md, .string dt] 58) = V at *
   have o1 : V.cell? ⟨w.heap.size, 1, none⟩ = some (.int .u32 fid) := cell_of_row2 H0.out 1 rfl
   go_wp2_with (go_at_call 80; refine NC.out.mono ?_; rintro _ w1 ⟨rfl, hw1⟩; have hw2 := hw1.symm; clear hw1; subst hw2)
   exact ⟨rfl, DoP.err RE.out (by decide) B0.out⟩
 | some z =>
   obtain ⟨p2, y⟩ := z
   have hly := hR.got hN2
   have NC := hid (tnode_s MV.out hf.1 hf.2 hN2)
   have hp2 := (MV.out.nd _ p2 y hN2).2.1.1
   have y1 := (MV.out.nd _ p2 y hN2).2.1.ndc.all.2.1
   by_cases y2 : y.k = 2
   · have RE : Hid (r = (8, [])) := hid (by rw [HR.out]; exact hard_d hly y2)
     obtain ⟨p2b, p2o, p2s⟩ := p2
     simp only at hp2 y1
     subst hp2
     rw [y2] at y1
     clear h hR R HR HZ hf hdr hto hmd hz1 hz2 hz3 hN2 OPL MV hly y2
     go_enter Tryz.func75, Tryz.ntmps75
     go_upto_region 1 with fail
     generalize w.alloc (.cells #[.int .u8 k, .int .u32 fid, .int .u32 dir, .string nm, .int .u32 tof, .string nm2, .int .u16 md, .string dt] 58) = V at *
     have o1 : V.cell? ⟨w.heap.size, 1, none⟩ = some (.int .u32 fid) := cell_of_row2 H0.out 1 rfl
     go_wp2_with (first
       | (go_at_call 72; refine (trefuse_t _ _).mono ?_; rintro _ wz ⟨rfl, hwz⟩; have hwz2 := hwz.symm; clear hwz; subst hwz2)
       | (go_at_call 80; refine NC.out.mono ?_; rintro _ w1 ⟨rfl, hw1⟩; have hw2 := hw1.symm; clear hw1; subst hw2))
     exact ⟨rfl, DoP.err RE.out (by decide) B0.out⟩
   · have y2B : (y.k == 2) = false := beq_eq_false_iff_ne.2 y2
     cases hN : N dir with
     | none =>
       have RE : Hid (r = (5, [])) := hid (by rw [HR.out]; exact hard_e hly y2 (dirE_n (hR.no hN)) (by decide))
       have DC := hid (tdir_n MV.out hdr.1 hdr.2 hN)
       obtain ⟨p2b, p2o, p2s⟩ := p2
       simp only at hp2 y1
       subst hp2
       generalize y.k = yk at *
       clear h hR R HR HZ hf hdr hto hmd hz1 hz2 hz3 hN2 hN OPL MV hly y2
       go_enter Tryz.func75, Tryz.ntmps75
       go_upto_region 1 with fail
       generalize w.alloc (.cells #[.int .u8 k, .int .u32 fid, .int .u32 dir, .string nm, .int .u32 tof, .string nm2, .int .u16 md, .string dt] 58) = V at *
       have o1 : V.cell? ⟨w.heap.size, 1, none⟩ = some (.int .u32 fid) := cell_of_row2 H0.out 1 rfl
       have o2 : V.cell? ⟨w.heap.size, 2, none⟩ = some (.int .u32 dir) := cell_of_row2 H0.out 2 rfl
       go_wp2_with (first
         | (go_at_call 98; refine DC.out.mono ?_; rintro _ w1 ⟨rfl, hw1⟩; have hw2 := hw1.symm; clear hw1; subst hw2)
         | (go_at_call 72; refine (trefuse_f _ _).mono ?_; rintro _ wz ⟨rfl, hwz⟩; have hwz2 := hwz.symm; clear hwz; subst hwz2)
         | (go_at_call 80; refine NC.out.mono ?_; rintro _ w1 ⟨rfl, hw1⟩; have hw2 := hw1.symm; clear hw1; subst hw2))
       exact ⟨rfl, DoP.err RE.out (by decide) B0.out⟩
     | some z =>
       obtain ⟨p, x⟩ := z
       have hl := hR.got hN
       by_cases k2 : x.k = 2
       · obtain ⟨hks, hk12, hk0⟩ := tab_dir MV.out hR R hN k2
         have DC := hid (tdir_s MV.out hdr.1 hdr.2 hN k2)
         have hne : dir ≠ fid := fun e => by rw [e, hN2] at hN; cases hN; exact y2 k2
         have XL : Hid (∀ W, Below (w.alloc (.cells #[.int .u8 k, .int .u32 fid, .int .u32 dir, .string nm, .int .u32 tof, .string nm2, .int .u16 md, .string dt] 58)).heap.size (w.alloc (.cells #[.int .u8 k, .int .u32 fid, .int .u32 dir, .string nm, .int .u32 tof, .string nm2, .int .u16 md, .string dt] 58)) W → NdC W p.block p.off x) := hid (fun W hW => ((MV.out.later hW).nd _ p x hN).2.1.ndc)
         have YL : Hid (∀ W, Below (w.alloc (.cells #[.int .u8 k, .int .u32 fid, .int .u32 dir, .string nm, .int .u32 tof, .string nm2, .int .u16 md, .string dt] 58)).heap.size (w.alloc (.cells #[.int .u8 k, .int .u32 fid, .int .u32 dir, .string nm, .int .u32 tof, .string nm2, .int .u16 md, .string dt] 58)) W → NdC W p2.block p2.off y) := hid (fun W hW => ((MV.out.later hW).nd _ p2 y hN2).2.1.ndc)
         have YF : Hid (∀ W, Below (w.alloc (.cells #[.int .u8 k, .int .u32 fid, .int .u32 dir, .string nm, .int .u32 tof, .string nm2, .int .u16 md, .string dt] 58)).heap.size (w.alloc (.cells #[.int .u8 k, .int .u32 fid, .int .u32 dir, .string nm, .int .u32 tof, .string nm2, .int .u16 md, .string dt] 58)) W → ∀ i, W.frozen? ⟨p2.block, i, none⟩ = false) := hid (fun W hW => ((MV.out.later hW).nd _ p2 y hN2).2.1.fz)
         have hp := (MV.out.nd _ p x hN).2.1.1
         have EC := hid (entryOf_c p.block p.off x nm (w.alloc (.cells #[.int .u8 k, .int .u32 fid, .int .u32 dir, .string nm, .int .u32 tof, .string nm2, .int .u16 md, .string dt] 58)) (XL.out _ (Below.refl _ _)).all.2.2.2.2.2 (MV.out.nd _ p x hN).2.2.1.r.ok.2.2.2.2.2 (by omega))
         have YT : Hid (∀ W, Below (w.alloc (.cells #[.int .u8 k, .int .u32 fid, .int .u32 dir, .string nm, .int .u32 tof, .string nm2, .int .u16 md, .string dt] 58)).heap.size (w.alloc (.cells #[.int .u8 k, .int .u32 fid, .int .u32 dir, .string nm, .int .u32 tof, .string nm2, .int .u16 md, .string dt] 58)) W → p2.block ≠ w.heap.size) := hid (fun W hW e => by
           obtain ⟨_, cs, hcs, _⟩ := (MV.out.nd _ p2 y hN2).2.1
           rw [e, H0.out] at hcs
           cases hcs)
         cases hq : kq x.ks nm with
         | some q =>
           have RE : Hid (r = (6, [])) := hid (by rw [HR.out]; exact (hard_x (n := y.er) (d := x.er) hly y2 hl k2).1 (kid_of hq hk0))
           obtain ⟨i, e1, _, _⟩ := en_some hq
           rw [e1] at EC
           have hiI : (0 : Int) ≤ i := by omega
           obtain ⟨p2b, p2o, p2s⟩ := p2
           obtain ⟨pb, po, ps⟩ := p
           simp only at hp2 y1 hp EC
           subst hp2 hp
           generalize y.k = yk at *
           clear h hR R HR HZ hf hdr hto hmd hz1 hz2 hz3 hN2 hN MV hly y2 hl k2 hq hks hk12 hk0 XL YL YF YT e1 hne OPL
           go_enter Tryz.func75, Tryz.ntmps75
           go_upto_region 1 with fail
           generalize w.alloc (.cells #[.int .u8 k, .int .u32 fid, .int .u32 dir, .string nm, .int .u32 tof, .string nm2, .int .u16 md, .string dt] 58) = V at *
           have o1 : V.cell? ⟨w.heap.size, 1, none⟩ = some (.int .u32 fid) := cell_of_row2 H0.out 1 rfl
           have o2 : V.cell? ⟨w.heap.size, 2, none⟩ = some (.int .u32 dir) := cell_of_row2 H0.out 2 rfl
           have o3 : V.cell? ⟨w.heap.size, 3, none⟩ = some (.string nm) := cell_of_row2 H0.out 3 rfl
           go_wp2_with (first
             | (go_at_call 72; have K2 := B1.out; refine (trefuse_t _ _).mono ?_; rintro _ wz ⟨rfl, hwz⟩; have hwz2 := hwz.symm; clear hwz; subst hwz2)
             | (go_at_call 20; refine EC.out.mono ?_; rintro _ w1 ⟨rfl, hb1⟩; have B1 := hid hb1; clear hb1)
             | (go_at_call 98; refine DC.out.mono ?_; rintro _ w1 ⟨rfl, hw1⟩; have hw2 := hw1.symm; clear hw1; subst hw2)
             | (go_at_call 72; refine (trefuse_f _ _).mono ?_; rintro _ wz ⟨rfl, hwz⟩; have hwz2 := hwz.symm; clear hwz; subst hwz2)
             | (go_at_call 80; refine NC.out.mono ?_; rintro _ w1 ⟨rfl, hw1⟩; have hw2 := hw1.symm; clear hw1; subst hw2))
           exact ⟨rfl, DoP.err RE.out (by decide) (B0.out.trans (B1.out.mono B0.out.size))⟩
         | none =>
           rw [en_none hq] at EC
           by_cases c12 : x.ks.length = 12
           · have RE : Hid (r = (4, [])) := hid (by rw [HR.out]; exact (hard_x (n := y.er) (d := x.er) hly y2 hl k2).2 (kidI_no hq) (by show 12 ≤ x.ks.length; omega))
             have cB : ((x.ks.length : Int) == 12) = true := by rw [c12]; rfl
             obtain ⟨p2b, p2o, p2s⟩ := p2
             obtain ⟨pb, po, ps⟩ := p
             simp only at hp2 y1 hp EC XL
             subst hp2 hp
             generalize y.k = yk at *
             clear h hR R HR HZ hf hdr hto hmd hz1 hz2 hz3 hN2 hN MV hly y2 hl k2 hq hks hk12 hk0 YL YF YT hne OPL c12
             go_enter Tryz.func75, Tryz.ntmps75
             go_upto_region 1 with fail
             generalize w.alloc (.cells #[.int .u8 k, .int .u32 fid, .int .u32 dir, .string nm, .int .u32 tof, .string nm2, .int .u16 md, .string dt] 58) = V at *
             have o1 : V.cell? ⟨w.heap.size, 1, none⟩ = some (.int .u32 fid) := cell_of_row2 H0.out 1 rfl
             have o2 : V.cell? ⟨w.heap.size, 2, none⟩ = some (.int .u32 dir) := cell_of_row2 H0.out 2 rfl
             have o3 : V.cell? ⟨w.heap.size, 3, none⟩ = some (.string nm) := cell_of_row2 H0.out 3 rfl
             go_wp2_with (first
               | (go_at_call 72; have K2 := K1.out; refine (trefuse_t _ _).mono ?_; rintro _ wz ⟨rfl, hwz⟩; have hwz2 := hwz.symm; clear hwz; subst hwz2)
               | (go_at_call 72; have K2 := B1.out; refine (trefuse_f _ _).mono ?_; rintro _ wz ⟨rfl, hwz⟩; have hwz2 := hwz.symm; clear hwz; subst hwz2; have K1 := hid True.intro)
               | (go_at_call 20; refine EC.out.mono ?_; rintro _ w1 ⟨rfl, hb1⟩; have x5 := (XL.out w1 hb1).all.2.2.2.2.2; have B1 := hid hb1; clear hb1)
               | (go_at_call 98; refine DC.out.mono ?_; rintro _ w1 ⟨rfl, hw1⟩; have hw2 := hw1.symm; clear hw1; subst hw2)
               | (go_at_call 72; refine (trefuse_f _ _).mono ?_; rintro _ wz ⟨rfl, hwz⟩; have hwz2 := hwz.symm; clear hwz; subst hwz2)
               | (go_at_call 80; refine NC.out.mono ?_; rintro _ w1 ⟨rfl, hw1⟩; have hw2 := hw1.symm; clear hw1; subst hw2))
             exact ⟨rfl, DoP.err RE.out (by decide) (B0.out.trans (B1.out.mono B0.out.size))⟩
           · have RE : Hid (r = (0, setL (setL l (x.er.kids none 0 (entL x.ks nm fid))) (y.er.lnk (y.ln + 1)))) := hid (by rw [HR.out]; exact hard_do (o := ⟨k, fid, dir, nm, tof, nm2, md, dt, sn⟩) hly y2 hl k2 hq (by show x.ks.length < 12; omega))
             have cB : ((x.ks.length : Int) == 12) = false := beq_eq_false_iff_ne.2 (by omega)
             have hfd := (MV.out.nd dir p x hN).2.2.2
             have hyf := (MV.out.nd fid p2 y hN2).2.2.2
             have hyb := (MV.out.nd fid p2 y hN2).1
             have hl6 := rt_links R hly
             have hl7 : 0 ≤ y.ln := (MV.out.nd fid p2 y hN2).2.2.1.1.2.2.2.1.1
             have hl8 : y.ln ≤ 60000 := hl6
             have FIN : Hid (∀ a4 c4 w5, MT w5 base tb l.length (updT (updT N fid p2 (y.lnk (y.ln + 1))) dir p (x.kids a4 c4 (entL x.ks nm fid))) → Keeps base w w5 → DoP w base tb r (.returned (.tuple #[])) w5) := hid (fun a4 c4 w5 hM hb => by
               have h1 : getF l (x.er.kids none 0 (entL x.ks nm fid)).fid = some x.er := by show getF l x.fid = _; rw [hfd]; exact hl
               have h2 : getF (setL l (x.er.kids none 0 (entL x.ks nm fid))) (y.er.lnk (y.ln + 1)).fid = some y.er := by
                 rw [getF_set]
                 show (if y.fid = x.fid then _ else getF l y.fid) = _
                 rw [hyf, hfd, if_neg (fun e => hne e.symm)]
                 exact hly
               refine DoP.ok RE.out ?_ hM (hR.set2 (by rfl) (by rfl) (by show x.fid = dir; exact hfd) (by show y.fid = fid; exact hyf) hne) hb
               rw [set_len (srt_set _ R.srt) h2, set_len R.srt h1])
             have SR : Hid (∀ W, Below (w.alloc (.cells #[.int .u8 k, .int .u32 fid, .int .u32 dir, .string nm, .int .u32 tof, .string nm2, .int .u16 md, .string dt] 58)).heap.size (w.alloc (.cells #[.int .u8 k, .int .u32 fid, .int .u32 dir, .string nm, .int .u32 tof, .string nm2, .int .u16 md, .string dt] 58)) W → Calls Tryz.prog 99 #[.pointer (some p), .string nm, .int .u32 fid] (W.setCell ⟨p2.block, p2.off + 3, none⟩ (.int .u16 (y.ln + 1))) (EntP (W.setCell ⟨p2.block, p2.off + 3, none⟩ (.int .u16 (y.ln + 1))) base tb l.length (updT N fid p2 (y.lnk (y.ln + 1))) dir p x (entL x.ks nm fid))) := hid (fun W hW => by
               have M1 := MV.out.later hW
               have M2 := M1.put hN2 (i := 3) (by omega) (x' := y.lnk (y.ln + 1)) (v := .int .u16 (y.ln + 1)) rfl hyf ((M1.nd fid p2 y hN2).2.2.1.lnk (by omega) (by omega)) rfl
               exact tenter_c M2 (by unfold updT; rw [if_neg hne]; exact hN) hks hq (by omega) hz1 HF0.out hf)
             have OP2 : Hid (∀ W, Below (w.alloc (.cells #[.int .u8 k, .int .u32 fid, .int .u32 dir, .string nm, .int .u32 tof, .string nm2, .int .u16 md, .string dt] 58)).heap.size (w.alloc (.cells #[.int .u8 k, .int .u32 fid, .int .u32 dir, .string nm, .int .u32 tof, .string nm2, .int .u16 md, .string dt] 58)) W → (W.setCell ⟨p2.block, p2.off + 3, none⟩ (.int .u16 (y.ln + 1))).heap[w.heap.size]? = some (.cells #[.int .u8 k, .int .u32 fid, .int .u32 dir, .string nm, .int .u32 tof, .string nm2, .int .u16 md, .string dt] 58)) := hid (fun W hW => (Below.heap_setCell W ⟨p2.block, p2.off + 3, none⟩ _ _ (fun e => YT.out W hW e.symm)).trans (OPL.out W hW))
             have hwr : IntKind.u16.wrap (y.ln + 1) = y.ln + 1 := by rw [IntKind.wrap_u16]; omega
             have KPS : Hid (∀ W, Below (w.alloc (.cells #[.int .u8 k, .int .u32 fid, .int .u32 dir, .string nm, .int .u32 tof, .string nm2, .int .u16 md, .string dt] 58)).heap.size (w.alloc (.cells #[.int .u8 k, .int .u32 fid, .int .u32 dir, .string nm, .int .u32 tof, .string nm2, .int .u16 md, .string dt] 58)) W → Keeps base W (W.setCell ⟨p2.block, p2.off + 3, none⟩ (.int .u16 (y.ln + 1)))) := hid (fun W hW => (MV.out.later hW).keeps hN2 _ _)
             have BZ : Hid (base ≤ w.heap.size) := hid HZ.out
             obtain ⟨p2b, p2o, p2s⟩ := p2
             obtain ⟨pb, po, ps⟩ := p
             simp only at hp2 y1 hp EC XL YL YF SR OP2 hyb FIN KPS
             subst hp2 hp
             generalize entL x.ks nm fid = L at *
             generalize y.k = yk at *
             generalize l.length = ll at *
             clear h hR R HR HZ hf hdr hto hmd hz1 hz2 hz3 hN2 hN MV hly y2 hl k2 hq hks hk12 hk0 YT hne c12 RE hfd hyf hl6
             go_enter Tryz.func75, Tryz.ntmps75
             go_upto_region 1 with fail
             generalize w.alloc (.cells #[.int .u8 k, .int .u32 fid, .int .u32 dir, .string nm, .int .u32 tof, .string nm2, .int .u16 md, .string dt] 58) = V at *
             have o1 : V.cell? ⟨w.heap.size, 1, none⟩ = some (.int .u32 fid) := cell_of_row2 H0.out 1 rfl
             have o2 : V.cell? ⟨w.heap.size, 2, none⟩ = some (.int .u32 dir) := cell_of_row2 H0.out 2 rfl
             have o3 : V.cell? ⟨w.heap.size, 3, none⟩ = some (.string nm) := cell_of_row2 H0.out 3 rfl
             go_wp2_with (first
               | (go_at_call 99; refine S1.out.mono ?_; intro e5 w5 h5; obtain ⟨rfl, ⟨a5, c5, m5⟩, b5, k5⟩ := h5; have F5 := hid (FIN.out a5 c5 w5 m5 ((Keeps.of (B0.out.trans (B1.out.mono B0.out.size)) BZ.out).trans ((KPS.out w1 B1.out).trans ⟨b5, k5⟩))); clear m5 b5 k5)
               | (go_at_call 20; refine EC.out.mono ?_; rintro _ w1 ⟨rfl, hb1⟩; have x5 := (XL.out w1 hb1).all.2.2.2.2.2; have n3 := (YL.out w1 hb1).all.2.2.2.1; have fz := YF.out w1 hb1; have v1 : (w1.setCell ⟨p2b, p2o + 3, none⟩ (.int .u16 (y.ln + 1))).cell? ⟨w.heap.size, 1, none⟩ = some (.int .u32 fid) := cell_of_row2 (OP2.out w1 hb1) 1 rfl; have v3 : (w1.setCell ⟨p2b, p2o + 3, none⟩ (.int .u16 (y.ln + 1))).cell? ⟨w.heap.size, 3, none⟩ = some (.string nm) := cell_of_row2 (OP2.out w1 hb1) 3 rfl; have S1 := hid (SR.out w1 hb1); have B1 := hid hb1; clear hb1)
               | (go_at_call 98; refine DC.out.mono ?_; rintro _ w1 ⟨rfl, hw1⟩; have hw2 := hw1.symm; clear hw1; subst hw2)
               | (go_at_call 72; refine (trefuse_f _ _).mono ?_; rintro _ wz ⟨rfl, hwz⟩; have hwz2 := hwz.symm; clear hwz; subst hwz2)
               | (go_at_call 80; refine NC.out.mono ?_; rintro _ w1 ⟨rfl, hw1⟩; have hw2 := hw1.symm; clear hw1; subst hw2))
             exact body_end (by kernel_rfl) rfl F5.out
       · have RE : Hid (r = (7, [])) := hid (by rw [HR.out]; exact hard_e hly y2 (dirE_k hl k2) (by decide))
         have DC := hid (tdir_k MV.out hdr.1 hdr.2 hN k2)
         obtain ⟨p2b, p2o, p2s⟩ := p2
         simp only at hp2 y1
         subst hp2
         generalize y.k = yk at *
         clear h hR R HR HZ hf hdr hto hmd hz1 hz2 hz3 hN2 hN OPL MV hly y2 hl k2
         go_enter Tryz.func75, Tryz.ntmps75
         go_upto_region 1 with fail
         generalize w.alloc (.cells #[.int .u8 k, .int .u32 fid, .int .u32 dir, .string nm, .int .u32 tof, .string nm2, .int .u16 md, .string dt] 58) = V at *
         have o1 : V.cell? ⟨w.heap.size, 1, none⟩ = some (.int .u32 fid) := cell_of_row2 H0.out 1 rfl
         have o2 : V.cell? ⟨w.heap.size, 2, none⟩ = some (.int .u32 dir) := cell_of_row2 H0.out 2 rfl
         go_wp2_with (first
           | (go_at_call 98; refine DC.out.mono ?_; rintro _ w1 ⟨rfl, hw1⟩; have hw2 := hw1.symm; clear hw1; subst hw2)
           | (go_at_call 72; refine (trefuse_f _ _).mono ?_; rintro _ wz ⟨rfl, hwz⟩; have hwz2 := hwz.symm; clear hwz; subst hwz2)
           | (go_at_call 80; refine NC.out.mono ?_; rintro _ w1 ⟨rfl, hw1⟩; have hw2 := hw1.symm; clear hw1; subst hw2))
         exact ⟨rfl, DoP.err RE.out (by decide) B0.out⟩
theorem create_e {l : List Nd} {o : Rec} {c : Int} (he : dirE (getF l o.dir) = c) (hc : c ≠ 0) : createL l o = (c, []) := by
 unfold createL
 rw [he]
 simp [hc]
theorem create_x {l : List Nd} {o : Rec} {d : Nd} (hd : getF l o.dir = some d) (h2 : d.k = 2) :
   (kidI d.ks o.nm ≠ 0 ∨ (getF l o.fid).isSome = true → createL l o = (6, [])) ∧ (kidI d.ks o.nm = 0 → getF l o.fid = none → (40 ≤ l.length ∨ 12 ≤ d.ks.length) → createL l o = (4, [])) := by
 obtain ⟨e1, e2⟩ := dir_of hd h2
 unfold createL
 rw [e1, e2]
 refine ⟨fun a => ?_, fun a b c => ?_⟩
 · rw [if_neg (by simp), if_pos a]
 · rw [if_neg (by simp), if_neg (by rw [a, b]; simp), if_pos c]
def madeN (fid kk md : Int) (a : Option Addr) (c : Nat) (zs : List Int) : Nd := ⟨fid, kk, md, 1, a, c, zs, none, 0, []⟩
set_option maxHeartbeats 4000000 in
theorem tcreate_c {w : World} {base tb : Nat} {N : Tab} {l : List Nd} (o : Rec) (kk : Int) (h : MT w base tb l.length N) (hR : Rel N l) (R : Rt l) (ho : o.Wf) (hf0 : o.fid ≠ 0) (hkd : kk = if o.k = 2 then 2 else if o.k = 3 then 3 else 1) (hdt : o.dt.size ≤ 1000) (hdz : o.k ≠ 3 → txB o.dt = []) :
   Calls Tryz.prog 74 #[.map (some tb), o.opV, .int .u8 kk] w (DoP w base tb (createL l o)) := by
 obtain ⟨r, hr⟩ : ∃ r, r = createL l o := ⟨_, rfl⟩
 rw [← hr]
 have HR := hid hr
 clear hr
 obtain ⟨k, fid, dir, nm, tof, nm2, md, dt, sn⟩ := o
 have b0 := below_1 w (.cells #[.int .u8 k, .int .u32 fid, .int .u32 dir, .string nm, .int .u32 tof, .string nm2, .int .u16 md, .string dt] 58)
 have h0 := heap_alloc_new w (.cells #[.int .u8 k, .int .u32 fid, .int .u32 dir, .string nm, .int .u32 tof, .string nm2, .int .u16 md, .string dt] 58)
 have MV := hid (h.later b0)
 have B0 := hid b0
 have H0 := hid h0
 have OPL : Hid (∀ W, Below (w.alloc (.cells #[.int .u8 k, .int .u32 fid, .int .u32 dir, .string nm, .int .u32 tof, .string nm2, .int .u16 md, .string dt] 58)).heap.size (w.alloc (.cells #[.int .u8 k, .int .u32 fid, .int .u32 dir, .string nm, .int .u32 tof, .string nm2, .int .u16 md, .string dt] 58)) W → W.heap[w.heap.size]? = some (.cells #[.int .u8 k, .int .u32 fid, .int .u32 dir, .string nm, .int .u32 tof, .string nm2, .int .u16 md, .string dt] 58)) := hid (fun W hW => (hW.block _ (lt_blkR h0)).trans h0)
 obtain ⟨_, hf, hdr, hto, hmd, _, hz1, hz2, hz3⟩ := ho
 simp only [Rec.opV] at *
 clear b0 h0
 have HZ := hid h.size
 have HF0 := hid hf0
 have HKD := hid hkd
 have HDZ := hid hdz
 have HDT := hid hdt
 clear hf0 hkd hdz
 cases hN : N dir with
 | none =>
   have RE : Hid (r = (5, [])) := hid (by rw [HR.out]; exact create_e (dirE_n (hR.no hN)) (by decide))
   have DC := hid (tdir_n MV.out hdr.1 hdr.2 hN)
   clear h hR R HR HZ hf hdr hto hmd hz1 hz2 hz3 hN OPL MV hdt
   go_enter Tryz.func74, Tryz.ntmps74
   go_upto_region 1 with fail
   generalize w.alloc (.cells #[.int .u8 k, .int .u32 fid, .int .u32 dir, .string nm, .int .u32 tof, .string nm2, .int .u16 md, .string dt] 58) = V at *
   have o2 : V.cell? ⟨w.heap.size, 2, none⟩ = some (.int .u32 dir) := cell_of_row2 H0.out 2 rfl
   go_wp2_with (go_at_call 98; refine DC.out.mono ?_; rintro _ wd ⟨rfl, hwd⟩; have hwd2 := hwd.symm; clear hwd; subst hwd2)
   exact ⟨rfl, DoP.err RE.out (by decide) B0.out⟩
 | some z =>
   obtain ⟨p, x⟩ := z
   have hl := hR.got hN
   by_cases k2 : x.k = 2
   · obtain ⟨hks, hk12, hk0⟩ := tab_dir MV.out hR R hN k2
     have DC := hid (tdir_s MV.out hdr.1 hdr.2 hN k2)
     have XL : Hid (∀ W, Below (w.alloc (.cells #[.int .u8 k, .int .u32 fid, .int .u32 dir, .string nm, .int .u32 tof, .string nm2, .int .u16 md, .string dt] 58)).heap.size (w.alloc (.cells #[.int .u8 k, .int .u32 fid, .int .u32 dir, .string nm, .int .u32 tof, .string nm2, .int .u16 md, .string dt] 58)) W → NdC W p.block p.off x) := hid (fun W hW => ((MV.out.later hW).nd _ p x hN).2.1.ndc)
     have hp := (MV.out.nd _ p x hN).2.1.1
     have EC := hid (entryOf_c p.block p.off x nm (w.alloc (.cells #[.int .u8 k, .int .u32 fid, .int .u32 dir, .string nm, .int .u32 tof, .string nm2, .int .u16 md, .string dt] 58)) (XL.out _ (Below.refl _ _)).all.2.2.2.2.2 (MV.out.nd _ p x hN).2.2.1.r.ok.2.2.2.2.2 (by omega))
     have LK : Hid (∀ W, Below (w.alloc (.cells #[.int .u8 k, .int .u32 fid, .int .u32 dir, .string nm, .int .u32 tof, .string nm2, .int .u16 md, .string dt] 58)).heap.size (w.alloc (.cells #[.int .u8 k, .int .u32 fid, .int .u32 dir, .string nm, .int .u32 tof, .string nm2, .int .u16 md, .string dt] 58)) W → (Instr.lookup 69 (.map (some tb)) (.int .u32 fid) false).run Tryz.prog W = .ok (.pointer ((N fid).map (·.1))) W) := hid (fun W hW => (MV.out.later hW).look hf.1 hf.2)
     have LNT : Hid (∀ W, Below (w.alloc (.cells #[.int .u8 k, .int .u32 fid, .int .u32 dir, .string nm, .int .u32 tof, .string nm2, .int .u16 md, .string dt] 58)).heap.size (w.alloc (.cells #[.int .u8 k, .int .u32 fid, .int .u32 dir, .string nm, .int .u32 tof, .string nm2, .int .u16 md, .string dt] 58)) W → ∀ ty, (Builtin.len_ #[69] ty #[.map (some tb)]).run Tryz.prog W = .ok (.int .i64 (l.length : Int)) W) := hid (fun W hW ty => (MV.out.later hW).map.len ht_tab ty)
     cases hq : kq x.ks nm with
     | some q =>
       have RE : Hid (r = (6, [])) := hid (by rw [HR.out]; exact (create_x (d := x.er) hl k2).1 (.inl (kid_of hq hk0)))
       obtain ⟨i, e1, _, _⟩ := en_some hq
       rw [e1] at EC
       have hiI : (0 : Int) ≤ i := by omega
       obtain ⟨pb, po, ps⟩ := p
       simp only at hp EC
       subst hp
       clear h hR R HR HZ hf hdr hto hmd hz1 hz2 hz3 hN MV hl k2 hq hks hk12 hk0 XL e1 OPL hdt LK LNT
       go_enter Tryz.func74, Tryz.ntmps74
       go_upto_region 1 with fail
       generalize w.alloc (.cells #[.int .u8 k, .int .u32 fid, .int .u32 dir, .string nm, .int .u32 tof, .string nm2, .int .u16 md, .string dt] 58) = V at *
       have o2 : V.cell? ⟨w.heap.size, 2, none⟩ = some (.int .u32 dir) := cell_of_row2 H0.out 2 rfl
       have o3 : V.cell? ⟨w.heap.size, 3, none⟩ = some (.string nm) := cell_of_row2 H0.out 3 rfl
       go_wp2_with (first
         | (go_at_call 72; have K2 := B1.out; refine (trefuse_t _ _).mono ?_; rintro _ wz ⟨rfl, hwz⟩; have hwz2 := hwz.symm; clear hwz; subst hwz2)
         | (go_at_call 20; refine EC.out.mono ?_; rintro _ w1 ⟨rfl, hb1⟩; have B1 := hid hb1; clear hb1)
         | (go_at_call 98; refine DC.out.mono ?_; rintro _ wd ⟨rfl, hwd⟩; have hwd2 := hwd.symm; clear hwd; subst hwd2))
       exact ⟨rfl, DoP.err RE.out (by decide) (B0.out.trans (B1.out.mono B0.out.size))⟩
     | none =>
       rw [en_none hq] at EC
       cases hN2 : N fid with
       | some z =>
         obtain ⟨p2, y⟩ := z
         have RE : Hid (r = (6, [])) := hid (by rw [HR.out]; exact (create_x (d := x.er) hl k2).1 (.inr (by show (getF l fid).isSome = true; rw [hR.got hN2]; rfl)))
         rw [hN2] at LK
         simp only [Option.map_some] at LK
         obtain ⟨pb, po, ps⟩ := p
         simp only at hp EC XL
         subst hp
         clear h hR R HR HZ hf hdr hto hmd hz1 hz2 hz3 hN MV hl k2 hq hks hk12 hk0 hdt hN2
         go_enter Tryz.func74, Tryz.ntmps74
         go_upto_region 1 with fail
         generalize w.alloc (.cells #[.int .u8 k, .int .u32 fid, .int .u32 dir, .string nm, .int .u32 tof, .string nm2, .int .u16 md, .string dt] 58) = V at *
         have o2 : V.cell? ⟨w.heap.size, 2, none⟩ = some (.int .u32 dir) := cell_of_row2 H0.out 2 rfl
         have o3 : V.cell? ⟨w.heap.size, 3, none⟩ = some (.string nm) := cell_of_row2 H0.out 3 rfl
         go_wp2_with (first
           | (go_at_call 72; have K2 := B1.out; refine (trefuse_t _ _).mono ?_; rintro _ wz ⟨rfl, hwz⟩; have hwz2 := hwz.symm; clear hwz; subst hwz2)
           | (go_at_call 20; refine EC.out.mono ?_; rintro _ w1 ⟨rfl, hb1⟩; have x5 := (XL.out w1 hb1).all.2.2.2.2.2; have lk := LK.out w1 hb1; have ln := LNT.out w1 hb1; have u1 : w1.cell? ⟨w.heap.size, 1, none⟩ = some (.int .u32 fid) := cell_of_row2 (OPL.out w1 hb1) 1 rfl; have u3 : w1.cell? ⟨w.heap.size, 3, none⟩ = some (.string nm) := cell_of_row2 (OPL.out w1 hb1) 3 rfl; have u6 : w1.cell? ⟨w.heap.size, 6, none⟩ = some (.int .u16 md) := cell_of_row2 (OPL.out w1 hb1) 6 rfl; have u7 : w1.cell? ⟨w.heap.size, 7, none⟩ = some (.string dt) := cell_of_row2 (OPL.out w1 hb1) 7 rfl; have B1 := hid hb1; clear hb1)
           | (go_at_call 98; refine DC.out.mono ?_; rintro _ wd ⟨rfl, hwd⟩; have hwd2 := hwd.symm; clear hwd; subst hwd2))
         exact ⟨rfl, DoP.err RE.out (by decide) (B0.out.trans (B1.out.mono B0.out.size))⟩
       | none =>
         rw [hN2] at LK
         simp only [Option.map_none] at LK
         have hfn := hR.no hN2
         by_cases c40 : l.length = 40
         · have RE : Hid (r = (4, [])) := hid (by rw [HR.out]; exact (create_x (d := x.er) hl k2).2 (kidI_no hq) hfn (.inl (by omega)))
           have cB : ((l.length : Int) == 40) = true := by rw [c40]; rfl
           obtain ⟨pb, po, ps⟩ := p
           simp only at hp EC XL
           subst hp
           generalize l.length = ll at *
           clear h hR R HR HZ hf hdr hto hmd hz1 hz2 hz3 hN MV hl k2 hq hks hk12 hk0 hdt hN2 hfn c40
           go_enter Tryz.func74, Tryz.ntmps74
           go_upto_region 1 with fail
           generalize w.alloc (.cells #[.int .u8 k, .int .u32 fid, .int .u32 dir, .string nm, .int .u32 tof, .string nm2, .int .u16 md, .string dt] 58) = V at *
           have o2 : V.cell? ⟨w.heap.size, 2, none⟩ = some (.int .u32 dir) := cell_of_row2 H0.out 2 rfl
           have o3 : V.cell? ⟨w.heap.size, 3, none⟩ = some (.string nm) := cell_of_row2 H0.out 3 rfl
           go_wp2_with (first
             | (go_at_call 72; have K2 := K1.out; refine (trefuse_t _ _).mono ?_; rintro _ wz ⟨rfl, hwz⟩; have hwz2 := hwz.symm; clear hwz; subst hwz2)
             | (go_at_call 72; have K2 := B1.out; refine (trefuse_f _ _).mono ?_; rintro _ wz ⟨rfl, hwz⟩; have hwz2 := hwz.symm; clear hwz; subst hwz2; have K1 := hid True.intro)
             | (go_at_call 20; refine EC.out.mono ?_; rintro _ w1 ⟨rfl, hb1⟩; have x5 := (XL.out w1 hb1).all.2.2.2.2.2; have lk := LK.out w1 hb1; have ln := LNT.out w1 hb1; have u1 : w1.cell? ⟨w.heap.size, 1, none⟩ = some (.int .u32 fid) := cell_of_row2 (OPL.out w1 hb1) 1 rfl; have u3 : w1.cell? ⟨w.heap.size, 3, none⟩ = some (.string nm) := cell_of_row2 (OPL.out w1 hb1) 3 rfl; have u6 : w1.cell? ⟨w.heap.size, 6, none⟩ = some (.int .u16 md) := cell_of_row2 (OPL.out w1 hb1) 6 rfl; have u7 : w1.cell? ⟨w.heap.size, 7, none⟩ = some (.string dt) := cell_of_row2 (OPL.out w1 hb1) 7 rfl; have B1 := hid hb1; clear hb1)
             | (go_at_call 98; refine DC.out.mono ?_; rintro _ wd ⟨rfl, hwd⟩; have hwd2 := hwd.symm; clear hwd; subst hwd2))
           exact ⟨rfl, DoP.err RE.out (by decide) (B0.out.trans (B1.out.mono B0.out.size))⟩
         · have cB : ((l.length : Int) == 40) = false := beq_eq_false_iff_ne.2 (by omega)
           have h40 := R.few
           by_cases c12 : x.ks.length = 12
           · have RE : Hid (r = (4, [])) := hid (by rw [HR.out]; exact (create_x (d := x.er) hl k2).2 (kidI_no hq) hfn (.inr (by show 12 ≤ x.ks.length; omega)))
             have kB : ((x.ks.length : Int) == 12) = true := by rw [c12]; rfl
             obtain ⟨pb, po, ps⟩ := p
             simp only at hp EC XL
             subst hp
             generalize l.length = ll at *
             clear h hR R HR HZ hf hdr hto hmd hz1 hz2 hz3 hN MV hl k2 hq hks hk12 hk0 hdt hN2 hfn c40 c12 h40
             go_enter Tryz.func74, Tryz.ntmps74
             go_upto_region 1 with fail
             generalize w.alloc (.cells #[.int .u8 k, .int .u32 fid, .int .u32 dir, .string nm, .int .u32 tof, .string nm2, .int .u16 md, .string dt] 58) = V at *
             have o2 : V.cell? ⟨w.heap.size, 2, none⟩ = some (.int .u32 dir) := cell_of_row2 H0.out 2 rfl
             have o3 : V.cell? ⟨w.heap.size, 3, none⟩ = some (.string nm) := cell_of_row2 H0.out 3 rfl
             go_wp2_with (first
               | (go_at_call 72; have K2 := K1.out; refine (trefuse_t _ _).mono ?_; rintro _ wz ⟨rfl, hwz⟩; have hwz2 := hwz.symm; clear hwz; subst hwz2)
               | (go_at_call 72; have K2 := B1.out; refine (trefuse_f _ _).mono ?_; rintro _ wz ⟨rfl, hwz⟩; have hwz2 := hwz.symm; clear hwz; subst hwz2; have K1 := hid True.intro)
               | (go_at_call 20; refine EC.out.mono ?_; rintro _ w1 ⟨rfl, hb1⟩; have x5 := (XL.out w1 hb1).all.2.2.2.2.2; have lk := LK.out w1 hb1; have ln := LNT.out w1 hb1; have u1 : w1.cell? ⟨w.heap.size, 1, none⟩ = some (.int .u32 fid) := cell_of_row2 (OPL.out w1 hb1) 1 rfl; have u3 : w1.cell? ⟨w.heap.size, 3, none⟩ = some (.string nm) := cell_of_row2 (OPL.out w1 hb1) 3 rfl; have u6 : w1.cell? ⟨w.heap.size, 6, none⟩ = some (.int .u16 md) := cell_of_row2 (OPL.out w1 hb1) 6 rfl; have u7 : w1.cell? ⟨w.heap.size, 7, none⟩ = some (.string dt) := cell_of_row2 (OPL.out w1 hb1) 7 rfl; have B1 := hid hb1; clear hb1)
               | (go_at_call 98; refine DC.out.mono ?_; rintro _ wd ⟨rfl, hwd⟩; have hwd2 := hwd.symm; clear hwd; subst hwd2))
             exact ⟨rfl, DoP.err RE.out (by decide) (B0.out.trans (B1.out.mono B0.out.size))⟩
           · have kB : ((x.ks.length : Int) == 12) = false := beq_eq_false_iff_ne.2 (by omega)
             have RE : Hid (r = (0, setL (setL l (x.er.kids none 0 (entL x.ks nm fid))) (newN ⟨k, fid, dir, nm, tof, nm2, md, dt, sn⟩))) := hid (by rw [HR.out]; exact create_do (o := ⟨k, fid, dir, nm, tof, nm2, md, dt, sn⟩) hl k2 hq hfn (by omega) (by show x.ks.length < 12; omega))
             have hfd := (MV.out.nd dir p x hN).2.2.2
             have hne : dir ≠ fid := fun e => by rw [e, hN2] at hN; cases hN
             have hkk : 0 ≤ kk ∧ kk < 256 := by rw [HKD.out]; split; exact ⟨by omega, by omega⟩; split <;> exact ⟨by omega, by omega⟩
             have FIN : Hid (∀ a4 c4 w5 g ca cc, MT w5 base tb (l.length + 1) (updT (updT N fid ⟨g, 0, none⟩ (madeN fid kk md ca cc (txB dt))) dir p (x.kids a4 c4 (entL x.ks nm fid))) → Keeps base w w5 → DoP w base tb r (.returned (.tuple #[])) w5) := hid (fun a4 c4 w5 g ca cc hM hb => by
               have h1 : getF l (x.er.kids none 0 (entL x.ks nm fid)).fid = some x.er := by show getF l x.fid = _; rw [hfd]; exact hl
               have h2 : getF (setL l (x.er.kids none 0 (entL x.ks nm fid))) (newN ⟨k, fid, dir, nm, tof, nm2, md, dt, sn⟩).fid = none := by
                 rw [getF_set]
                 show (if fid = x.fid then _ else getF l fid) = _
                 rw [hfd, if_neg (fun e => hne e.symm)]
                 exact hfn
               have h3 : (madeN fid kk md ca cc (txB dt)).er = newN ⟨k, fid, dir, nm, tof, nm2, md, dt, sn⟩ := by
                 unfold madeN newN
                 rw [HKD.out]
                 have h4 := HDZ.out
                 (try simp only at h4)
                 (try simp only)
                 by_cases e : k = 3
                 · rw [if_pos e, if_pos e]; rfl
                 · rw [if_neg e, if_neg e, h4 e]; rfl
               refine DoP.ok RE.out ?_ hM (hR.set2 (by rfl) h3 (by show x.fid = dir; exact hfd) rfl hne) hb
               have h5 := len_set (newN ⟨k, fid, dir, nm, tof, nm2, md, dt, sn⟩) (srt_set (x.er.kids none 0 (entL x.ks nm fid)) R.srt)
               rw [h2, set_len R.srt h1] at h5
               simp only [Option.elim_none] at h5
               omega)
             have STP : Hid (∀ W, Below (w.alloc (.cells #[.int .u8 k, .int .u32 fid, .int .u32 dir, .string nm, .int .u32 tof, .string nm2, .int .u16 md, .string dt] 58)).heap.size (w.alloc (.cells #[.int .u8 k, .int .u32 fid, .int .u32 dir, .string nm, .int .u32 tof, .string nm2, .int .u16 md, .string dt] 58)) W → ∃ W2 w3 ca cc, (convert 9 36 (.string dt)).run Tryz.prog W = .ok (.slice ca dt.size cc) W2 ∧ (Instr.mapUpdate 69 (.map (some tb)) (.int .u32 fid) (.pointer (some ⟨W2.heap.size, 0, none⟩))).run Tryz.prog (W2.alloc (.cells #[.int .u32 fid, .int .u8 kk, .int .u16 md, .int .u16 1, .slice ca dt.size cc, .slice none 0 0] 39)) = .ok () w3 ∧ w3.heap[w.heap.size]? = some (.cells #[.int .u8 k, .int .u32 fid, .int .u32 dir, .string nm, .int .u32 tof, .string nm2, .int .u16 md, .string dt] 58) ∧ Keeps base w w3 ∧ W2.heap[w.heap.size]? = some (.cells #[.int .u8 k, .int .u32 fid, .int .u32 dir, .string nm, .int .u32 tof, .string nm2, .int .u16 md, .string dt] 58) ∧ Calls Tryz.prog 99 #[.pointer (some p), .string nm, .int .u32 fid] w3 (EntP w3 base tb (l.length + 1) (updT N fid ⟨W2.heap.size, 0, none⟩ (madeN fid kk md ca cc (txB dt))) dir p x (entL x.ks nm fid))) := hid (fun W hW => by
               obtain ⟨W2, ca, cc, CE, CR, CB, CN⟩ := conv_tx W dt HDT.out
               have hW2 := hW.trans (CB.mono hW.size)
               have M2 := MV.out.later hW2
               have b3 := below_1 W2 (.cells #[.int .u32 fid, .int .u8 kk, .int .u16 md, .int .u16 1, .slice ca dt.size cc, .slice none 0 0] 39)
               have h3 := heap_alloc_new W2 (.cells #[.int .u32 fid, .int .u8 kk, .int .u16 md, .int .u16 1, .slice ca dt.size cc, .slice none 0 0] 39)
               have M3 := M2.later b3
               obtain ⟨w3, SR, IM, MTn⟩ := M3.map.store (by omega) ht_tab hf.1 hf.2 (some ⟨W2.heap.size, 0, none⟩)
               have hpn : (N.ptr fid).isSome = false := by unfold Tab.ptr; rw [hN2]; rfl
               have ha : addN N.ptr fid l.length = l.length + 1 := by unfold addN; rw [hpn]; rfl
               rw [ha] at IM
               have ou := Ou.turned (S := fun t => t = tb) MTn rfl
               have ob := OPL.out _ (hW2.trans (b3.mono hW2.size))
               have htb : tb ≠ w.heap.size := fun e => by
                 obtain ⟨es, cl, hm⟩ := M3.map.obj
                 rw [e, ob] at hm
                 cases hm
               have M4 := M3.add (x := madeN fid kk md ca cc (txB dt)) hN2 (Nat.le_trans M2.size (Nat.le_refl _)) (by have := h3; unfold madeN Nd.cells; rw [txB_len]; exact this) (fun f' p' y' hy e => by have := (M2.nd f' p' y' hy).2.1.lt; omega) ⟨⟨hf, hkk, hmd, ⟨by show (0 : Int) ≤ 1; decide, by show (1 : Int) < 65536; decide⟩, txB_in dt, (fun q hq => by cases hq), (by show (txB dt).length ≤ 1000; rw [txB_len]; exact HDT.out), Nat.zero_le _⟩, ⟨CN, fun _ => rfl⟩, (CR.lowR (Nat.le_trans HZ.out (Nat.le_trans B0.out.size hW.size))).later b3, OwK.nil _ _⟩ rfl rfl IM ou
               refine ⟨W2, w3, ca, cc, CE, SR, (ou.block _ (lt_blkR ob) (fun e => htb e.symm)).trans ob, ?_, OPL.out _ hW2, tenter_c M4 (by unfold updT; rw [if_neg hne]; exact hN) hks hq (by omega) hz1 HF0.out hf⟩
               exact (Keeps.of (B0.out.trans ((hW2.trans (b3.mono hW2.size)).mono B0.out.size)) HZ.out).trans ⟨ou.below M3.size (fun t e => by rw [e]; exact M3.low), KeepT.map ou (fun cs t fr e => by obtain ⟨es, cl, hm⟩ := M3.map.obj; rw [hm] at e; cases e)⟩)
             obtain ⟨pb, po, ps⟩ := p
             simp only at hp EC XL FIN STP
             subst hp
             generalize entL x.ks nm fid = L at *
             generalize l.length = ll at *
             clear h hR R HR HZ hf hdr hto hmd hz1 hz2 hz3 hN MV hl k2 hq hks hk12 hk0 hdt hN2 hfn c40 c12 h40 RE hfd hne hkk
             go_enter Tryz.func74, Tryz.ntmps74
             go_upto_region 1 with fail
             generalize w.alloc (.cells #[.int .u8 k, .int .u32 fid, .int .u32 dir, .string nm, .int .u32 tof, .string nm2, .int .u16 md, .string dt] 58) = V at *
             have o2 : V.cell? ⟨w.heap.size, 2, none⟩ = some (.int .u32 dir) := cell_of_row2 H0.out 2 rfl
             have o3 : V.cell? ⟨w.heap.size, 3, none⟩ = some (.string nm) := cell_of_row2 H0.out 3 rfl
             go_upto_region 4 with (first
               | (go_at_call 72; have K2 := B1.out; refine (trefuse_f _ _).mono ?_; rintro _ wz ⟨rfl, hwz⟩; have hwz2 := hwz.symm; clear hwz; subst hwz2; have K1 := hid True.intro)
               | (go_at_call 20; refine EC.out.mono ?_; rintro _ w1 ⟨rfl, hb1⟩; have x5 := (XL.out w1 hb1).all.2.2.2.2.2; have lk := LK.out w1 hb1; have ln := LNT.out w1 hb1; have u1 : w1.cell? ⟨w.heap.size, 1, none⟩ = some (.int .u32 fid) := cell_of_row2 (OPL.out w1 hb1) 1 rfl; have u3 : w1.cell? ⟨w.heap.size, 3, none⟩ = some (.string nm) := cell_of_row2 (OPL.out w1 hb1) 3 rfl; have u6 : w1.cell? ⟨w.heap.size, 6, none⟩ = some (.int .u16 md) := cell_of_row2 (OPL.out w1 hb1) 6 rfl; have u7 : w1.cell? ⟨w.heap.size, 7, none⟩ = some (.string dt) := cell_of_row2 (OPL.out w1 hb1) 7 rfl; (obtain ⟨W2, w3, ca, cc, CE, SU, o3, b3, o2, en⟩ := STP.out w1 hb1); have CE1 := hid CE; have SU1 := hid SU; have O3 := hid o3; have O2 := hid o2; have B3 := hid b3; have EN := hid en; clear CE SU o3 o2 b3 en; have B1 := hid hb1; clear hb1)
               | (go_at_call 98; refine DC.out.mono ?_; rintro _ wd ⟨rfl, hwd⟩; have hwd2 := hwd.symm; clear hwd; subst hwd2))
             have ce := CE1.out
             have su := SU1.out
             have g2 := O2.out
             have q1 : W2.cell? ⟨w.heap.size, 1, none⟩ = some (.int .u32 fid) := cell_of_row2 g2 1 rfl
             clear g2
             go_upto_region 5 with fail
             have v1 : w3.cell? ⟨w.heap.size, 1, none⟩ = some (.int .u32 fid) := cell_of_row2 O3.out 1 rfl
             have v3 : w3.cell? ⟨w.heap.size, 3, none⟩ = some (.string nm) := cell_of_row2 O3.out 3 rfl
             go_wp2_with (go_at_call 99; refine EN.out.mono ?_; intro e5 w5 h5; obtain ⟨rfl, ⟨a5, c5, m5⟩, b5, k5⟩ := h5; have F5 := hid (FIN.out a5 c5 w5 _ _ _ m5 (B3.out.trans ⟨b5, k5⟩)); clear m5 b5 k5)
             exact body_end (by kernel_rfl) rfl F5.out
   · have RE : Hid (r = (7, [])) := hid (by rw [HR.out]; exact create_e (dirE_k hl k2) (by decide))
     have DC := hid (tdir_k MV.out hdr.1 hdr.2 hN k2)
     clear h hR R HR HZ hf hdr hto hmd hz1 hz2 hz3 hN OPL MV hl k2 hdt
     go_enter Tryz.func74, Tryz.ntmps74
     go_upto_region 1 with fail
     generalize w.alloc (.cells #[.int .u8 k, .int .u32 fid, .int .u32 dir, .string nm, .int .u32 tof, .string nm2, .int .u16 md, .string dt] 58) = V at *
     have o2 : V.cell? ⟨w.heap.size, 2, none⟩ = some (.int .u32 dir) := cell_of_row2 H0.out 2 rfl
     go_wp2_with (go_at_call 98; refine DC.out.mono ?_; rintro _ wd ⟨rfl, hwd⟩; have hwd2 := hwd.symm; clear hwd; subst hwd2)
     exact ⟨rfl, DoP.err RE.out (by decide) B0.out⟩
end Go.Proofs.YtgbdplammniidaaGreatDoor
