/-
  
-/
import Derived.Test.YtfmghbennahlfaaGreatCnBk
namespace Go.Proofs.YtfmghbennahlfaaGreat
open Go.RowKit Go.ChangeShapes Go.WideShapes Go.ChangeAt Go.Maps Go.Shelf
set_option linter.unusedVariables false
set_option linter.unusedSimpArgs false
set_option maxRecDepth 100000
theorem create_e {l : List Nd} {o : Rec} {c : Int} (he : dirE (getF l o.dir) = c) (hc : c ≠ 0) : createL l o = (c, []) := by
 unfold createL
 rw [he]
 simp [hc]
theorem create_x {l : List Nd} {o : Rec} {d : Nd} (hd : getF l o.dir = some d) (h2 : d.k = 2) :
   (kidI d.ks o.nm ≠ 0 ∨ (getF l o.fid).isSome = true → createL l o = (6, [])) ∧ (kidI d.ks o.nm = 0 → getF l o.fid = none → (40 ≤ l.length ∨ 12 ≤ d.ks.length) → createL l o = (4, [])) := by
 obtain ⟨e1, e2⟩ := dir_of hd h2
 unfold createL
 rw [e1, e2]
 refine ⟨fun a => ?_, fun a b c => ?_⟩
 · rw [if_neg (by simp), if_pos a]
 · rw [if_neg (by simp), if_neg (by rw [a, b]; simp), if_pos c]
def madeN (fid kk md : Int) (a : Option Addr) (c : Nat) (zs : List Int) : Nd := ⟨fid, kk, md, 1, a, c, zs, none, 0, []⟩
set_option maxHeartbeats 4000000 in
theorem tcreate_c {w : World} {base tb : Nat} {N : Tab} {l : List Nd} (o : Rec) (kk : Int) (h : MT w base tb l.length N) (hR : Rel N l) (R : Rt l) (ho : o.Wf) (hf0 : o.fid ≠ 0) (hkd : kk = if o.k = 2 then 2 else if o.k = 3 then 3 else 1) (hdt : o.dt.size ≤ 1000) (hdz : o.k ≠ 3 → txB o.dt = []) :
   Calls Tryz.prog 233 #[.map (some tb), o.opV, .int .u8 kk] w (DoP w base tb (createL l o)) := by
 obtain ⟨r, hr⟩ : ∃ r, r = createL l o := ⟨_, rfl⟩
 rw [← hr]
 have HR := hid hr
 clear hr
 obtain ⟨k, fid, dir, nm, tof, nm2, md, dt, sn⟩ := o
 have b0 := below_1 w (.cells #[.int .u8 k, .int .u32 fid, .int .u32 dir, .string nm, .int .u32 tof, .string nm2, .int .u16 md, .string dt] 111)
 have h0 := heap_alloc_new w (.cells #[.int .u8 k, .int .u32 fid, .int .u32 dir, .string nm, .int .u32 tof, .string nm2, .int .u16 md, .string dt] 111)
 have MV := hid (h.later b0)
 have B0 := hid b0
 have H0 := hid h0
 have OPL : Hid (∀ W, Below (w.alloc (.cells #[.int .u8 k, .int .u32 fid, .int .u32 dir, .string nm, .int .u32 tof, .string nm2, .int .u16 md, .string dt] 111)).heap.size (w.alloc (.cells #[.int .u8 k, .int .u32 fid, .int .u32 dir, .string nm, .int .u32 tof, .string nm2, .int .u16 md, .string dt] 111)) W → W.heap[w.heap.size]? = some (.cells #[.int .u8 k, .int .u32 fid, .int .u32 dir, .string nm, .int .u32 tof, .string nm2, .int .u16 md, .string dt] 111)) := hid (fun W hW => (hW.block _ (lt_blkR h0)).trans h0)
 obtain ⟨_, hf, hdr, hto, hmd, _, hz1, hz2, hz3⟩ := ho
 simp only [Rec.opV] at *
 clear b0 h0
 have HZ := hid h.size
 have HF0 := hid hf0
 have HKD := hid hkd
 have HDZ := hid hdz
 have HDT := hid hdt
 clear hf0 hkd hdz
 cases hN : N dir with
 | none =>
   have RE : Hid (r = (5, [])) := hid (by rw [HR.out]; exact create_e (dirE_n (hR.no hN)) (by decide))
   have DC := hid (tdir_n MV.out hdr.1 hdr.2 hN)
   clear h hR R HR HZ hf hdr hto hmd hz1 hz2 hz3 hN OPL MV hdt
   go_enter Tryz.func233, Tryz.ntmps233
   go_upto_region 1 with fail
   generalize w.alloc (.cells #[.int .u8 k, .int .u32 fid, .int .u32 dir, .string nm, .int .u32 tof, .string nm2, .int .u16 md, .string dt] 111) = V at *
   have o2 : V.cell? ⟨w.heap.size, 2, none⟩ = some (.int .u32 dir) := cell_of_row2 H0.out 2 rfl
   go_wp2_with (go_at_call 292; refine DC.out.mono ?_; rintro _ wd ⟨rfl, hwd⟩; have hwd2 := hwd.symm; clear hwd; subst hwd2)
   exact ⟨rfl, DoP.err RE.out (by decide) B0.out⟩
 | some z =>
   obtain ⟨p, x⟩ := z
   have hl := hR.got hN
   by_cases k2 : x.k = 2
   · obtain ⟨hks, hk12, hk0⟩ := tab_dir MV.out hR R hN k2
     have DC := hid (tdir_s MV.out hdr.1 hdr.2 hN k2)
     have XL : Hid (∀ W, Below (w.alloc (.cells #[.int .u8 k, .int .u32 fid, .int .u32 dir, .string nm, .int .u32 tof, .string nm2, .int .u16 md, .string dt] 111)).heap.size (w.alloc (.cells #[.int .u8 k, .int .u32 fid, .int .u32 dir, .string nm, .int .u32 tof, .string nm2, .int .u16 md, .string dt] 111)) W → NdC W p.block p.off x) := hid (fun W hW => ((MV.out.later hW).nd _ p x hN).2.1.ndc)
     have hp := (MV.out.nd _ p x hN).2.1.1
     have EC := hid (entryOf_c p.block p.off x nm (w.alloc (.cells #[.int .u8 k, .int .u32 fid, .int .u32 dir, .string nm, .int .u32 tof, .string nm2, .int .u16 md, .string dt] 111)) (XL.out _ (Below.refl _ _)).all.2.2.2.2.2 (MV.out.nd _ p x hN).2.2.1.r.ok.2.2.2.2.2 (by omega))
     have LK : Hid (∀ W, Below (w.alloc (.cells #[.int .u8 k, .int .u32 fid, .int .u32 dir, .string nm, .int .u32 tof, .string nm2, .int .u16 md, .string dt] 111)).heap.size (w.alloc (.cells #[.int .u8 k, .int .u32 fid, .int .u32 dir, .string nm, .int .u32 tof, .string nm2, .int .u16 md, .string dt] 111)) W → (Instr.lookup 187 (.map (some tb)) (.int .u32 fid) false).run Tryz.prog W = .ok (.pointer ((N fid).map (·.1))) W) := hid (fun W hW => (MV.out.later hW).look hf.1 hf.2)
     have LNT : Hid (∀ W, Below (w.alloc (.cells #[.int .u8 k, .int .u32 fid, .int .u32 dir, .string nm, .int .u32 tof, .string nm2, .int .u16 md, .string dt] 111)).heap.size (w.alloc (.cells #[.int .u8 k, .int .u32 fid, .int .u32 dir, .string nm, .int .u32 tof, .string nm2, .int .u16 md, .string dt] 111)) W → ∀ ty, (Builtin.len_ #[187] ty #[.map (some tb)]).run Tryz.prog W = .ok (.int .i64 (l.length : Int)) W) := hid (fun W hW ty => (MV.out.later hW).map.len ht_tab ty)
     cases hq : kq x.ks nm with
     | some q =>
       have RE : Hid (r = (6, [])) := hid (by rw [HR.out]; exact (create_x (d := x.er) hl k2).1 (.inl (kid_of hq hk0)))
       obtain ⟨i, e1, _, _⟩ := en_some hq
       rw [e1] at EC
       have hiI : (0 : Int) ≤ i := by omega
       obtain ⟨pb, po, ps⟩ := p
       simp only at hp EC
       subst hp
       clear h hR R HR HZ hf hdr hto hmd hz1 hz2 hz3 hN MV hl k2 hq hks hk12 hk0 XL e1 OPL hdt LK LNT
       go_enter Tryz.func233, Tryz.ntmps233
       go_upto_region 1 with fail
       generalize w.alloc (.cells #[.int .u8 k, .int .u32 fid, .int .u32 dir, .string nm, .int .u32 tof, .string nm2, .int .u16 md, .string dt] 111) = V at *
       have o2 : V.cell? ⟨w.heap.size, 2, none⟩ = some (.int .u32 dir) := cell_of_row2 H0.out 2 rfl
       have o3 : V.cell? ⟨w.heap.size, 3, none⟩ = some (.string nm) := cell_of_row2 H0.out 3 rfl
       go_wp2_with (first
         | (go_at_call 232; have K2 := B1.out; refine (trefuse_t _ _).mono ?_; rintro _ wz ⟨rfl, hwz⟩; have hwz2 := hwz.symm; clear hwz; subst hwz2)
         | (go_at_call 121; refine EC.out.mono ?_; rintro _ w1 ⟨rfl, hb1⟩; have B1 := hid hb1; clear hb1)
         | (go_at_call 292; refine DC.out.mono ?_; rintro _ wd ⟨rfl, hwd⟩; have hwd2 := hwd.symm; clear hwd; subst hwd2))
       exact ⟨rfl, DoP.err RE.out (by decide) (B0.out.trans (B1.out.mono B0.out.size))⟩
     | none =>
       rw [en_none hq] at EC
       cases hN2 : N fid with
       | some z =>
         obtain ⟨p2, y⟩ := z
         have RE : Hid (r = (6, [])) := hid (by rw [HR.out]; exact (create_x (d := x.er) hl k2).1 (.inr (by show (getF l fid).isSome = true; rw [hR.got hN2]; rfl)))
         rw [hN2] at LK
         simp only [Option.map_some] at LK
         obtain ⟨pb, po, ps⟩ := p
         simp only at hp EC XL
         subst hp
         clear h hR R HR HZ hf hdr hto hmd hz1 hz2 hz3 hN MV hl k2 hq hks hk12 hk0 hdt hN2
         go_enter Tryz.func233, Tryz.ntmps233
         go_upto_region 1 with fail
         generalize w.alloc (.cells #[.int .u8 k, .int .u32 fid, .int .u32 dir, .string nm, .int .u32 tof, .string nm2, .int .u16 md, .string dt] 111) = V at *
         have o2 : V.cell? ⟨w.heap.size, 2, none⟩ = some (.int .u32 dir) := cell_of_row2 H0.out 2 rfl
         have o3 : V.cell? ⟨w.heap.size, 3, none⟩ = some (.string nm) := cell_of_row2 H0.out 3 rfl
         go_wp2_with (first
           | (go_at_call 232; have K2 := B1.out; refine (trefuse_t _ _).mono ?_; rintro _ wz ⟨rfl, hwz⟩; have hwz2 := hwz.symm; clear hwz; subst hwz2)
           | (go_at_call 121; refine EC.out.mono ?_; rintro _ w1 ⟨rfl, hb1⟩; have x5 := (XL.out w1 hb1).all.2.2.2.2.2; have lk := LK.out w1 hb1; have ln := LNT.out w1 hb1; have u1 : w1.cell? ⟨w.heap.size, 1, none⟩ = some (.int .u32 fid) := cell_of_row2 (OPL.out w1 hb1) 1 rfl; have u3 : w1.cell? ⟨w.heap.size, 3, none⟩ = some (.string nm) := cell_of_row2 (OPL.out w1 hb1) 3 rfl; have u6 : w1.cell? ⟨w.heap.size, 6, none⟩ = some (.int .u16 md) := cell_of_row2 (OPL.out w1 hb1) 6 rfl; have u7 : w1.cell? ⟨w.heap.size, 7, none⟩ = some (.string dt) := cell_of_row2 (OPL.out w1 hb1) 7 rfl; have B1 := hid hb1; clear hb1)
           | (go_at_call 292; refine DC.out.mono ?_; rintro _ wd ⟨rfl, hwd⟩; have hwd2 := hwd.symm; clear hwd; subst hwd2))
         exact ⟨rfl, DoP.err RE.out (by decide) (B0.out.trans (B1.out.mono B0.out.size))⟩
       | none =>
         rw [hN2] at LK
         simp only [Option.map_none] at LK
         have hfn := hR.no hN2
         by_cases c40 : l.length = 40
         · have RE : Hid (r = (4, [])) := hid (by rw [HR.out]; exact (create_x (d := x.er) hl k2).2 (kidI_no hq) hfn (.inl (by omega)))
           have cB : ((l.length : Int) == 40) = true := by rw [c40]; rfl
           obtain ⟨pb, po, ps⟩ := p
           simp only at hp EC XL
           subst hp
           generalize l.length = ll at *
           clear h hR R HR HZ hf hdr hto hmd hz1 hz2 hz3 hN MV hl k2 hq hks hk12 hk0 hdt hN2 hfn c40
           go_enter Tryz.func233, Tryz.ntmps233
           go_upto_region 1 with fail
           generalize w.alloc (.cells #[.int .u8 k, .int .u32 fid, .int .u32 dir, .string nm, .int .u32 tof, .string nm2, .int .u16 md, .string dt] 111) = V at *
           have o2 : V.cell? ⟨w.heap.size, 2, none⟩ = some (.int .u32 dir) := cell_of_row2 H0.out 2 rfl
           have o3 : V.cell? ⟨w.heap.size, 3, none⟩ = some (.string nm) := cell_of_row2 H0.out 3 rfl
           go_wp2_with (first
             | (go_at_call 232; have K2 := K1.out; refine (trefuse_t _ _).mono ?_; rintro _ wz ⟨rfl, hwz⟩; have hwz2 := hwz.symm; clear hwz; subst hwz2)
             | (go_at_call 232; have K2 := B1.out; refine (trefuse_f _ _).mono ?_; rintro _ wz ⟨rfl, hwz⟩; have hwz2 := hwz.symm; clear hwz; subst hwz2; have K1 := hid True.intro)
             | (go_at_call 121; refine EC.out.mono ?_; rintro _ w1 ⟨rfl, hb1⟩; have x5 := (XL.out w1 hb1).all.2.2.2.2.2; have lk := LK.out w1 hb1; have ln := LNT.out w1 hb1; have u1 : w1.cell? ⟨w.heap.size, 1, none⟩ = some (.int .u32 fid) := cell_of_row2 (OPL.out w1 hb1) 1 rfl; have u3 : w1.cell? ⟨w.heap.size, 3, none⟩ = some (.string nm) := cell_of_row2 (OPL.out w1 hb1) 3 rfl; have u6 : w1.cell? ⟨w.heap.size, 6, none⟩ = some (.int .u16 md) := cell_of_row2 (OPL.out w1 hb1) 6 rfl; have u7 : w1.cell? ⟨w.heap.size, 7, none⟩ = some (.string dt) := cell_of_row2 (OPL.out w1 hb1) 7 rfl; have B1 := hid hb1; clear hb1)
             | (go_at_call 292; refine DC.out.mono ?_; rintro _ wd ⟨rfl, hwd⟩; have hwd2 := hwd.symm; clear hwd; subst hwd2))
           exact ⟨rfl, DoP.err RE.out (by decide) (B0.out.trans (B1.out.mono B0.out.size))⟩
         · have cB : ((l.length : Int) == 40) = false := beq_eq_false_iff_ne.2 (by omega)
           have h40 := R.few
           by_cases c12 : x.ks.length = 12
           · have RE : Hid (r = (4, [])) := hid (by rw [HR.out]; exact (create_x (d := x.er) hl k2).2 (kidI_no hq) hfn (.inr (by show 12 ≤ x.ks.length; omega)))
             have kB : ((x.ks.length : Int) == 12) = true := by rw [c12]; rfl
             obtain ⟨pb, po, ps⟩ := p
             simp only at hp EC XL
             subst hp
             generalize l.length = ll at *
             clear h hR R HR HZ hf hdr hto hmd hz1 hz2 hz3 hN MV hl k2 hq hks hk12 hk0 hdt hN2 hfn c40 c12 h40
             go_enter Tryz.func233, Tryz.ntmps233
             go_upto_region 1 with fail
             generalize w.alloc (.cells #[.int .u8 k, .int .u32 fid, .int .u32 dir, .string nm, .int .u32 tof, .string nm2, .int .u16 md, .string dt] 111) = V at *
             have o2 : V.cell? ⟨w.heap.size, 2, none⟩ = some (.int .u32 dir) := cell_of_row2 H0.out 2 rfl
             have o3 : V.cell? ⟨w.heap.size, 3, none⟩ = some (.string nm) := cell_of_row2 H0.out 3 rfl
             go_wp2_with (first
               | (go_at_call 232; have K2 := K1.out; refine (trefuse_t _ _).mono ?_; rintro _ wz ⟨rfl, hwz⟩; have hwz2 := hwz.symm; clear hwz; subst hwz2)
               | (go_at_call 232; have K2 := B1.out; refine (trefuse_f _ _).mono ?_; rintro _ wz ⟨rfl, hwz⟩; have hwz2 := hwz.symm; clear hwz; subst hwz2; have K1 := hid True.intro)
               | (go_at_call 121; refine EC.out.mono ?_; rintro _ w1 ⟨rfl, hb1⟩; have x5 := (XL.out w1 hb1).all.2.2.2.2.2; have lk := LK.out w1 hb1; have ln := LNT.out w1 hb1; have u1 : w1.cell? ⟨w.heap.size, 1, none⟩ = some (.int .u32 fid) := cell_of_row2 (OPL.out w1 hb1) 1 rfl; have u3 : w1.cell? ⟨w.heap.size, 3, none⟩ = some (.string nm) := cell_of_row2 (OPL.out w1 hb1) 3 rfl; have u6 : w1.cell? ⟨w.heap.size, 6, none⟩ = some (.int .u16 md) := cell_of_row2 (OPL.out w1 hb1) 6 rfl; have u7 : w1.cell? ⟨w.heap.size, 7, none⟩ = some (.string dt) := cell_of_row2 (OPL.out w1 hb1) 7 rfl; have B1 := hid hb1; clear hb1)
               | (go_at_call 292; refine DC.out.mono ?_; rintro _ wd ⟨rfl, hwd⟩; have hwd2 := hwd.symm; clear hwd; subst hwd2))
             exact ⟨rfl, DoP.err RE.out (by decide) (B0.out.trans (B1.out.mono B0.out.size))⟩
           · have kB : ((x.ks.length : Int) == 12) = false := beq_eq_false_iff_ne.2 (by omega)
             have RE : Hid (r = (0, setL (setL l (x.er.kids none 0 (entL x.ks nm fid))) (newN ⟨k, fid, dir, nm, tof, nm2, md, dt, sn⟩))) := hid (by rw [HR.out]; exact create_do (o := ⟨k, fid, dir, nm, tof, nm2, md, dt, sn⟩) hl k2 hq hfn (by omega) (by show x.ks.length < 12; omega))
             have hfd := (MV.out.nd dir p x hN).2.2.2
             have hne : dir ≠ fid := fun e => by rw [e, hN2] at hN; cases hN
             have hkk : 0 ≤ kk ∧ kk < 256 := by rw [HKD.out]; split; exact ⟨by omega, by omega⟩; split <;> exact ⟨by omega, by omega⟩
             have FIN : Hid (∀ a4 c4 w5 g ca cc, MT w5 base tb (l.length + 1) (updT (updT N fid ⟨g, 0, none⟩ (madeN fid kk md ca cc (txB dt))) dir p (x.kids a4 c4 (entL x.ks nm fid))) → Keeps base w w5 → DoP w base tb r (.returned (.tuple #[])) w5) := hid (fun a4 c4 w5 g ca cc hM hb => by
               have h1 : getF l (x.er.kids none 0 (entL x.ks nm fid)).fid = some x.er := by show getF l x.fid = _; rw [hfd]; exact hl
               have h2 : getF (setL l (x.er.kids none 0 (entL x.ks nm fid))) (newN ⟨k, fid, dir, nm, tof, nm2, md, dt, sn⟩).fid = none := by
                 rw [getF_set]
                 show (if fid = x.fid then _ else getF l fid) = _
                 rw [hfd, if_neg (fun e => hne e.symm)]
                 exact hfn
               have h3 : (madeN fid kk md ca cc (txB dt)).er = newN ⟨k, fid, dir, nm, tof, nm2, md, dt, sn⟩ := by
                 unfold madeN newN
                 rw [HKD.out]
                 have h4 := HDZ.out
                 (try simp only at h4)
                 (try simp only)
                 by_cases e : k = 3
                 · rw [if_pos e, if_pos e]; rfl
                 · rw [if_neg e, if_neg e, h4 e]; rfl
               refine DoP.ok RE.out ?_ hM (hR.set2 (by rfl) h3 (by show x.fid = dir; exact hfd) rfl hne) hb
               have h5 := len_set (newN ⟨k, fid, dir, nm, tof, nm2, md, dt, sn⟩) (srt_set (x.er.kids none 0 (entL x.ks nm fid)) R.srt)
               rw [h2, set_len R.srt h1] at h5
               simp only [Option.elim_none] at h5
               omega)
             have STP : Hid (∀ W, Below (w.alloc (.cells #[.int .u8 k, .int .u32 fid, .int .u32 dir, .string nm, .int .u32 tof, .string nm2, .int .u16 md, .string dt] 111)).heap.size (w.alloc (.cells #[.int .u8 k, .int .u32 fid, .int .u32 dir, .string nm, .int .u32 tof, .string nm2, .int .u16 md, .string dt] 111)) W → ∃ W2 w3 ca cc, (convert 9 37 (.string dt)).run Tryz.prog W = .ok (.slice ca dt.size cc) W2 ∧ (Instr.mapUpdate 187 (.map (some tb)) (.int .u32 fid) (.pointer (some ⟨W2.heap.size, 0, none⟩))).run Tryz.prog (W2.alloc (.cells #[.int .u32 fid, .int .u8 kk, .int .u16 md, .int .u16 1, .slice ca dt.size cc, .slice none 0 0] 40)) = .ok () w3 ∧ w3.heap[w.heap.size]? = some (.cells #[.int .u8 k, .int .u32 fid, .int .u32 dir, .string nm, .int .u32 tof, .string nm2, .int .u16 md, .string dt] 111) ∧ Keeps base w w3 ∧ W2.heap[w.heap.size]? = some (.cells #[.int .u8 k, .int .u32 fid, .int .u32 dir, .string nm, .int .u32 tof, .string nm2, .int .u16 md, .string dt] 111) ∧ Calls Tryz.prog 293 #[.pointer (some p), .string nm, .int .u32 fid] w3 (EntP w3 base tb (l.length + 1) (updT N fid ⟨W2.heap.size, 0, none⟩ (madeN fid kk md ca cc (txB dt))) dir p x (entL x.ks nm fid))) := hid (fun W hW => by
               obtain ⟨W2, ca, cc, CE, CR, CB, CN⟩ := conv_tx W dt HDT.out
               have hW2 := hW.trans (CB.mono hW.size)
               have M2 := MV.out.later hW2
               have b3 := below_1 W2 (.cells #[.int .u32 fid, .int .u8 kk, .int .u16 md, .int .u16 1, .slice ca dt.size cc, .slice none 0 0] 40)
               have h3 := heap_alloc_new W2 (.cells #[.int .u32 fid, .int .u8 kk, .int .u16 md, .int .u16 1, .slice ca dt.size cc, .slice none 0 0] 40)
               have M3 := M2.later b3
               obtain ⟨w3, SR, IM, MTn⟩ := M3.map.store (by omega) ht_tab hf.1 hf.2 (some ⟨W2.heap.size, 0, none⟩)
               have hpn : (N.ptr fid).isSome = false := by unfold Tab.ptr; rw [hN2]; rfl
               have ha : addN N.ptr fid l.length = l.length + 1 := by unfold addN; rw [hpn]; rfl
               rw [ha] at IM
               have ou := Ou.turned (S := fun t => t = tb) MTn rfl
               have ob := OPL.out _ (hW2.trans (b3.mono hW2.size))
               have htb : tb ≠ w.heap.size := fun e => by
                 obtain ⟨es, cl, hm⟩ := M3.map.obj
                 rw [e, ob] at hm
                 cases hm
               have M4 := M3.add (x := madeN fid kk md ca cc (txB dt)) hN2 (Nat.le_trans M2.size (Nat.le_refl _)) (by have := h3; unfold madeN Nd.cells; rw [txB_len]; exact this) (fun f' p' y' hy e => by have := (M2.nd f' p' y' hy).2.1.lt; omega) ⟨⟨hf, hkk, hmd, ⟨by show (0 : Int) ≤ 1; decide, by show (1 : Int) < 65536; decide⟩, txB_in dt, (fun q hq => by cases hq), (by show (txB dt).length ≤ 1000; rw [txB_len]; exact HDT.out), Nat.zero_le _⟩, ⟨CN, fun _ => rfl⟩, (CR.lowR (Nat.le_trans HZ.out (Nat.le_trans B0.out.size hW.size))).later b3, OwK.nil _ _⟩ rfl rfl IM ou
               refine ⟨W2, w3, ca, cc, CE, SR, (ou.block _ (lt_blkR ob) (fun e => htb e.symm)).trans ob, ?_, OPL.out _ hW2, tenter_c M4 (by unfold updT; rw [if_neg hne]; exact hN) hks hq (by omega) hz1 HF0.out hf⟩
               exact (Keeps.of (B0.out.trans ((hW2.trans (b3.mono hW2.size)).mono B0.out.size)) HZ.out).trans ⟨ou.below M3.size (fun t e => by rw [e]; exact M3.low), KeepT.map ou (fun cs t fr e => by obtain ⟨es, cl, hm⟩ := M3.map.obj; rw [hm] at e; cases e)⟩)
             obtain ⟨pb, po, ps⟩ := p
             simp only at hp EC XL FIN STP
             subst hp
             generalize entL x.ks nm fid = L at *
             generalize l.length = ll at *
             clear h hR R HR HZ hf hdr hto hmd hz1 hz2 hz3 hN MV hl k2 hq hks hk12 hk0 hdt hN2 hfn c40 c12 h40 RE hfd hne hkk
             go_enter Tryz.func233, Tryz.ntmps233
             go_upto_region 1 with fail
             generalize w.alloc (.cells #[.int .u8 k, .int .u32 fid, .int .u32 dir, .string nm, .int .u32 tof, .string nm2, .int .u16 md, .string dt] 111) = V at *
             have o2 : V.cell? ⟨w.heap.size, 2, none⟩ = some (.int .u32 dir) := cell_of_row2 H0.out 2 rfl
             have o3 : V.cell? ⟨w.heap.size, 3, none⟩ = some (.string nm) := cell_of_row2 H0.out 3 rfl
             go_upto_region 4 with (first
               | (go_at_call 232; have K2 := B1.out; refine (trefuse_f _ _).mono ?_; rintro _ wz ⟨rfl, hwz⟩; have hwz2 := hwz.symm; clear hwz; subst hwz2; have K1 := hid True.intro)
               | (go_at_call 121; refine EC.out.mono ?_; rintro _ w1 ⟨rfl, hb1⟩; have x5 := (XL.out w1 hb1).all.2.2.2.2.2; have lk := LK.out w1 hb1; have ln := LNT.out w1 hb1; have u1 : w1.cell? ⟨w.heap.size, 1, none⟩ = some (.int .u32 fid) := cell_of_row2 (OPL.out w1 hb1) 1 rfl; have u3 : w1.cell? ⟨w.heap.size, 3, none⟩ = some (.string nm) := cell_of_row2 (OPL.out w1 hb1) 3 rfl; have u6 : w1.cell? ⟨w.heap.size, 6, none⟩ = some (.int .u16 md) := cell_of_row2 (OPL.out w1 hb1) 6 rfl; have u7 : w1.cell? ⟨w.heap.size, 7, none⟩ = some (.string dt) := cell_of_row2 (OPL.out w1 hb1) 7 rfl; (obtain ⟨W2, w3, ca, cc, CE, SU, o3, b3, o2, en⟩ := STP.out w1 hb1); have CE1 := hid CE; have SU1 := hid SU; have O3 := hid o3; have O2 := hid o2; have B3 := hid b3; have EN := hid en; clear CE SU o3 o2 b3 en; have B1 := hid hb1; clear hb1)
               | (go_at_call 292; refine DC.out.mono ?_; rintro _ wd ⟨rfl, hwd⟩; have hwd2 := hwd.symm; clear hwd; subst hwd2))
             have ce := CE1.out
             have su := SU1.out
             have g2 := O2.out
             have q1 : W2.cell? ⟨w.heap.size, 1, none⟩ = some (.int .u32 fid) := cell_of_row2 g2 1 rfl
             clear g2
             go_upto_region 5 with fail
             have v1 : w3.cell? ⟨w.heap.size, 1, none⟩ = some (.int .u32 fid) := cell_of_row2 O3.out 1 rfl
             have v3 : w3.cell? ⟨w.heap.size, 3, none⟩ = some (.string nm) := cell_of_row2 O3.out 3 rfl
             go_wp2_with (go_at_call 293; refine EN.out.mono ?_; intro e5 w5 h5; obtain ⟨rfl, ⟨a5, c5, m5⟩, b5, k5⟩ := h5; have F5 := hid (FIN.out a5 c5 w5 _ _ _ m5 (B3.out.trans ⟨b5, k5⟩)); clear m5 b5 k5)
             exact body_end (by kernel_rfl) rfl F5.out
   · have RE : Hid (r = (7, [])) := hid (by rw [HR.out]; exact create_e (dirE_k hl k2) (by decide))
     have DC := hid (tdir_k MV.out hdr.1 hdr.2 hN k2)
     clear h hR R HR HZ hf hdr hto hmd hz1 hz2 hz3 hN OPL MV hl k2 hdt
     go_enter Tryz.func233, Tryz.ntmps233
     go_upto_region 1 with fail
     generalize w.alloc (.cells #[.int .u8 k, .int .u32 fid, .int .u32 dir, .string nm, .int .u32 tof, .string nm2, .int .u16 md, .string dt] 111) = V at *
     have o2 : V.cell? ⟨w.heap.size, 2, none⟩ = some (.int .u32 dir) := cell_of_row2 H0.out 2 rfl
     go_wp2_with (go_at_call 292; refine DC.out.mono ?_; rintro _ wd ⟨rfl, hwd⟩; have hwd2 := hwd.symm; clear hwd; subst hwd2)
     exact ⟨rfl, DoP.err RE.out (by decide) B0.out⟩
theorem DoP.lift {w w1 w' : World} {base tb : Nat} {r : Int × List Nd} {e : Ending} (h : DoP w1 base tb r e w') (hb : Below w.heap.size w w1) (hz : base ≤ w.heap.size) : DoP w base tb r e w' := by
 rcases h with ⟨h1, h2, h3, h4⟩ | ⟨h1, h2, h4⟩
 · exact .inl ⟨h1, h2, h3, (Keeps.of hb hz).trans h4⟩
 · exact .inr ⟨h1, h2, hb.trans (h4.mono hb.size)⟩
theorem rightF_parts {o : Rec} (h : rightF o = true) : pOk o.k = true ∧ (pFid o.k = true → o.fid ≠ 0) ∧ datF (pData o.k) o.dt = true := by
 unfold rightF at h
 simp only [Bool.and_eq_true, Bool.not_eq_true', Bool.or_eq_false_iff] at h
 obtain ⟨⟨⟨h1, h2⟩, _⟩, ⟨_, h3⟩⟩ := h
 refine ⟨by simpa using h1, fun e => ?_, h3⟩
 rw [e] at h2
 simp at h2
 exact h2
theorem dat_len {b : Bool} {s : ByteArray} (h : datF b s = true) : b = false → txB s = [] := by
 intro hb
 subst hb
 unfold datF at h
 have := (ba_nil s).1 h
 rw [this]; rfl
theorem DoP.out0 {w w' : World} {base tb : Nat} {r : Int × List Nd} {e : Ending} (h : DoP w base tb r e w') (hr : r.1 = 0) : e = .returned (.tuple #[]) ∧ DoP w base tb r (.returned (.tuple #[])) w' := by
 have h2 := h
 rcases h with ⟨h1, rfl, h3, h4⟩ | ⟨h1, _, _⟩
 · exact ⟨rfl, h2⟩
 · exact absurd hr h1
theorem DoP.out1 {w w' : World} {base tb : Nat} {c : Int} {L : List Nd} {e : Ending} (h : DoP w base tb (c, L) e w') (hr : c ≠ 0) : e = PT c ∧ DoP w base tb (c, L) (PT c) w' := by
 have h2 := h
 rcases h with ⟨h1, _, _, _⟩ | ⟨h1, rfl, _⟩
 · exact absurd h1 hr
 · exact ⟨rfl, h2⟩
theorem apply_1 {l : List Nd} {o : Rec} (R : Rt l) (h : rightF o = true) (hk : o.k = 1 ∨ o.k = 2 ∨ o.k = 3) : ApplyL l o = createL l o := by
 rw [ApplyL_of R h]; unfold applyL; rw [if_pos hk]
theorem NdW.setE {w : World} {base : Nat} {x : Nd} {q : Addr} {cs : Array Value} {fr : Nat × Nat} (h : NdW w base x) (hq : w.heap[q.block]? = some (.cells cs 28 fr)) (u : Value) : NdW (w.setCell q u) base x :=
 ⟨h.1, h.2.1, h.2.2.1.setR hq (by decide) u, own_setT h.2.2.2 hq (by decide) u⟩
theorem MT.setE {w : World} {base tb m : Nat} {N : Tab} {q : Addr} {cs : Array Value} {fr : Nat × Nat} (h : MT w base tb m N) (hq : w.heap[q.block]? = some (.cells cs 28 fr)) (u : Value) : MT (w.setCell q u) base tb m N := by
 refine ⟨h.map.keep (Below.heap_setCell _ _ _ _ (fun e => ?_)), h.low, fun f p x e => ?_, h.ap, h.ka⟩
 · obtain ⟨es, cl, hm⟩ := h.map.obj
   rw [e, hq] at hm
   cases hm
 · obtain ⟨h1, h2, h3, h4⟩ := h.nd f p x e
   refine ⟨h1, h2.keep (Below.heap_setCell _ _ _ _ (fun e2 => ?_)), h3.setE hq u, h4⟩
   obtain ⟨_, cs2, hb, _⟩ := h2
   rw [e2, hq] at hb
   cases hb
def TryP (w : World) (base tb : Nat) (r : Int × List Nd) (e : Ending) (w' : World) : Prop :=
 e = .returned (.int .i64 r.1) ∧ ((r.1 = 0 ∧ (∃ N', MT w' base tb r.2.length N' ∧ Rel N' r.2) ∧ Below base w w') ∨ (r.1 ≠ 0 ∧ Below w.heap.size w w'))
set_option maxHeartbeats 2000000 in
theorem tcatch_idle (p : Addr) (w : World) :
   CallsD Tryz.prog 175 #[.pointer (some p)] .returning w fun e u' w' => e = .returned (.tuple #[]) ∧ u' = .returning ∧ w' = w := by
 refine callsD_of_wpS Tryz.func175 rfl fun c₀ cs hu => ?_
 apply wpS_seq
 apply wpS_region
 simp [wpOpsS, go_sem, recoverD, hu, Tryz.ntmps175, Exit.thenS]
 refine wpS_of_wp ?_
 go_wp2
 cases c₀
 simp_all [bodyPostS, results, Tryz.results175]
set_option maxHeartbeats 2000000 in
theorem tcatch_panicking (p : Addr) (c x : Int) (older : List PanicEntry) (w : World) (hc : w.cell? p = some (.int .i64 x)) (hz : w.frozen? p = false) (hp : p.block < w.heap.size) :
   CallsD Tryz.prog 175 #[.pointer (some p)] (.panicking ({ v := .iface 272 (.agg #[.int .i64 c]), recovered := false } :: older)) w fun e u' w' =>
     e = .returned (.tuple #[]) ∧ u' = .panicking ({ v := .iface 272 (.agg #[.int .i64 c]), recovered := true } :: older) ∧ w' = (w.alloc (.cells #[.int .i64 c] 272)).setCell p (.int .i64 c) := by
 refine callsD_of_wpS Tryz.func175 rfl fun c₀ cs hu => ?_
 apply wpS_seq
 apply wpS_region
 simp [wpOpsS, go_sem, recoverD, hu, Tryz.ntmps175, Exit.thenS]
 refine wpS_of_wp ?_
 have hta : ∀ W : World, (Instr.typeAssert (.iface 272 (.agg #[.int .i64 c])) 20 272 true).run Tryz.prog W = .ok (.tuple #[.agg #[.int .i64 c], .bool true]) W := fun W => by
   simp [Instr.typeAssert, go_sem, Tryz.underlying272]
 have hne : p.block ≠ w.heap.size := by omega
 have hc2 : (w.alloc (.cells #[.int .i64 c] 272)).cell? p = some (.int .i64 x) := cell_later (below_1 w _) hc
 have hz2 : (w.alloc (.cells #[.int .i64 c] 272)).frozen? p = false := by rw [World.frozen?_of_block ((below_1 w (.cells #[.int .i64 c] 272)).block p.block hp)]; exact hz
 go_wp2
 simp [bodyPostS, results, Tryz.results175]
set_option maxHeartbeats 4000000 in
theorem ttry_c {w : World} {base tb : Nat} {N : Tab} {l : List Nd} (o : Rec) (h : MT w base tb l.length N) (hR : Rel N l) (R : Rt l) (ho : o.Wf) (DO : ∀ W, MT W base tb l.length N → Calls Tryz.prog 176 #[.map (some tb), o.opV] W (DoP W base tb (ApplyL l o))) :
   Calls Tryz.prog 110 #[.map (some tb), o.opV] w (TryP w base tb (ApplyL l o)) := by
 have hmf : ∀ (fn : Fn) (first cap : Array Value) (w : World), (Instr.makeFunc fn first cap).run Tryz.prog w = .ok (.func fn first cap) w := fun _ _ _ _ => rfl
 obtain ⟨⟨c, L⟩, hx⟩ : ∃ r, r = ApplyL l o := ⟨_, rfl⟩
 have hz := h.size
 obtain ⟨k, fid, dir, nm, tof, nm2, md, dt, sn⟩ := o
 have b0 := below_1 w (.cells #[.int .u8 k, .int .u32 fid, .int .u32 dir, .string nm, .int .u32 tof, .string nm2, .int .u16 md, .string dt] 111)
 have hB0 := heap_alloc_new w (.cells #[.int .u8 k, .int .u32 fid, .int .u32 dir, .string nm, .int .u32 tof, .string nm2, .int .u16 md, .string dt] 111)
 have s0 : (w.alloc (.cells #[.int .u8 k, .int .u32 fid, .int .u32 dir, .string nm, .int .u32 tof, .string nm2, .int .u16 md, .string dt] 111)).heap.size = w.heap.size + 1 := by simp
 have b1 := below_1 (w.alloc (.cells #[.int .u8 k, .int .u32 fid, .int .u32 dir, .string nm, .int .u32 tof, .string nm2, .int .u16 md, .string dt] 111)) (.cells #[.int .i64 0] 28)
 have hE1 := heap_alloc_new (w.alloc (.cells #[.int .u8 k, .int .u32 fid, .int .u32 dir, .string nm, .int .u32 tof, .string nm2, .int .u16 md, .string dt] 111)) (.cells #[.int .i64 0] 28)
 rw [s0] at hE1
 have hB1 := (b1.block _ (lt_blkR hB0)).trans hB0
 have B1 := hid (b0.trans (b1.mono b0.size))
 have DC0 := DO _ ((h.later b0).later b1)
 clear DO
 rw [← hx] at DC0 ⊢
 have DC := hid DC0
 have HE1 := hid hE1
 have HZ := hid hz
 simp only [Rec.opV] at DC ⊢
 have o0 : ((w.alloc (.cells #[.int .u8 k, .int .u32 fid, .int .u32 dir, .string nm, .int .u32 tof, .string nm2, .int .u16 md, .string dt] 111)).alloc (.cells #[.int .i64 0] 28)).cell? ⟨w.heap.size, 0, none⟩ = some (.int .u8 k) := cell_of_row2 hB1 0 rfl
 have o1 : ((w.alloc (.cells #[.int .u8 k, .int .u32 fid, .int .u32 dir, .string nm, .int .u32 tof, .string nm2, .int .u16 md, .string dt] 111)).alloc (.cells #[.int .i64 0] 28)).cell? ⟨w.heap.size, 1, none⟩ = some (.int .u32 fid) := cell_of_row2 hB1 1 rfl
 have o2 : ((w.alloc (.cells #[.int .u8 k, .int .u32 fid, .int .u32 dir, .string nm, .int .u32 tof, .string nm2, .int .u16 md, .string dt] 111)).alloc (.cells #[.int .i64 0] 28)).cell? ⟨w.heap.size, 2, none⟩ = some (.int .u32 dir) := cell_of_row2 hB1 2 rfl
 have o3 : ((w.alloc (.cells #[.int .u8 k, .int .u32 fid, .int .u32 dir, .string nm, .int .u32 tof, .string nm2, .int .u16 md, .string dt] 111)).alloc (.cells #[.int .i64 0] 28)).cell? ⟨w.heap.size, 3, none⟩ = some (.string nm) := cell_of_row2 hB1 3 rfl
 have o4 : ((w.alloc (.cells #[.int .u8 k, .int .u32 fid, .int .u32 dir, .string nm, .int .u32 tof, .string nm2, .int .u16 md, .string dt] 111)).alloc (.cells #[.int .i64 0] 28)).cell? ⟨w.heap.size, 4, none⟩ = some (.int .u32 tof) := cell_of_row2 hB1 4 rfl
 have o5 : ((w.alloc (.cells #[.int .u8 k, .int .u32 fid, .int .u32 dir, .string nm, .int .u32 tof, .string nm2, .int .u16 md, .string dt] 111)).alloc (.cells #[.int .i64 0] 28)).cell? ⟨w.heap.size, 5, none⟩ = some (.string nm2) := cell_of_row2 hB1 5 rfl
 have o6 : ((w.alloc (.cells #[.int .u8 k, .int .u32 fid, .int .u32 dir, .string nm, .int .u32 tof, .string nm2, .int .u16 md, .string dt] 111)).alloc (.cells #[.int .i64 0] 28)).cell? ⟨w.heap.size, 6, none⟩ = some (.int .u16 md) := cell_of_row2 hB1 6 rfl
 have o7 : ((w.alloc (.cells #[.int .u8 k, .int .u32 fid, .int .u32 dir, .string nm, .int .u32 tof, .string nm2, .int .u16 md, .string dt] 111)).alloc (.cells #[.int .i64 0] 28)).cell? ⟨w.heap.size, 7, none⟩ = some (.string dt) := cell_of_row2 hB1 7 rfl
 clear h hR R ho hx b0 b1 hB0 hB1 hE1 s0 DC0 hz
 by_cases hc : c = 0
 · go_enter_defers Tryz.func110, Tryz.ntmps110
   go_wp2_with (go_at_call 176; refine DC.out.mono ?_; intro e2 w2 hD
                obtain ⟨rfl, hF⟩ := hD.out0 hc
                have hK : (∃ N', MT w2 base tb L.length N' ∧ Rel N' L) ∧ Keeps base ((w.alloc (.cells #[.int .u8 k, .int .u32 fid, .int .u32 dir, .string nm, .int .u32 tof, .string nm2, .int .u16 md, .string dt] 111)).alloc (.cells #[.int .i64 0] 28)) w2 := by
                  rcases hF with ⟨_, _, h3, h4⟩ | ⟨h1, _, _⟩
                  · exact ⟨h3, h4⟩
                  · exact absurd hc h1
                have hE2 := hK.2.2 _ _ _ _ HE1.out (by decide) (by decide)
                have fe : w2.frozen? ⟨w.heap.size + 1, 0, none⟩ = false := by simp [World.frozen?, hE2]
                have ce : w2.cell? ⟨w.heap.size + 1, 0, none⟩ = some (.int .i64 0) := by rw [cell_of_row _ _ _ _ _ _ hE2]; rfl
                have HK := hid hK
                have HE2 := hid hE2
                clear hK hE2 hF hD)
   refine leaves_cons (f := 175) (args := #[.pointer (some ⟨w.heap.size + 1, 0, none⟩)]) (by simp) (by simp [go_sem]) ?_
   refine (tcatch_idle ⟨w.heap.size + 1, 0, none⟩ _).mono ?_
   rintro e u' w'' ⟨rfl, rfl, rfl⟩
   have cz := World.cell?_setCell_same w2 ⟨w.heap.size + 1, 0, none⟩ (.int .i64 0) ce
   obtain ⟨⟨N', hM, hR'⟩, hkb⟩ := HK.out
   have M3 := hM.setE (q := ⟨w.heap.size + 1, 0, none⟩) HE2.out (.int .i64 0)
   have B3 : Below base w (w2.setCell ⟨w.heap.size + 1, 0, none⟩ (.int .i64 0)) := ((B1.out.mono HZ.out).trans hkb.1).setCell (p := ⟨w.heap.size + 1, 0, none⟩) (by show base ≤ w.heap.size + 1; have := HZ.out; omega) _
   generalize w2.setCell ⟨w.heap.size + 1, 0, none⟩ (.int .i64 0) = w3 at *
   simp [Leaves, settle, results, Tryz.results110, go_sem, cz]
   exact ⟨by rw [hc], .inl ⟨hc, ⟨N', M3, hR'⟩, B3⟩⟩
 · go_enter_defers Tryz.func110, Tryz.ntmps110
   go_wp2_with (go_at_call 176; refine DC.out.mono ?_; intro e2 w2 hD
                obtain ⟨rfl, hF⟩ := hD.out1 hc
                have hK : Below ((w.alloc (.cells #[.int .u8 k, .int .u32 fid, .int .u32 dir, .string nm, .int .u32 tof, .string nm2, .int .u16 md, .string dt] 111)).alloc (.cells #[.int .i64 0] 28)).heap.size ((w.alloc (.cells #[.int .u8 k, .int .u32 fid, .int .u32 dir, .string nm, .int .u32 tof, .string nm2, .int .u16 md, .string dt] 111)).alloc (.cells #[.int .i64 0] 28)) w2 := by
                  rcases hF with ⟨h1, _, _, _⟩ | ⟨_, _, h4⟩
                  · exact absurd h1 hc
                  · exact h4
                have hE2 := (hK.block _ (lt_blkR HE1.out)).trans HE1.out
                have fe : w2.frozen? ⟨w.heap.size + 1, 0, none⟩ = false := by simp [World.frozen?, hE2]
                have ce : w2.cell? ⟨w.heap.size + 1, 0, none⟩ = some (.int .i64 0) := by rw [cell_of_row _ _ _ _ _ _ hE2]; rfl
                have HK := hid hK
                have HE2 := hid hE2
                clear hK hE2 hF hD)
   refine leaves_cons (f := 175) (args := #[.pointer (some ⟨w.heap.size + 1, 0, none⟩)]) (by simp) (by simp [go_sem]) ?_
   refine (tcatch_panicking ⟨w.heap.size + 1, 0, none⟩ c 0 [] w2 ce fe (lt_blkR HE2.out)).mono ?_
   have b3 := below_1 w2 (.cells #[.int .i64 c] 272)
   have hE3 := heap_setBox (W := w2.alloc (.cells #[.int .i64 c] 272)) (.int .i64 c) ((b3.block _ (lt_blkR HE2.out)).trans HE2.out)
   have rE := cell_box hE3
   have B3 := hid (((B1.out.trans (HK.out.mono B1.out.size)).trans (b3.mono (Nat.le_trans B1.out.size HK.out.size))).setCell (p := ⟨w.heap.size + 1, 0, none⟩) (by simp) (.int .i64 c))
   rintro e u' w'' ⟨rfl, rfl, hw⟩
   rw [hw]
   generalize (w2.alloc (.cells #[.int .i64 c] 272)).setCell ⟨w.heap.size + 1, 0, none⟩ (.int .i64 c) = w4 at *
   simp [Leaves, settle, results, Tryz.results110, go_sem, rE]
   exact ⟨rfl, .inr ⟨hc, B3.out⟩⟩
end Go.Proofs.YtfmghbennahlfaaGreat
