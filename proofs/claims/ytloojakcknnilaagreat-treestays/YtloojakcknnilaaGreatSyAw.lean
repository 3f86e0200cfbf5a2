/-
  The package tree: hard.
-/
import Derived.Test.YtloojakcknnilaaGreatSyAv
namespace Go.Proofs.YtloojakcknnilaaGreat
open Go.RowKit Go.ChangeShapes Go.WideShapes Go.ChangeAt Go.Maps Go.Shelf
set_option linter.unusedVariables false
set_option linter.unusedSimpArgs false
set_option maxRecDepth 100000
theorem hard_n {l : List Nd} {o : Rec} (h : getF l o.fid = none) : hardL l o = (5, []) := by
  unfold hardL
  rw [h]
  rfl
theorem hard_d {l : List Nd} {o : Rec} {n : Nd} (h : getF l o.fid = some n) (hk : n.k = 2) : hardL l o = (8, []) := by
  unfold hardL
  rw [h]
  simp [hk]
theorem hard_e {l : List Nd} {o : Rec} {n : Nd} {c : Int} (h : getF l o.fid = some n) (hk : n.k ≠ 2) (he : dirE (getF l o.dir) = c) (hc : c ≠ 0) : hardL l o = (c, []) := by
  unfold hardL
  rw [h, he]
  simp [hk, hc]
theorem hard_x {l : List Nd} {o : Rec} {n d : Nd} (h : getF l o.fid = some n) (hk : n.k ≠ 2) (hd : getF l o.dir = some d) (h2 : d.k = 2) :
    (kidI d.ks o.nm ≠ 0 → hardL l o = (6, [])) ∧ (kidI d.ks o.nm = 0 → 12 ≤ d.ks.length → hardL l o = (4, [])) := by
  obtain ⟨e1, e2⟩ := dir_of hd h2
  unfold hardL
  rw [h, e1, e2]
  refine ⟨fun a => ?_, fun a b => ?_⟩
  · simp [hk, a]
  · simp [hk, a, b]
theorem kid_of {l : List Kd} {s : ByteArray} {q : Kd} (hq : kq l s = some q) (h0 : ∀ q ∈ l, q.fid ≠ 0) : kidI l s ≠ 0 := by
  rw [kidI_kq, hq]
  exact h0 q (kq_some hq).1
theorem rt_links {l : List Nd} (R : Rt l) {f : Int} {x : Nd} (h : getF l f = some x) : x.ln ≤ 60000 := (rightD_tok (rightD_rt.2 R)).1.links x (getF_mem h).1
/-- One node set, then another one. -/
theorem Rel.set2 {N : Tab} {l : List Nd} (h : Rel N l) {f g : Int} {p q : Addr} {x y X Y : Nd} (hx : x.er = X) (hy : y.er = Y) (hf : X.fid = f) (hg : Y.fid = g) (hne : f ≠ g) : Rel (updT (updT N g q y) f p x) (setL (setL l X) Y) := fun t => by
  rw [getF_set, getF_set, hf, hg]
  unfold updT
  by_cases e : t = g
  · subst e
    rw [if_pos rfl, if_neg (fun e => hne e.symm), if_pos rfl, ← hy]
    rfl
  · rw [if_neg e, if_neg e]
    by_cases e2 : t = f
    · rw [if_pos e2, if_pos e2, ← hx]
      rfl
    · rw [if_neg e2, if_neg e2]
      exact h t
set_option maxHeartbeats 4000000 in
theorem thard_c {w : World} {base tb : Nat} {N : Tab} {l : List Nd} (o : Rec) (h : MT w base tb l.length N) (hR : Rel N l) (R : Rt l) (ho : o.Wf) (hf0 : o.fid ≠ 0) :
    Calls Tryz.prog 81 #[.map (some tb), o.opV] w (DoP w base tb (hardL l o)) := by
  obtain ⟨r, hr⟩ : ∃ r, r = hardL l o := ⟨_, rfl⟩
  rw [← hr]
  have HR := hid hr
  clear hr
  obtain ⟨k, fid, dir, nm, tof, nm2, md, dt, sn⟩ := o
  have b0 := below_1 w (.cells #[.int .u8 k, .int .u32 fid, .int .u32 dir, .string nm, .int .u32 tof, .string nm2, .int .u16 md, .string dt] 28)
  have h0 := heap_alloc_new w (.cells #[.int .u8 k, .int .u32 fid, .int .u32 dir, .string nm, .int .u32 tof, .string nm2, .int .u16 md, .string dt] 28)
  have MV := hid (h.later b0)
  have B0 := hid b0
  have H0 := hid h0
  have OPL : Hid (∀ W, Below (w.alloc (.cells #[.int .u8 k, .int .u32 fid, .int .u32 dir, .string nm, .int .u32 tof, .string nm2, .int .u16 md, .string dt] 28)).heap.size (w.alloc (.cells #[.int .u8 k, .int .u32 fid, .int .u32 dir, .string nm, .int .u32 tof, .string nm2, .int .u16 md, .string dt] 28)) W → W.heap[w.heap.size]? = some (.cells #[.int .u8 k, .int .u32 fid, .int .u32 dir, .string nm, .int .u32 tof, .string nm2, .int .u16 md, .string dt] 28)) := hid (fun W hW => (hW.block _ (lt_blkR h0)).trans h0)
  obtain ⟨_, hf, hdr, hto, hmd, _, hz1, hz2, hz3⟩ := ho
  simp only [Rec.opV] at *
  clear b0 h0
  have HZ := hid h.size
  have HF0 := hid hf0
  clear hf0
  cases hN2 : N fid with
  | none =>
    have RE : Hid (r = (5, [])) := hid (by rw [HR.out]; exact hard_n (hR.no hN2))
    have NC := hid (tnode_n MV.out hf.1 hf.2 hN2)
    clear h hR R HR HZ hf hdr hto hmd hz1 hz2 hz3 hN2 OPL MV
    go_enter Tryz.func81, Tryz.ntmps81
    go_upto_region 1 with fail
    generalize w.alloc (.cells #[.int .u8 k, .int .u32 fid, .int .u32 dir, .string nm, .int .u32 tof, .string nm2, .int .u16 md, .string dt] 28) = V at *
    have o1 : V.cell? ⟨w.heap.size, 1, none⟩ = some (.int .u32 fid) := cell_of_row2 H0.out 1 rfl
    go_wp2_with (go_at_call 86; refine NC.out.mono ?_; rintro _ w1 ⟨rfl, hw1⟩; have hw2 := hw1.symm; clear hw1; subst hw2)
    exact ⟨rfl, DoP.err RE.out (by decide) B0.out⟩
  | some z =>
    obtain ⟨p2, y⟩ := z
    have hly := hR.got hN2
    have NC := hid (tnode_s MV.out hf.1 hf.2 hN2)
    have hp2 := (MV.out.nd _ p2 y hN2).2.1.1
    have y1 := (MV.out.nd _ p2 y hN2).2.1.ndc.all.2.1
    by_cases y2 : y.k = 2
    · have RE : Hid (r = (8, [])) := hid (by rw [HR.out]; exact hard_d hly y2)
      obtain ⟨p2b, p2o, p2s⟩ := p2
      simp only at hp2 y1
      subst hp2
      rw [y2] at y1
      clear h hR R HR HZ hf hdr hto hmd hz1 hz2 hz3 hN2 OPL MV hly y2
      go_enter Tryz.func81, Tryz.ntmps81
      go_upto_region 1 with fail
      generalize w.alloc (.cells #[.int .u8 k, .int .u32 fid, .int .u32 dir, .string nm, .int .u32 tof, .string nm2, .int .u16 md, .string dt] 28) = V at *
      have o1 : V.cell? ⟨w.heap.size, 1, none⟩ = some (.int .u32 fid) := cell_of_row2 H0.out 1 rfl
      go_wp2_with (first
        | (go_at_call 79; refine (trefuse_t _ _).mono ?_; rintro _ wz ⟨rfl, hwz⟩; have hwz2 := hwz.symm; clear hwz; subst hwz2)
        | (go_at_call 86; refine NC.out.mono ?_; rintro _ w1 ⟨rfl, hw1⟩; have hw2 := hw1.symm; clear hw1; subst hw2))
      exact ⟨rfl, DoP.err RE.out (by decide) B0.out⟩
    · have y2B : (y.k == 2) = false := beq_eq_false_iff_ne.2 y2
      cases hN : N dir with
      | none =>
        have RE : Hid (r = (5, [])) := hid (by rw [HR.out]; exact hard_e hly y2 (dirE_n (hR.no hN)) (by decide))
        have DC := hid (tdir_n MV.out hdr.1 hdr.2 hN)
        obtain ⟨p2b, p2o, p2s⟩ := p2
        simp only at hp2 y1
        subst hp2
        generalize y.k = yk at *
        clear h hR R HR HZ hf hdr hto hmd hz1 hz2 hz3 hN2 hN OPL MV hly y2
        go_enter Tryz.func81, Tryz.ntmps81
        go_upto_region 1 with fail
        generalize w.alloc (.cells #[.int .u8 k, .int .u32 fid, .int .u32 dir, .string nm, .int .u32 tof, .string nm2, .int .u16 md, .string dt] 28) = V at *
        have o1 : V.cell? ⟨w.heap.size, 1, none⟩ = some (.int .u32 fid) := cell_of_row2 H0.out 1 rfl
        have o2 : V.cell? ⟨w.heap.size, 2, none⟩ = some (.int .u32 dir) := cell_of_row2 H0.out 2 rfl
        go_wp2_with (first
          | (go_at_call 100; refine DC.out.mono ?_; rintro _ w1 ⟨rfl, hw1⟩; have hw2 := hw1.symm; clear hw1; subst hw2)
          | (go_at_call 79; refine (trefuse_f _ _).mono ?_; rintro _ wz ⟨rfl, hwz⟩; have hwz2 := hwz.symm; clear hwz; subst hwz2)
          | (go_at_call 86; refine NC.out.mono ?_; rintro _ w1 ⟨rfl, hw1⟩; have hw2 := hw1.symm; clear hw1; subst hw2))
        exact ⟨rfl, DoP.err RE.out (by decide) B0.out⟩
      | some z =>
        obtain ⟨p, x⟩ := z
        have hl := hR.got hN
        by_cases k2 : x.k = 2
        · obtain ⟨hks, hk12, hk0⟩ := tab_dir MV.out hR R hN k2
          have DC := hid (tdir_s MV.out hdr.1 hdr.2 hN k2)
          have hne : dir ≠ fid := fun e => by rw [e, hN2] at hN; cases hN; exact y2 k2
          have XL : Hid (∀ W, Below (w.alloc (.cells #[.int .u8 k, .int .u32 fid, .int .u32 dir, .string nm, .int .u32 tof, .string nm2, .int .u16 md, .string dt] 28)).heap.size (w.alloc (.cells #[.int .u8 k, .int .u32 fid, .int .u32 dir, .string nm, .int .u32 tof, .string nm2, .int .u16 md, .string dt] 28)) W → NdC W p.block p.off x) := hid (fun W hW => ((MV.out.later hW).nd _ p x hN).2.1.ndc)
          have YL : Hid (∀ W, Below (w.alloc (.cells #[.int .u8 k, .int .u32 fid, .int .u32 dir, .string nm, .int .u32 tof, .string nm2, .int .u16 md, .string dt] 28)).heap.size (w.alloc (.cells #[.int .u8 k, .int .u32 fid, .int .u32 dir, .string nm, .int .u32 tof, .string nm2, .int .u16 md, .string dt] 28)) W → NdC W p2.block p2.off y) := hid (fun W hW => ((MV.out.later hW).nd _ p2 y hN2).2.1.ndc)
          have YF : Hid (∀ W, Below (w.alloc (.cells #[.int .u8 k, .int .u32 fid, .int .u32 dir, .string nm, .int .u32 tof, .string nm2, .int .u16 md, .string dt] 28)).heap.size (w.alloc (.cells #[.int .u8 k, .int .u32 fid, .int .u32 dir, .string nm, .int .u32 tof, .string nm2, .int .u16 md, .string dt] 28)) W → ∀ i, W.frozen? ⟨p2.block, i, none⟩ = false) := hid (fun W hW => ((MV.out.later hW).nd _ p2 y hN2).2.1.fz)
          have hp := (MV.out.nd _ p x hN).2.1.1
          have EC := hid (entryOf_c p.block p.off x nm (w.alloc (.cells #[.int .u8 k, .int .u32 fid, .int .u32 dir, .string nm, .int .u32 tof, .string nm2, .int .u16 md, .string dt] 28)) (XL.out _ (Below.refl _ _)).all.2.2.2.2.2 (MV.out.nd _ p x hN).2.2.1.r.ok.2.2.2.2.2 (by omega))
          have YT : Hid (∀ W, Below (w.alloc (.cells #[.int .u8 k, .int .u32 fid, .int .u32 dir, .string nm, .int .u32 tof, .string nm2, .int .u16 md, .string dt] 28)).heap.size (w.alloc (.cells #[.int .u8 k, .int .u32 fid, .int .u32 dir, .string nm, .int .u32 tof, .string nm2, .int .u16 md, .string dt] 28)) W → p2.block ≠ w.heap.size) := hid (fun W hW e => by
            obtain ⟨_, cs, hcs, _⟩ := (MV.out.nd _ p2 y hN2).2.1
            rw [e, H0.out] at hcs
            cases hcs)
          cases hq : kq x.ks nm with
          | some q =>
            have RE : Hid (r = (6, [])) := hid (by rw [HR.out]; exact (hard_x (n := y.er) (d := x.er) hly y2 hl k2).1 (kid_of hq hk0))
            obtain ⟨i, e1, _, _⟩ := en_some hq
            rw [e1] at EC
            have hiI : (0 : Int) ≤ i := by omega
            obtain ⟨p2b, p2o, p2s⟩ := p2
            obtain ⟨pb, po, ps⟩ := p
            simp only at hp2 y1 hp EC
            subst hp2 hp
            generalize y.k = yk at *
            clear h hR R HR HZ hf hdr hto hmd hz1 hz2 hz3 hN2 hN MV hly y2 hl k2 hq hks hk12 hk0 XL YL YF YT e1 hne OPL
            go_enter Tryz.func81, Tryz.ntmps81
            go_upto_region 1 with fail
            generalize w.alloc (.cells #[.int .u8 k, .int .u32 fid, .int .u32 dir, .string nm, .int .u32 tof, .string nm2, .int .u16 md, .string dt] 28) = V at *
            have o1 : V.cell? ⟨w.heap.size, 1, none⟩ = some (.int .u32 fid) := cell_of_row2 H0.out 1 rfl
            have o2 : V.cell? ⟨w.heap.size, 2, none⟩ = some (.int .u32 dir) := cell_of_row2 H0.out 2 rfl
            have o3 : V.cell? ⟨w.heap.size, 3, none⟩ = some (.string nm) := cell_of_row2 H0.out 3 rfl
            go_wp2_with (first
              | (go_at_call 79; have K2 := B1.out; refine (trefuse_t _ _).mono ?_; rintro _ wz ⟨rfl, hwz⟩; have hwz2 := hwz.symm; clear hwz; subst hwz2)
              | (go_at_call 55; refine EC.out.mono ?_; rintro _ w1 ⟨rfl, hb1⟩; have B1 := hid hb1; clear hb1)
              | (go_at_call 100; refine DC.out.mono ?_; rintro _ w1 ⟨rfl, hw1⟩; have hw2 := hw1.symm; clear hw1; subst hw2)
              | (go_at_call 79; refine (trefuse_f _ _).mono ?_; rintro _ wz ⟨rfl, hwz⟩; have hwz2 := hwz.symm; clear hwz; subst hwz2)
              | (go_at_call 86; refine NC.out.mono ?_; rintro _ w1 ⟨rfl, hw1⟩; have hw2 := hw1.symm; clear hw1; subst hw2))
            exact ⟨rfl, DoP.err RE.out (by decide) (B0.out.trans (B1.out.mono B0.out.size))⟩
          | none =>
            rw [en_none hq] at EC
            by_cases c12 : x.ks.length = 12
            · have RE : Hid (r = (4, [])) := hid (by rw [HR.out]; exact (hard_x (n := y.er) (d := x.er) hly y2 hl k2).2 (kidI_no hq) (by show 12 ≤ x.ks.length; omega))
              have cB : ((x.ks.length : Int) == 12) = true := by rw [c12]; rfl
              obtain ⟨p2b, p2o, p2s⟩ := p2
              obtain ⟨pb, po, ps⟩ := p
              simp only at hp2 y1 hp EC XL
              subst hp2 hp
              generalize y.k = yk at *
              clear h hR R HR HZ hf hdr hto hmd hz1 hz2 hz3 hN2 hN MV hly y2 hl k2 hq hks hk12 hk0 YL YF YT hne OPL c12
              go_enter Tryz.func81, Tryz.ntmps81
              go_upto_region 1 with fail
              generalize w.alloc (.cells #[.int .u8 k, .int .u32 fid, .int .u32 dir, .string nm, .int .u32 tof, .string nm2, .int .u16 md, .string dt] 28) = V at *
              have o1 : V.cell? ⟨w.heap.size, 1, none⟩ = some (.int .u32 fid) := cell_of_row2 H0.out 1 rfl
              have o2 : V.cell? ⟨w.heap.size, 2, none⟩ = some (.int .u32 dir) := cell_of_row2 H0.out 2 rfl
              have o3 : V.cell? ⟨w.heap.size, 3, none⟩ = some (.string nm) := cell_of_row2 H0.out 3 rfl
              go_wp2_with (first
                | (go_at_call 79; have K2 := K1.out; refine (trefuse_t _ _).mono ?_; rintro _ wz ⟨rfl, hwz⟩; have hwz2 := hwz.symm; clear hwz; subst hwz2)
                | (go_at_call 79; have K2 := B1.out; refine (trefuse_f _ _).mono ?_; rintro _ wz ⟨rfl, hwz⟩; have hwz2 := hwz.symm; clear hwz; subst hwz2; have K1 := hid True.intro)
                | (go_at_call 55; refine EC.out.mono ?_; rintro _ w1 ⟨rfl, hb1⟩; have x5 := (XL.out w1 hb1).all.2.2.2.2.2; have B1 := hid hb1; clear hb1)
                | (go_at_call 100; refine DC.out.mono ?_; rintro _ w1 ⟨rfl, hw1⟩; have hw2 := hw1.symm; clear hw1; subst hw2)
                | (go_at_call 79; refine (trefuse_f _ _).mono ?_; rintro _ wz ⟨rfl, hwz⟩; have hwz2 := hwz.symm; clear hwz; subst hwz2)
                | (go_at_call 86; refine NC.out.mono ?_; rintro _ w1 ⟨rfl, hw1⟩; have hw2 := hw1.symm; clear hw1; subst hw2))
              exact ⟨rfl, DoP.err RE.out (by decide) (B0.out.trans (B1.out.mono B0.out.size))⟩
            · have RE : Hid (r = (0, setL (setL l (x.er.kids none 0 (entL x.ks nm fid))) (y.er.lnk (y.ln + 1)))) := hid (by rw [HR.out]; exact hard_do (o := ⟨k, fid, dir, nm, tof, nm2, md, dt, sn⟩) hly y2 hl k2 hq (by show x.ks.length < 12; omega))
              have cB : ((x.ks.length : Int) == 12) = false := beq_eq_false_iff_ne.2 (by omega)
              have hfd := (MV.out.nd dir p x hN).2.2.2
              have hyf := (MV.out.nd fid p2 y hN2).2.2.2
              have hyb := (MV.out.nd fid p2 y hN2).1
              have hl6 := rt_links R hly
              have hl7 : 0 ≤ y.ln := (MV.out.nd fid p2 y hN2).2.2.1.1.2.2.2.1.1
              have hl8 : y.ln ≤ 60000 := hl6
              have FIN : Hid (∀ a4 c4 w5, MT w5 base tb l.length (updT (updT N fid p2 (y.lnk (y.ln + 1))) dir p (x.kids a4 c4 (entL x.ks nm fid))) → Keeps base w w5 → DoP w base tb r (.returned (.tuple #[])) w5) := hid (fun a4 c4 w5 hM hb => by
                have h1 : getF l (x.er.kids none 0 (entL x.ks nm fid)).fid = some x.er := by show getF l x.fid = _; rw [hfd]; exact hl
                have h2 : getF (setL l (x.er.kids none 0 (entL x.ks nm fid))) (y.er.lnk (y.ln + 1)).fid = some y.er := by
                  rw [getF_set]
                  show (if y.fid = x.fid then _ else getF l y.fid) = _
                  rw [hyf, hfd, if_neg (fun e => hne e.symm)]
                  exact hly
                refine DoP.ok RE.out ?_ hM (hR.set2 (by rfl) (by rfl) (by show x.fid = dir; exact hfd) (by show y.fid = fid; exact hyf) hne) hb
                rw [set_len (srt_set _ R.srt) h2, set_len R.srt h1])
              have SR : Hid (∀ W, Below (w.alloc (.cells #[.int .u8 k, .int .u32 fid, .int .u32 dir, .string nm, .int .u32 tof, .string nm2, .int .u16 md, .string dt] 28)).heap.size (w.alloc (.cells #[.int .u8 k, .int .u32 fid, .int .u32 dir, .string nm, .int .u32 tof, .string nm2, .int .u16 md, .string dt] 28)) W → Calls Tryz.prog 101 #[.pointer (some p), .string nm, .int .u32 fid] (W.setCell ⟨p2.block, p2.off + 3, none⟩ (.int .u16 (y.ln + 1))) (EntP (W.setCell ⟨p2.block, p2.off + 3, none⟩ (.int .u16 (y.ln + 1))) base tb l.length (updT N fid p2 (y.lnk (y.ln + 1))) dir p x (entL x.ks nm fid))) := hid (fun W hW => by
                have M1 := MV.out.later hW
                have M2 := M1.put hN2 (i := 3) (by omega) (x' := y.lnk (y.ln + 1)) (v := .int .u16 (y.ln + 1)) rfl hyf ((M1.nd fid p2 y hN2).2.2.1.lnk (by omega) (by omega)) rfl
                exact tenter_c M2 (by unfold updT; rw [if_neg hne]; exact hN) hks hq (by omega) hz1 HF0.out hf)
              have OP2 : Hid (∀ W, Below (w.alloc (.cells #[.int .u8 k, .int .u32 fid, .int .u32 dir, .string nm, .int .u32 tof, .string nm2, .int .u16 md, .string dt] 28)).heap.size (w.alloc (.cells #[.int .u8 k, .int .u32 fid, .int .u32 dir, .string nm, .int .u32 tof, .string nm2, .int .u16 md, .string dt] 28)) W → (W.setCell ⟨p2.block, p2.off + 3, none⟩ (.int .u16 (y.ln + 1))).heap[w.heap.size]? = some (.cells #[.int .u8 k, .int .u32 fid, .int .u32 dir, .string nm, .int .u32 tof, .string nm2, .int .u16 md, .string dt] 28)) := hid (fun W hW => (Below.heap_setCell W ⟨p2.block, p2.off + 3, none⟩ _ _ (fun e => YT.out W hW e.symm)).trans (OPL.out W hW))
              have hwr : IntKind.u16.wrap (y.ln + 1) = y.ln + 1 := by rw [IntKind.wrap_u16]; omega
              have KPS : Hid (∀ W, Below (w.alloc (.cells #[.int .u8 k, .int .u32 fid, .int .u32 dir, .string nm, .int .u32 tof, .string nm2, .int .u16 md, .string dt] 28)).heap.size (w.alloc (.cells #[.int .u8 k, .int .u32 fid, .int .u32 dir, .string nm, .int .u32 tof, .string nm2, .int .u16 md, .string dt] 28)) W → Keeps base W (W.setCell ⟨p2.block, p2.off + 3, none⟩ (.int .u16 (y.ln + 1)))) := hid (fun W hW => (MV.out.later hW).keeps hN2 _ _)
              have BZ : Hid (base ≤ w.heap.size) := hid HZ.out
              obtain ⟨p2b, p2o, p2s⟩ := p2
              obtain ⟨pb, po, ps⟩ := p
              simp only at hp2 y1 hp EC XL YL YF SR OP2 hyb FIN KPS
              subst hp2 hp
              generalize entL x.ks nm fid = L at *
              generalize y.k = yk at *
              generalize l.length = ll at *
              clear h hR R HR HZ hf hdr hto hmd hz1 hz2 hz3 hN2 hN MV hly y2 hl k2 hq hks hk12 hk0 YT hne c12 RE hfd hyf hl6
              go_enter Tryz.func81, Tryz.ntmps81
              go_upto_region 1 with fail
              generalize w.alloc (.cells #[.int .u8 k, .int .u32 fid, .int .u32 dir, .string nm, .int .u32 tof, .string nm2, .int .u16 md, .string dt] 28) = V at *
              have o1 : V.cell? ⟨w.heap.size, 1, none⟩ = some (.int .u32 fid) := cell_of_row2 H0.out 1 rfl
              have o2 : V.cell? ⟨w.heap.size, 2, none⟩ = some (.int .u32 dir) := cell_of_row2 H0.out 2 rfl
              have o3 : V.cell? ⟨w.heap.size, 3, none⟩ = some (.string nm) := cell_of_row2 H0.out 3 rfl
              go_wp2_with (first
                | (go_at_call 101; refine S1.out.mono ?_; intro e5 w5 h5; obtain ⟨rfl, ⟨a5, c5, m5⟩, b5, k5⟩ := h5; have F5 := hid (FIN.out a5 c5 w5 m5 ((Keeps.of (B0.out.trans (B1.out.mono B0.out.size)) BZ.out).trans ((KPS.out w1 B1.out).trans ⟨b5, k5⟩))); clear m5 b5 k5)
                | (go_at_call 55; refine EC.out.mono ?_; rintro _ w1 ⟨rfl, hb1⟩; have x5 := (XL.out w1 hb1).all.2.2.2.2.2; have n3 := (YL.out w1 hb1).all.2.2.2.1; have fz := YF.out w1 hb1; have v1 : (w1.setCell ⟨p2b, p2o + 3, none⟩ (.int .u16 (y.ln + 1))).cell? ⟨w.heap.size, 1, none⟩ = some (.int .u32 fid) := cell_of_row2 (OP2.out w1 hb1) 1 rfl; have v3 : (w1.setCell ⟨p2b, p2o + 3, none⟩ (.int .u16 (y.ln + 1))).cell? ⟨w.heap.size, 3, none⟩ = some (.string nm) := cell_of_row2 (OP2.out w1 hb1) 3 rfl; have S1 := hid (SR.out w1 hb1); have B1 := hid hb1; clear hb1)
                | (go_at_call 100; refine DC.out.mono ?_; rintro _ w1 ⟨rfl, hw1⟩; have hw2 := hw1.symm; clear hw1; subst hw2)
                | (go_at_call 79; refine (trefuse_f _ _).mono ?_; rintro _ wz ⟨rfl, hwz⟩; have hwz2 := hwz.symm; clear hwz; subst hwz2)
                | (go_at_call 86; refine NC.out.mono ?_; rintro _ w1 ⟨rfl, hw1⟩; have hw2 := hw1.symm; clear hw1; subst hw2))
              exact body_end (by kernel_rfl) rfl F5.out
        · have RE : Hid (r = (7, [])) := hid (by rw [HR.out]; exact hard_e hly y2 (dirE_k hl k2) (by decide))
          have DC := hid (tdir_k MV.out hdr.1 hdr.2 hN k2)
          obtain ⟨p2b, p2o, p2s⟩ := p2
          simp only at hp2 y1
          subst hp2
          generalize y.k = yk at *
          clear h hR R HR HZ hf hdr hto hmd hz1 hz2 hz3 hN2 hN OPL MV hly y2 hl k2
          go_enter Tryz.func81, Tryz.ntmps81
          go_upto_region 1 with fail
          generalize w.alloc (.cells #[.int .u8 k, .int .u32 fid, .int .u32 dir, .string nm, .int .u32 tof, .string nm2, .int .u16 md, .string dt] 28) = V at *
          have o1 : V.cell? ⟨w.heap.size, 1, none⟩ = some (.int .u32 fid) := cell_of_row2 H0.out 1 rfl
          have o2 : V.cell? ⟨w.heap.size, 2, none⟩ = some (.int .u32 dir) := cell_of_row2 H0.out 2 rfl
          go_wp2_with (first
            | (go_at_call 100; refine DC.out.mono ?_; rintro _ w1 ⟨rfl, hw1⟩; have hw2 := hw1.symm; clear hw1; subst hw2)
            | (go_at_call 79; refine (trefuse_f _ _).mono ?_; rintro _ wz ⟨rfl, hwz⟩; have hwz2 := hwz.symm; clear hwz; subst hwz2)
            | (go_at_call 86; refine NC.out.mono ?_; rintro _ w1 ⟨rfl, hw1⟩; have hw2 := hw1.symm; clear hw1; subst hw2))
          exact ⟨rfl, DoP.err RE.out (by decide) B0.out⟩
end Go.Proofs.YtloojakcknnilaaGreat
