/-
  The package tree: unlink, rmdir.
-/
import Derived.Test.YtgbdplammniidaaGreatDoorFiAw
namespace Go.Proofs.YtgbdplammniidaaGreatDoor
open Go.RowKit Go.ChangeShapes Go.WideShapes Go.ChangeAt Go.Maps Go.Shelf
set_option linter.unusedVariables false
set_option linter.unusedSimpArgs false
set_option maxRecDepth 100000
theorem tab_dir {w : World} {base tb m : Nat} {N : Tab} {l : List Nd} (h : MT w base tb m N) (hR : Rel N l) (R : Rt l) {f : Int} {p : Addr} {x : Nd} (hN : N f = some (p, x)) (hk : x.k = 2) : KSrt x.ks ∧ x.ks.length ≤ 12 ∧ ∀ q ∈ x.ks, q.fid ≠ 0 := by
 have hl := hR.got hN
 have h1 := R.kok hl hk
 have h2 := (R.at hl).1
 exact ⟨h1.1, h2.2.2.1, fun q hq => (h1.2 q hq).2⟩
theorem tab_ent {w : World} {base tb m : Nat} {N : Tab} {l : List Nd} (h : MT w base tb m N) (hR : Rel N l) (R : Rt l) {f : Int} {p : Addr} {x : Nd} (hN : N f = some (p, x)) (hk : x.k = 2) {s : ByteArray} {q : Kd} (hq : kq x.ks s = some q) :
   ∃ p2 y, N q.fid = some (p2, y) ∧ q = ⟨s, q.fid⟩ ∧ q.fid ≠ 0 ∧ q.fid ≠ 1 ∧ q.fid ≠ f ∧ 1 ≤ y.ln ∧ y.fid = q.fid ∧ getF l q.fid = some y.er := by
 have hl := hR.got hN
 obtain ⟨hm, hn⟩ := kq_some hq
 obtain ⟨h1, y', h2⟩ := R.kids hl (q := q) hm
 obtain ⟨p2, y, h3, h4⟩ := hR.back h2
 have hfd := (h.nd f p x hN).2.2.2
 have hs := R.self (d := x.er) (by show getF l x.fid = _; rw [hfd]; exact hl) (q := q) hm
 have hln := R.links h2 h1
 rw [← h4] at hln
 refine ⟨p2, y, h3, ?_, (tab_dir h hR R hN hk).2.2 q hm, h1, fun e => hs (by show q.fid = x.fid; rw [hfd]; exact e), ?_, (h.nd _ p2 y h3).2.2.2, by rw [h4]; exact h2⟩
 · rw [← hn]
 · have h5 : y.ln = (cT q.fid l : Int) := hln.2.1
   have h6 := hln.1
   omega
theorem remove_e {l : List Nd} {o : Rec} {c : Int} (h : lookE (getF l o.dir) o.nm = c) (hc : c ≠ 0) : removeL l o = (c, []) := by
 unfold removeL
 rw [h, if_pos hc]
theorem remove_w {l : List Nd} {o : Rec} {d n : Nd} {g : Int} (h1 : getF l o.dir = some d) (h2 : d.k = 2) (h3 : kq d.ks o.nm = some ⟨o.nm, g⟩) (h0 : g ≠ 0) (h4 : getF l g = some n) :
   (o.k = 5 → n.k = 2 → removeL l o = (8, [])) ∧ (o.k = 6 → n.k ≠ 2 → removeL l o = (7, [])) ∧ (o.k = 6 → n.k = 2 → 0 < n.ks.length → removeL l o = (9, [])) := by
 obtain ⟨e1, e2⟩ := look_of h1 h2 h3 h0
 unfold removeL
 rw [e1, e2, h4]
 simp only [Option.getD_some]
 refine ⟨fun a b => ?_, fun a b => ?_, fun a b c => ?_⟩
 · rw [if_neg (by simp), if_pos ⟨a, b⟩]
 · rw [if_neg (by simp), if_neg (fun e => by have := e.1; omega), if_pos ⟨a, b⟩]
 · rw [if_neg (by simp), if_neg (fun e => by have := e.1; omega), if_neg (fun e => e.2 b), if_pos ⟨a, c⟩]
set_option maxHeartbeats 4000000 in
theorem tunlink_c {w : World} {base tb : Nat} {N : Tab} {l : List Nd} (o : Rec) (h : MT w base tb l.length N) (hR : Rel N l) (R : Rt l) (ho : o.Wf) (hk : o.k = 5) :
   Calls Tryz.prog 76 #[.map (some tb), o.opV] w (DoP w base tb (removeL l o)) := by
 obtain ⟨r, hr⟩ : ∃ r, r = removeL l o := ⟨_, rfl⟩
 rw [← hr]
 have HR := hid hr
 clear hr
 obtain ⟨k, fid, dir, nm, tof, nm2, md, dt, sn⟩ := o
 have b0 := below_1 w (.cells #[.int .u8 k, .int .u32 fid, .int .u32 dir, .string nm, .int .u32 tof, .string nm2, .int .u16 md, .string dt] 58)
 have h0 := heap_alloc_new w (.cells #[.int .u8 k, .int .u32 fid, .int .u32 dir, .string nm, .int .u32 tof, .string nm2, .int .u16 md, .string dt] 58)
 have MV := hid (h.later b0)
 have B0 := hid b0
 have H0 := hid h0
 have OPL : Hid (∀ W, Below (w.alloc (.cells #[.int .u8 k, .int .u32 fid, .int .u32 dir, .string nm, .int .u32 tof, .string nm2, .int .u16 md, .string dt] 58)).heap.size (w.alloc (.cells #[.int .u8 k, .int .u32 fid, .int .u32 dir, .string nm, .int .u32 tof, .string nm2, .int .u16 md, .string dt] 58)) W → W.heap[w.heap.size]? = some (.cells #[.int .u8 k, .int .u32 fid, .int .u32 dir, .string nm, .int .u32 tof, .string nm2, .int .u16 md, .string dt] 58)) := hid (fun W hW => (hW.block _ (lt_blkR h0)).trans h0)
 obtain ⟨_, hf, hdr, hto, hmd, _, hz1, hz2, hz3⟩ := ho
 simp only [Rec.opV] at *
 clear b0 h0
 have HZ := hid h.size
 have HK := hid hk
 clear hk
 cases hN : N dir with
 | none =>
   have RE : Hid (r = (5, [])) := hid (by rw [HR.out]; exact remove_e (lookE_n _ (hR.no hN)) (by decide))
   have LC := hid (tlook_n MV.out hdr.1 hdr.2 hN nm)
   clear h hR R HR HZ hf hdr hto hmd hz1 hz2 hz3 hN OPL MV
   go_enter Tryz.func76, Tryz.ntmps76
   go_upto_region 1 with fail
   generalize w.alloc (.cells #[.int .u8 k, .int .u32 fid, .int .u32 dir, .string nm, .int .u32 tof, .string nm2, .int .u16 md, .string dt] 58) = V at *
   have o2 : V.cell? ⟨w.heap.size, 2, none⟩ = some (.int .u32 dir) := cell_of_row2 H0.out 2 rfl
   have o3 : V.cell? ⟨w.heap.size, 3, none⟩ = some (.string nm) := cell_of_row2 H0.out 3 rfl
   go_wp2_with (go_at_call 100; refine LC.out.mono ?_; rintro _ w1 ⟨rfl, hb1⟩)
   exact ⟨rfl, DoP.err RE.out (by decide) (B0.out.trans (hb1.mono B0.out.size))⟩
 | some z =>
   obtain ⟨p, x⟩ := z
   have hl := hR.got hN
   by_cases k2 : x.k = 2
   · cases hq : kq x.ks nm with
     | none =>
       have RE : Hid (r = (5, [])) := hid (by rw [HR.out]; exact remove_e (lookE_q hl k2 hq) (by decide))
       have LC := hid (tlook_q MV.out hdr.1 hdr.2 hN k2 hq)
       clear h hR R HR HZ hf hdr hto hmd hz1 hz2 hz3 hN OPL MV hl hq k2
       go_enter Tryz.func76, Tryz.ntmps76
       go_upto_region 1 with fail
       generalize w.alloc (.cells #[.int .u8 k, .int .u32 fid, .int .u32 dir, .string nm, .int .u32 tof, .string nm2, .int .u16 md, .string dt] 58) = V at *
       have o2 : V.cell? ⟨w.heap.size, 2, none⟩ = some (.int .u32 dir) := cell_of_row2 H0.out 2 rfl
       have o3 : V.cell? ⟨w.heap.size, 3, none⟩ = some (.string nm) := cell_of_row2 H0.out 3 rfl
       go_wp2_with (go_at_call 100; refine LC.out.mono ?_; rintro _ w1 ⟨rfl, hb1⟩)
       exact ⟨rfl, DoP.err RE.out (by decide) (B0.out.trans (hb1.mono B0.out.size))⟩
     | some q =>
       obtain ⟨hks, hk12, hk0⟩ := tab_dir MV.out hR R hN k2
       obtain ⟨p2, y, hN2, eq, hq0, hq1, hqd, hyl, hyf, hly⟩ := tab_ent MV.out hR R hN k2 hq
       have LC := hid (tlook_s MV.out hdr.1 hdr.2 hN k2 hq hN2)
       have YC : Hid (∀ W, Below (w.alloc (.cells #[.int .u8 k, .int .u32 fid, .int .u32 dir, .string nm, .int .u32 tof, .string nm2, .int .u16 md, .string dt] 58)).heap.size (w.alloc (.cells #[.int .u8 k, .int .u32 fid, .int .u32 dir, .string nm, .int .u32 tof, .string nm2, .int .u16 md, .string dt] 58)) W → NdC W p2.block p2.off y) := hid (fun W hW => ((MV.out.later hW).nd _ p2 y hN2).2.1.ndc)
       have hp2 := (MV.out.nd _ p2 y hN2).2.1.1
       by_cases y2 : y.k = 2
       · have RE : Hid (r = (8, [])) := hid (by rw [HR.out]; exact (remove_w (o := ⟨k, fid, dir, nm, tof, nm2, md, dt, sn⟩) hl k2 (by rw [← eq]; exact hq) hq0 hly).1 HK.out y2)
         have y2B : (y.k == 2) = true := by rw [y2]; rfl
         obtain ⟨p2b, p2o, p2s⟩ := p2
         simp only at hp2 YC
         subst hp2
         clear h hR R HR HZ hf hdr hto hmd hz1 hz2 hz3 hN MV hl hq hN2 hks hk12 hk0 eq hq0 hq1 hqd hyl hyf hly
         go_enter Tryz.func76, Tryz.ntmps76
         go_upto_region 1 with fail
         generalize w.alloc (.cells #[.int .u8 k, .int .u32 fid, .int .u32 dir, .string nm, .int .u32 tof, .string nm2, .int .u16 md, .string dt] 58) = V at *
         have o2 : V.cell? ⟨w.heap.size, 2, none⟩ = some (.int .u32 dir) := cell_of_row2 H0.out 2 rfl
         have o3 : V.cell? ⟨w.heap.size, 3, none⟩ = some (.string nm) := cell_of_row2 H0.out 3 rfl
         go_wp2_with (first
           | (go_at_call 72; refine (trefuse_t _ _).mono ?_; rintro _ wz ⟨rfl, hwz⟩; have hwz2 := hwz.symm; clear hwz; subst hwz2)
           | (go_at_call 100; refine LC.out.mono ?_; rintro _ w1 ⟨rfl, hb1⟩; have c1 := (YC.out w1 hb1).all.2.1; have c5 := (YC.out w1 hb1).all.2.2.2.2.2; have u3 : w1.cell? ⟨w.heap.size, 3, none⟩ = some (.string nm) := cell_of_row2 (OPL.out w1 hb1) 3 rfl; have B1 := hid hb1; clear hb1))
         exact ⟨rfl, DoP.err RE.out (by decide) (B0.out.trans (B1.out.mono B0.out.size))⟩
       · have y2B : (y.k == 2) = false := beq_eq_false_iff_ne.2 y2
         have RE : Hid (r = (0, lessL (setL l (x.er.kids none 0 (entL x.ks nm 0))) y.er)) := hid (by
           rw [HR.out]
           exact remove_do (o := ⟨k, fid, dir, nm, tof, nm2, md, dt, sn⟩) (d := x.er) (n := y.er) hl k2 (by show kq x.ks nm = some ⟨nm, y.fid⟩; rw [hyf, ← eq]; exact hq) (by show getF l y.fid = _; rw [hyf]; exact hly) (by show y.fid ≠ 0; rw [hyf]; exact hq0) (by have h8 := HK.out; simp only; omega) ⟨fun e => by have h8 := HK.out; simp only at e h8; omega, fun e => absurd e y2⟩ (by have h7 := (R.at hly).1; rcases h7.2.2.2 with ⟨_, e⟩ | ⟨e, _⟩; exact e; exact absurd e y2))
         have hfd := (MV.out.nd dir p x hN).2.2.2
         have FIN : Hid (∀ a4 c4 w5, MT w5 base tb (lessM l.length y) (lessT (updT N dir p (x.kids a4 c4 (entL x.ks nm 0))) q.fid p2 y) → Keeps base w w5 → DoP w base tb r (.returned (.tuple #[])) w5) := hid (fun a4 c4 w5 hM hb => by
           have h1 : getF l (x.er.kids none 0 (entL x.ks nm 0)).fid = some x.er := by show getF l x.fid = _; rw [hfd]; exact hl
           have h2 : getF (setL l (x.er.kids none 0 (entL x.ks nm 0))) y.er.fid = some y.er := by
             rw [getF_set]
             show (if y.fid = x.fid then _ else getF l y.fid) = _
             rw [hyf, hfd, if_neg hqd]
             exact hly
           refine DoP.ok RE.out ?_ hM (Rel.less (hR.set (by rfl) (by show x.fid = dir; exact hfd)) hyf) hb
           rw [less_len (srt_set _ R.srt) h2, set_len R.srt h1]
           rfl)
         have SR : Hid (∀ W, Below (w.alloc (.cells #[.int .u8 k, .int .u32 fid, .int .u32 dir, .string nm, .int .u32 tof, .string nm2, .int .u16 md, .string dt] 58)).heap.size (w.alloc (.cells #[.int .u8 k, .int .u32 fid, .int .u32 dir, .string nm, .int .u32 tof, .string nm2, .int .u16 md, .string dt] 58)) W → Calls Tryz.prog 101 #[.pointer (some p), .string nm] W (EntP W base tb l.length N dir p x (entL x.ks nm 0))) := hid (fun W hW => tstrike_c (MV.out.later hW) hN hks (by omega))
         have RC : Hid (∀ a4 c4 w4, MT w4 base tb l.length (updT N dir p (x.kids a4 c4 (entL x.ks nm 0))) → Calls Tryz.prog 102 #[.map (some tb), .pointer (some p2)] w4 fun e w' => e = .returned (.tuple #[]) ∧ MT w' base tb (lessM l.length y) (lessT (updT N dir p (x.kids a4 c4 (entL x.ks nm 0))) q.fid p2 y) ∧ Below base w4 w' ∧ KeepT w4 w') := hid (fun a4 c4 w4 hM => trelease_c hM (by unfold updT; rw [if_neg hqd]; exact hN2) hyl)
         obtain ⟨p2b, p2o, p2s⟩ := p2
         simp only at hp2 YC
         subst hp2
         generalize entL x.ks nm 0 = L at *
         generalize lessM l.length y = mm at *
         generalize l.length = ll at *
         have BZ : Hid (base ≤ w.heap.size) := hid HZ.out
         clear h hR R HR HZ hf hdr hto hmd hz1 hz2 hz3 hN MV hl hq hN2 hks hk12 hk0 eq hq0 hq1 hqd hyl hyf hly RE hfd
         go_enter Tryz.func76, Tryz.ntmps76
         go_upto_region 1 with fail
         generalize w.alloc (.cells #[.int .u8 k, .int .u32 fid, .int .u32 dir, .string nm, .int .u32 tof, .string nm2, .int .u16 md, .string dt] 58) = V at *
         have o2 : V.cell? ⟨w.heap.size, 2, none⟩ = some (.int .u32 dir) := cell_of_row2 H0.out 2 rfl
         have o3 : V.cell? ⟨w.heap.size, 3, none⟩ = some (.string nm) := cell_of_row2 H0.out 3 rfl
         go_wp2_with (first
           | (go_at_call 102; refine R4.out.mono ?_; intro e5 w5 h5; obtain ⟨rfl, m5, b5, k5⟩ := h5; have F5 := hid (FIN.out a4 c4 w5 m5 (B4.out.trans ⟨b5, k5⟩)); clear m5 b5 k5)
           | (go_at_call 101; refine S1.out.mono ?_; intro e4 w4 h4; obtain ⟨rfl, ⟨a4, c4, m4⟩, b4, k4⟩ := h4; have R4 := hid (RC.out a4 c4 w4 m4); have B4 := hid ((Keeps.of B1.out BZ.out).trans ⟨b4, k4⟩); clear m4 b4 k4)
           | (go_at_call 72; refine (trefuse_f _ _).mono ?_; rintro _ wz ⟨rfl, hwz⟩; have hwz2 := hwz.symm; clear hwz; subst hwz2)
           | (go_at_call 100; refine LC.out.mono ?_; rintro _ w1 ⟨rfl, hb1⟩; have c1 := (YC.out w1 hb1).all.2.1; have c5 := (YC.out w1 hb1).all.2.2.2.2.2; have u3 : w1.cell? ⟨w.heap.size, 3, none⟩ = some (.string nm) := cell_of_row2 (OPL.out w1 hb1) 3 rfl; have S1 := hid (SR.out w1 hb1); have B1 := hid (B0.out.trans (hb1.mono B0.out.size)); clear hb1))
         exact body_end (by kernel_rfl) rfl F5.out
   · have RE : Hid (r = (7, [])) := hid (by rw [HR.out]; exact remove_e (lookE_k _ hl k2) (by decide))
     have LC := hid (tlook_k MV.out hdr.1 hdr.2 hN k2 nm)
     clear h hR R HR HZ hf hdr hto hmd hz1 hz2 hz3 hN OPL MV hl k2
     go_enter Tryz.func76, Tryz.ntmps76
     go_upto_region 1 with fail
     generalize w.alloc (.cells #[.int .u8 k, .int .u32 fid, .int .u32 dir, .string nm, .int .u32 tof, .string nm2, .int .u16 md, .string dt] 58) = V at *
     have o2 : V.cell? ⟨w.heap.size, 2, none⟩ = some (.int .u32 dir) := cell_of_row2 H0.out 2 rfl
     have o3 : V.cell? ⟨w.heap.size, 3, none⟩ = some (.string nm) := cell_of_row2 H0.out 3 rfl
     go_wp2_with (go_at_call 100; refine LC.out.mono ?_; rintro _ w1 ⟨rfl, hb1⟩)
     exact ⟨rfl, DoP.err RE.out (by decide) (B0.out.trans (hb1.mono B0.out.size))⟩
set_option maxHeartbeats 4000000 in
theorem trmdir_c {w : World} {base tb : Nat} {N : Tab} {l : List Nd} (o : Rec) (h : MT w base tb l.length N) (hR : Rel N l) (R : Rt l) (ho : o.Wf) (hk : o.k = 6) :
   Calls Tryz.prog 77 #[.map (some tb), o.opV] w (DoP w base tb (removeL l o)) := by
 obtain ⟨r, hr⟩ : ∃ r, r = removeL l o := ⟨_, rfl⟩
 rw [← hr]
 have HR := hid hr
 clear hr
 obtain ⟨k, fid, dir, nm, tof, nm2, md, dt, sn⟩ := o
 have b0 := below_1 w (.cells #[.int .u8 k, .int .u32 fid, .int .u32 dir, .string nm, .int .u32 tof, .string nm2, .int .u16 md, .string dt] 58)
 have h0 := heap_alloc_new w (.cells #[.int .u8 k, .int .u32 fid, .int .u32 dir, .string nm, .int .u32 tof, .string nm2, .int .u16 md, .string dt] 58)
 have MV := hid (h.later b0)
 have B0 := hid b0
 have H0 := hid h0
 have OPL : Hid (∀ W, Below (w.alloc (.cells #[.int .u8 k, .int .u32 fid, .int .u32 dir, .string nm, .int .u32 tof, .string nm2, .int .u16 md, .string dt] 58)).heap.size (w.alloc (.cells #[.int .u8 k, .int .u32 fid, .int .u32 dir, .string nm, .int .u32 tof, .string nm2, .int .u16 md, .string dt] 58)) W → W.heap[w.heap.size]? = some (.cells #[.int .u8 k, .int .u32 fid, .int .u32 dir, .string nm, .int .u32 tof, .string nm2, .int .u16 md, .string dt] 58)) := hid (fun W hW => (hW.block _ (lt_blkR h0)).trans h0)
 obtain ⟨_, hf, hdr, hto, hmd, _, hz1, hz2, hz3⟩ := ho
 simp only [Rec.opV] at *
 clear b0 h0
 have HZ := hid h.size
 have HK := hid hk
 clear hk
 cases hN : N dir with
 | none =>
   have RE : Hid (r = (5, [])) := hid (by rw [HR.out]; exact remove_e (lookE_n _ (hR.no hN)) (by decide))
   have LC := hid (tlook_n MV.out hdr.1 hdr.2 hN nm)
   clear h hR R HR HZ hf hdr hto hmd hz1 hz2 hz3 hN OPL MV
   go_enter Tryz.func77, Tryz.ntmps77
   go_upto_region 1 with fail
   generalize w.alloc (.cells #[.int .u8 k, .int .u32 fid, .int .u32 dir, .string nm, .int .u32 tof, .string nm2, .int .u16 md, .string dt] 58) = V at *
   have o2 : V.cell? ⟨w.heap.size, 2, none⟩ = some (.int .u32 dir) := cell_of_row2 H0.out 2 rfl
   have o3 : V.cell? ⟨w.heap.size, 3, none⟩ = some (.string nm) := cell_of_row2 H0.out 3 rfl
   go_wp2_with (go_at_call 100; refine LC.out.mono ?_; rintro _ w1 ⟨rfl, hb1⟩)
   exact ⟨rfl, DoP.err RE.out (by decide) (B0.out.trans (hb1.mono B0.out.size))⟩
 | some z =>
   obtain ⟨p, x⟩ := z
   have hl := hR.got hN
   by_cases k2 : x.k = 2
   · cases hq : kq x.ks nm with
     | none =>
       have RE : Hid (r = (5, [])) := hid (by rw [HR.out]; exact remove_e (lookE_q hl k2 hq) (by decide))
       have LC := hid (tlook_q MV.out hdr.1 hdr.2 hN k2 hq)
       clear h hR R HR HZ hf hdr hto hmd hz1 hz2 hz3 hN OPL MV hl hq k2
       go_enter Tryz.func77, Tryz.ntmps77
       go_upto_region 1 with fail
       generalize w.alloc (.cells #[.int .u8 k, .int .u32 fid, .int .u32 dir, .string nm, .int .u32 tof, .string nm2, .int .u16 md, .string dt] 58) = V at *
       have o2 : V.cell? ⟨w.heap.size, 2, none⟩ = some (.int .u32 dir) := cell_of_row2 H0.out 2 rfl
       have o3 : V.cell? ⟨w.heap.size, 3, none⟩ = some (.string nm) := cell_of_row2 H0.out 3 rfl
       go_wp2_with (go_at_call 100; refine LC.out.mono ?_; rintro _ w1 ⟨rfl, hb1⟩)
       exact ⟨rfl, DoP.err RE.out (by decide) (B0.out.trans (hb1.mono B0.out.size))⟩
     | some q =>
       obtain ⟨hks, hk12, hk0⟩ := tab_dir MV.out hR R hN k2
       obtain ⟨p2, y, hN2, eq, hq0, hq1, hqd, hyl, hyf, hly⟩ := tab_ent MV.out hR R hN k2 hq
       have LC := hid (tlook_s MV.out hdr.1 hdr.2 hN k2 hq hN2)
       have YC : Hid (∀ W, Below (w.alloc (.cells #[.int .u8 k, .int .u32 fid, .int .u32 dir, .string nm, .int .u32 tof, .string nm2, .int .u16 md, .string dt] 58)).heap.size (w.alloc (.cells #[.int .u8 k, .int .u32 fid, .int .u32 dir, .string nm, .int .u32 tof, .string nm2, .int .u16 md, .string dt] 58)) W → NdC W p2.block p2.off y) := hid (fun W hW => ((MV.out.later hW).nd _ p2 y hN2).2.1.ndc)
       have hp2 := (MV.out.nd _ p2 y hN2).2.1.1
       by_cases y2 : y.k = 2
       · have y2B : (y.k != 2) = false := by rw [y2]; rfl
         by_cases y3 : 0 < y.ks.length
         · have y3I : (0 : Int) < y.ks.length := by omega
           have RE : Hid (r = (9, [])) := hid (by rw [HR.out]; exact (remove_w (o := ⟨k, fid, dir, nm, tof, nm2, md, dt, sn⟩) hl k2 (by rw [← eq]; exact hq) hq0 hly).2.2 HK.out y2 y3)
           obtain ⟨p2b, p2o, p2s⟩ := p2
           simp only at hp2 YC
           subst hp2
           clear h hR R HR HZ hf hdr hto hmd hz1 hz2 hz3 hN MV hl hq hN2 hks hk12 hk0 eq hq0 hq1 hqd hyl hyf hly
           go_enter Tryz.func77, Tryz.ntmps77
           go_upto_region 1 with fail
           generalize w.alloc (.cells #[.int .u8 k, .int .u32 fid, .int .u32 dir, .string nm, .int .u32 tof, .string nm2, .int .u16 md, .string dt] 58) = V at *
           have o2 : V.cell? ⟨w.heap.size, 2, none⟩ = some (.int .u32 dir) := cell_of_row2 H0.out 2 rfl
           have o3 : V.cell? ⟨w.heap.size, 3, none⟩ = some (.string nm) := cell_of_row2 H0.out 3 rfl
           go_wp2_with (first
             | (go_at_call 72; have K2 := K1.out; refine (trefuse_t _ _).mono ?_; rintro _ wz ⟨rfl, hwz⟩; have hwz2 := hwz.symm; clear hwz; subst hwz2)
             | (go_at_call 72; refine (trefuse_f _ _).mono ?_; rintro _ wz ⟨rfl, hwz⟩; have hwz2 := hwz.symm; clear hwz; subst hwz2; have K1 := hid True.intro)
             | (go_at_call 100; refine LC.out.mono ?_; rintro _ w1 ⟨rfl, hb1⟩; have c1 := (YC.out w1 hb1).all.2.1; have c5 := (YC.out w1 hb1).all.2.2.2.2.2; have u3 : w1.cell? ⟨w.heap.size, 3, none⟩ = some (.string nm) := cell_of_row2 (OPL.out w1 hb1) 3 rfl; have B1 := hid hb1; clear hb1))
           exact ⟨rfl, DoP.err RE.out (by decide) (B0.out.trans (B1.out.mono B0.out.size))⟩
         · have y3I : ¬ (0 : Int) < y.ks.length := by omega
           have RE : Hid (r = (0, lessL (setL l (x.er.kids none 0 (entL x.ks nm 0))) y.er)) := hid (by
             rw [HR.out]
             exact remove_do (o := ⟨k, fid, dir, nm, tof, nm2, md, dt, sn⟩) (d := x.er) (n := y.er) hl k2 (by show kq x.ks nm = some ⟨nm, y.fid⟩; rw [hyf, ← eq]; exact hq) (by show getF l y.fid = _; rw [hyf]; exact hly) (by show y.fid ≠ 0; rw [hyf]; exact hq0) (by have h8 := HK.out; simp only; omega) ⟨fun _ => y2, fun _ => HK.out⟩ (List.eq_nil_of_length_eq_zero (by show y.ks.length = 0; omega)))
           have hfd := (MV.out.nd dir p x hN).2.2.2
           have FIN : Hid (∀ a4 c4 w5, MT w5 base tb (lessM l.length y) (lessT (updT N dir p (x.kids a4 c4 (entL x.ks nm 0))) q.fid p2 y) → Keeps base w w5 → DoP w base tb r (.returned (.tuple #[])) w5) := hid (fun a4 c4 w5 hM hb => by
             have h1 : getF l (x.er.kids none 0 (entL x.ks nm 0)).fid = some x.er := by show getF l x.fid = _; rw [hfd]; exact hl
             have h2 : getF (setL l (x.er.kids none 0 (entL x.ks nm 0))) y.er.fid = some y.er := by
               rw [getF_set]
               show (if y.fid = x.fid then _ else getF l y.fid) = _
               rw [hyf, hfd, if_neg hqd]
               exact hly
             refine DoP.ok RE.out ?_ hM (Rel.less (hR.set (by rfl) (by show x.fid = dir; exact hfd)) hyf) hb
             rw [less_len (srt_set _ R.srt) h2, set_len R.srt h1]
             rfl)
           have SR : Hid (∀ W, Below (w.alloc (.cells #[.int .u8 k, .int .u32 fid, .int .u32 dir, .string nm, .int .u32 tof, .string nm2, .int .u16 md, .string dt] 58)).heap.size (w.alloc (.cells #[.int .u8 k, .int .u32 fid, .int .u32 dir, .string nm, .int .u32 tof, .string nm2, .int .u16 md, .string dt] 58)) W → Calls Tryz.prog 101 #[.pointer (some p), .string nm] W (EntP W base tb l.length N dir p x (entL x.ks nm 0))) := hid (fun W hW => tstrike_c (MV.out.later hW) hN hks (by omega))
           have RC : Hid (∀ a4 c4 w4, MT w4 base tb l.length (updT N dir p (x.kids a4 c4 (entL x.ks nm 0))) → Calls Tryz.prog 102 #[.map (some tb), .pointer (some p2)] w4 fun e w' => e = .returned (.tuple #[]) ∧ MT w' base tb (lessM l.length y) (lessT (updT N dir p (x.kids a4 c4 (entL x.ks nm 0))) q.fid p2 y) ∧ Below base w4 w' ∧ KeepT w4 w') := hid (fun a4 c4 w4 hM => trelease_c hM (by unfold updT; rw [if_neg hqd]; exact hN2) hyl)
           obtain ⟨p2b, p2o, p2s⟩ := p2
           simp only at hp2 YC
           subst hp2
           generalize entL x.ks nm 0 = L at *
           generalize lessM l.length y = mm at *
           generalize l.length = ll at *
           have BZ : Hid (base ≤ w.heap.size) := hid HZ.out
           clear h hR R HR HZ hf hdr hto hmd hz1 hz2 hz3 hN MV hl hq hN2 hks hk12 hk0 eq hq0 hq1 hqd hyl hyf hly RE hfd
           go_enter Tryz.func77, Tryz.ntmps77
           go_upto_region 1 with fail
           generalize w.alloc (.cells #[.int .u8 k, .int .u32 fid, .int .u32 dir, .string nm, .int .u32 tof, .string nm2, .int .u16 md, .string dt] 58) = V at *
           have o2 : V.cell? ⟨w.heap.size, 2, none⟩ = some (.int .u32 dir) := cell_of_row2 H0.out 2 rfl
           have o3 : V.cell? ⟨w.heap.size, 3, none⟩ = some (.string nm) := cell_of_row2 H0.out 3 rfl
           go_wp2_with (first
             | (go_at_call 102; refine R4.out.mono ?_; intro e5 w5 h5; obtain ⟨rfl, m5, b5, k5⟩ := h5; have F5 := hid (FIN.out a4 c4 w5 m5 (B4.out.trans ⟨b5, k5⟩)); clear m5 b5 k5)
             | (go_at_call 101; refine S1.out.mono ?_; intro e4 w4 h4; obtain ⟨rfl, ⟨a4, c4, m4⟩, b4, k4⟩ := h4; have R4 := hid (RC.out a4 c4 w4 m4); have B4 := hid ((Keeps.of B1.out BZ.out).trans ⟨b4, k4⟩); clear m4 b4 k4)
             | (go_at_call 72; refine (trefuse_f _ _).mono ?_; rintro _ wz ⟨rfl, hwz⟩; have hwz2 := hwz.symm; clear hwz; subst hwz2)
             | (go_at_call 100; refine LC.out.mono ?_; rintro _ w1 ⟨rfl, hb1⟩; have c1 := (YC.out w1 hb1).all.2.1; have c5 := (YC.out w1 hb1).all.2.2.2.2.2; have u3 : w1.cell? ⟨w.heap.size, 3, none⟩ = some (.string nm) := cell_of_row2 (OPL.out w1 hb1) 3 rfl; have S1 := hid (SR.out w1 hb1); have B1 := hid (B0.out.trans (hb1.mono B0.out.size)); clear hb1))
           exact body_end (by kernel_rfl) rfl F5.out
       · have y2B : (y.k != 2) = true := by unfold bne; rw [beq_eq_false_iff_ne.2 y2]; rfl
         have RE : Hid (r = (7, [])) := hid (by rw [HR.out]; exact (remove_w (o := ⟨k, fid, dir, nm, tof, nm2, md, dt, sn⟩) hl k2 (by rw [← eq]; exact hq) hq0 hly).2.1 HK.out y2)
         obtain ⟨p2b, p2o, p2s⟩ := p2
         simp only at hp2 YC
         subst hp2
         clear h hR R HR HZ hf hdr hto hmd hz1 hz2 hz3 hN MV hl hq hN2 hks hk12 hk0 eq hq0 hq1 hqd hyl hyf hly
         go_enter Tryz.func77, Tryz.ntmps77
         go_upto_region 1 with fail
         generalize w.alloc (.cells #[.int .u8 k, .int .u32 fid, .int .u32 dir, .string nm, .int .u32 tof, .string nm2, .int .u16 md, .string dt] 58) = V at *
         have o2 : V.cell? ⟨w.heap.size, 2, none⟩ = some (.int .u32 dir) := cell_of_row2 H0.out 2 rfl
         have o3 : V.cell? ⟨w.heap.size, 3, none⟩ = some (.string nm) := cell_of_row2 H0.out 3 rfl
         go_wp2_with (first
           | (go_at_call 72; refine (trefuse_t _ _).mono ?_; rintro _ wz ⟨rfl, hwz⟩; have hwz2 := hwz.symm; clear hwz; subst hwz2)
           | (go_at_call 100; refine LC.out.mono ?_; rintro _ w1 ⟨rfl, hb1⟩; have c1 := (YC.out w1 hb1).all.2.1; have c5 := (YC.out w1 hb1).all.2.2.2.2.2; have u3 : w1.cell? ⟨w.heap.size, 3, none⟩ = some (.string nm) := cell_of_row2 (OPL.out w1 hb1) 3 rfl; have B1 := hid hb1; clear hb1))
         exact ⟨rfl, DoP.err RE.out (by decide) (B0.out.trans (B1.out.mono B0.out.size))⟩
   · have RE : Hid (r = (7, [])) := hid (by rw [HR.out]; exact remove_e (lookE_k _ hl k2) (by decide))
     have LC := hid (tlook_k MV.out hdr.1 hdr.2 hN k2 nm)
     clear h hR R HR HZ hf hdr hto hmd hz1 hz2 hz3 hN OPL MV hl k2
     go_enter Tryz.func77, Tryz.ntmps77
     go_upto_region 1 with fail
     generalize w.alloc (.cells #[.int .u8 k, .int .u32 fid, .int .u32 dir, .string nm, .int .u32 tof, .string nm2, .int .u16 md, .string dt] 58) = V at *
     have o2 : V.cell? ⟨w.heap.size, 2, none⟩ = some (.int .u32 dir) := cell_of_row2 H0.out 2 rfl
     have o3 : V.cell? ⟨w.heap.size, 3, none⟩ = some (.string nm) := cell_of_row2 H0.out 3 rfl
     go_wp2_with (go_at_call 100; refine LC.out.mono ?_; rintro _ w1 ⟨rfl, hb1⟩)
     exact ⟨rfl, DoP.err RE.out (by decide) (B0.out.trans (hb1.mono B0.out.size))⟩
end Go.Proofs.YtgbdplammniidaaGreatDoor
