/-
  The package tree: do, of the kinds that make a file or a directory, or store: what a server's statements want.
  A directory is made by a record of client 1: all that Ship asks, as one Bool of plain nodes.
  A server that is not opened: no journal.
  A server opened on a fresh disk: what it has.
-/
import Derived.Test.YtpolbbdaippclaaGreatNnBv
import Derived.Test.YtpolbbdaippclaaGreatNnBw
import Derived.Test.YtpolbbdaippclaaGreatNnBm
import Derived.Test.YtpolbbdaippclaaGreatNnBu
import Derived.Test.YtpolbbdaippclaaGreatNnAq
import Derived.Test.YtpolbbdaippclaaGreatNnBg
namespace Go.Proofs.YtpolbbdaippclaaGreat
open Go.RowKit Go.ChangeShapes Go.WideShapes Go.ChangeAt Go.Maps Go.Shelf
set_option linter.unusedVariables false
set_option linter.unusedSimpArgs false
set_option maxRecDepth 100000
theorem tdo_2 {w : World} {base tb : Nat} {N : Tab} {l : List Nd} (o : Rec) (h : MT w base tb l.length N) (hR : Rel N l) (R : Rt l) (ho : o.Wf) (hr : rightF o = true) (hk : o.k = 2) :
   Calls Tryz.prog 185 #[.map (some tb), o.opV] w (DoP w base tb (ApplyL l o)) := by
 obtain ⟨⟨c, L⟩, hx⟩ : ∃ r, r = ApplyL l o := ⟨_, rfl⟩
 rw [← hx]
 have hz := h.size
 have hwf := ho
 have hdt := rightF_dt hr
 obtain ⟨_, hfi, hda⟩ := rightF_parts hr
 obtain ⟨k, fid, dir, nm, tof, nm2, md, dt, sn⟩ := o
 obtain ⟨_, hf, hdr, hto, hmd, _, hz1, hz2, hz3⟩ := ho
 simp only at hk hdt hfi hda hf hmd hz1 hz2
 have hk : k = 2 := hk
 subst hk
 refine do_2 fid dir nm tof nm2 md dt sn hz hz1 hz2 hr (hid (fun W hW => ?_))
 rw [hx, apply_1 R hr (by simp)]
 exact tcreate_c _ 2 (h.later hW) hR R hwf (hfi rfl) rfl (by show dt.size ≤ 1000; omega) (fun _ => dat_len hda rfl)
def wfK (x : Kd) : Bool := decide (x.nm.size ≤ 255 ∧ 0 ≤ x.fid ∧ x.fid < 4294967296)
def wfB (x : Nd) : Bool := decide (0 ≤ x.fid ∧ x.fid < 4294967296) && decide (0 ≤ x.k ∧ x.k < 256) && decide (0 ≤ x.md ∧ x.md < 65536) && decide (0 ≤ x.ln ∧ x.ln < 65536) && x.zs.all (fun z => decide (0 ≤ z ∧ z ≤ 255)) && decide (x.zs.length ≤ 255) && x.ks.all wfK && decide (x.ks.length ≤ 255)
theorem wfB_wf {x : Nd} (h : wfB x = true) : x.Wf := by
 unfold wfB at h
 simp only [Bool.and_eq_true, decide_eq_true_eq, List.all_eq_true] at h
 obtain ⟨⟨⟨⟨⟨⟨⟨h1, h2⟩, h3⟩, h4⟩, h5⟩, h6⟩, h7⟩, h8⟩ := h
 refine ⟨h1, h2, h3, h4, fun i => ?_, h6, fun q hq => ?_, h8⟩
 · by_cases hi : i < x.zs.length
   · rw [List.getD, List.getElem?_eq_getElem hi]
     exact h5 _ (List.getElem_mem _)
   · simp [List.getD, List.getElem?_eq_none (by omega : x.zs.length ≤ i)]
 · have := h7 q hq
   unfold wfK at this
   have h9 := of_decide_eq_true this
   exact ⟨⟨Nat.le_trans h9.1 (by unfold maxLen; omega), h9.2⟩, h9.1⟩
def stepS (l0 : List Nd) (ss : List St) (ver : Int) (o : Rec) : List St := stampsS l0 ss (ApplyL l0 o).2 o.fid (ver + 1) 1
def stepB (l0 : List Nd) (ss : List St) (ver d0 : Int) (o : Rec) (n : Nat) : Bool :=
 ((ApplyL l0 o).1 == 0) && decide (0 < (ApplyL l0 o).2.length) && decide ((ApplyL l0 o).2.length ≤ 12) && decide (0 ≤ plI (ApplyL l0 o).2 o.fid) && rightD (ApplyL l0 o).2 && stOk (ApplyL l0 o).2 (stepS l0 ss ver o) && (ApplyL l0 o).2.all wfB &&
 Jo.okG [snapB (ApplyL l0 o).2 (stepS l0 ss ver o), numB (ver + 1) (d0 + 1) 0 0 ++ [0]] && decide (Jo.needF [snapB (ApplyL l0 o).2 (stepS l0 ss ver o), numB (ver + 1) (d0 + 1) 0 0 ++ [0]] ≤ asz n)
set_option maxHeartbeats 2000000 in
theorem stale_no (o : Rec) (hk : o.k = 1 ∨ o.k = 2) (b : Nat) (cl : Int) (w : World) :
   Calls Tryz.prog 107 #[.pointer (some ⟨b, 0, none⟩), .int .u8 cl, o.recV] w fun e w' => e = .returned (.bool false) ∧ Below w.heap.size w w' := by
 have B0 := hid (below_1 w (.cells #[.int .u8 o.k, .int .u32 o.fid, .int .u32 o.dir, .string o.nm, .int .u32 o.to, .string o.nm2, .int .u16 o.md, .string o.dt, .int .u64 o.sn] 39))
 have h0 := heap_alloc_new w (.cells #[.int .u8 o.k, .int .u32 o.fid, .int .u32 o.dir, .string o.nm, .int .u32 o.to, .string o.nm2, .int .u16 o.md, .string o.dt, .int .u64 o.sn] 39)
 obtain ⟨k, fid, dir, nm, tof, nm2, md, dt, sn⟩ := o
 simp only [Rec.recV] at *
 have c0 : (w.alloc (.cells #[.int .u8 k, .int .u32 fid, .int .u32 dir, .string nm, .int .u32 tof, .string nm2, .int .u16 md, .string dt, .int .u64 sn] 39)).cell? ⟨w.heap.size, 0, none⟩ = some (.int .u8 k) := cell_of_row2 h0 0 rfl
 clear h0
 rcases hk with hk | hk
 · have hk : k = 1 := hk
   subst hk
   go_enter Tryz.func107, Tryz.ntmps107
   go_wp2
   go_ret
   exact ⟨rfl, B0.out⟩
 · have hk : k = 2 := hk
   subst hk
   go_enter Tryz.func107, Tryz.ntmps107
   go_wp2
   go_ret
   exact ⟨rfl, B0.out⟩
theorem sort12 : SortOK := fun g n cap f0 w h hinj hn hcap => sortF_c g n cap f0 w h hinj hn hcap
def SvI (base : Nat) (w : World) (p N : Nat) (t : Int) (l0 : List Nd) (ss : List St) (ver d0 : Int) : Prop :=
 ∃ (j : Nat) (a b : Addr) (ca cb : Nat) (l : List Nd), JH base w j N t ∧ base ≤ p ∧ w.heap[p]? = some (.cells #[pB j, .slice (some a) l.length ca, .slice (some b) ss.length cb, .int .u64 ver, .int .u32 d0, .int .u32 0, .int .u32 0, .slice none 0 0] 79 (0, 0)) ∧ Tr w (some a) l ∧ l.map Nd.er = l0 ∧ IsSs w (some b) ss ∧ ss.length = l.length ∧ 0 < l.length ∧ l.length ≤ 12
theorem SvI.later {base : Nat} {w w' : World} {p N : Nat} {t : Int} {l0 : List Nd} {ss : List St} {ver d0 : Int} (h : SvI base w p N t l0 ss ver d0) (hb : Below w.heap.size w w') : SvI base w' p N t l0 ss ver d0 := by
 obtain ⟨j, a, b, ca, cb, l, h1, h2, h3, h4, h5, h6, h7⟩ := h
 exact ⟨j, a, b, ca, cb, l, h1.later hb, h2, (hb.block _ (lt_blkR h3)).trans h3, h4.later hb, h5, h6.later hb, h7⟩
theorem ship_mk {base : Nat} {w : World} {p N : Nat} {t : Int} {l0 : List Nd} {ss : List St} {ver d0 : Int} (h : SvI base w p N t l0 ss ver d0) (lb cl : Nat) (o : Rec) (hlb : w.heap[lb]? = some (.cells #[.int .u8 o.k, .int .u32 o.fid, .int .u32 o.dir, .string o.nm, .int .u32 o.to, .string o.nm2, .int .u16 o.md, .string o.dt, .int .u64 o.sn] 39 (0, 0)))
   (hw : o.Wf) (hr : rightF o = true) (hk : o.k = 2) (hd : 0 ≤ d0 ∧ d0 < 4294967294) (hv : 0 ≤ ver ∧ ver + 1 < 18446744073709551616) (hs : stepB l0 ss ver d0 o N = true) (ht : t ≠ 4294967295) :
   Calls Tryz.prog 9 #[.pointer (some ⟨p, 0, none⟩), .int .u8 1, .int .u32 (d0 + 1), .slice (some ⟨lb, 0, none⟩) 1 cl] w fun e w' => ∃ ve, e = .returned (.tuple #[ve, .int .i64 0]) ∧ OwE w' w.heap.size ve [0] ∧ SvI base w' p N (t + 1) (ApplyL l0 o).2 (stepS l0 ss ver o) (ver + 1) (d0 + 1) ∧ KeepP p w w' ∧ Below base w w' := by
 obtain ⟨j, a, b, ca, cb, l, hJ, hbp, hrow, hT, he, hS, hll, hl0, hl12⟩ := h
 unfold stepB at hs
 simp only [Bool.and_eq_true, decide_eq_true_eq, beq_iff_eq] at hs
 obtain ⟨⟨⟨⟨⟨⟨⟨⟨s1, s2⟩, s3⟩, s4⟩, s5⟩, s6⟩, s7⟩, s8⟩, s9⟩ := hs
 have eA : ApplyL l0 o = (0, (ApplyL l0 o).2) := Prod.ext s1 rfl
 subst he
 have hx : ∀ lw : List Nd, lw.map Nd.er = (ApplyL (l.map Nd.er) o).2 → snapB lw (stampsS (l.map Nd.er) ss (ApplyL (l.map Nd.er) o).2 o.fid (ver + 1) 1) = snapB (ApplyL (l.map Nd.er) o).2 (stepS (l.map Nd.er) ss ver o) := fun lw e => by rw [← e, snapB_er, e]; rfl
 refine (ship1_new hJ hbp a b ca cb l ss ver d0 0 0 hrow hT hS hl0 (by omega) hll lb cl o hlb hw hr hd ⟨by omega, by omega⟩ ⟨by omega, by omega⟩ hv.1 hv.2 (ApplyL (l.map Nd.er) o).2 (fun W => changes_c o.k (.inr hk) W) (fun W bb => stale_no o (.inr hk) bb 1 W) (fun W a' c lw hlw hel => ?_) s2 (by omega) s4 (fun lw hlw => ⟨?_, ?_⟩) (fun lw hlw x hxm => ?_) (fun lw hlw => ?_) ht).mono ?_
 · have h1 := tApply_c sort12 a' c lw o W hlw (by have := congrArg List.length hel; simp only [List.length_map] at this; omega) hw (by rw [hel]; exact s3) (fun W' base tb N' hM hR hRt => tdo_2 o hM hR hRt hw hr hk)
   rw [hel, eA] at h1
   exact h1
 · rw [rightD_iff, ← rightD_er, hlw]; exact s5
 · rw [← stOk_er, hlw]; exact s6
 · have h1 := wfB_wf (List.all_eq_true.1 s7 x.er (by rw [← hlw]; exact List.mem_map.2 ⟨x, hxm, rfl⟩))
   exact h1
 · rw [hx lw hlw]
   exact ⟨s8, s9⟩
 · rintro e w' ⟨ve, g, cap, g2, cap2, L2, rfl, hoe, hj, hr', htr, hel, hst, hkp, hb⟩
   refine ⟨ve, rfl, hoe, ⟨j, _, _, cap, cap2, L2, hj, hbp, hr', htr, hel, hst, ?_, ?_, ?_⟩, hkp, hb⟩
   · show (stampsS _ _ _ _ _ _).length = _
     rw [stampsS_len, ← hel, List.length_map]
   · have := congrArg List.length hel; simp only [List.length_map] at this; omega
   · have := congrArg List.length hel; simp only [List.length_map] at this; omega
theorem ship_late {base : Nat} {w : World} {p N : Nat} {t : Int} {l0 : List Nd} {ss : List St} {ver d0 : Int} (h : SvI base w p N t l0 ss ver d0) (lb cl : Nat) (o : Rec) (hlb : w.heap[lb]? = some (.cells #[.int .u8 o.k, .int .u32 o.fid, .int .u32 o.dir, .string o.nm, .int .u32 o.to, .string o.nm2, .int .u16 o.md, .string o.dt, .int .u64 o.sn] 39 (0, 0)))
   (hw : o.Wf) (hr : rightF o = true) (num : Int) (h1 : 1 ≤ num) (h2 : num ≤ d0) (hd : d0 < 4294967295) :
   Calls Tryz.prog 9 #[.pointer (some ⟨p, 0, none⟩), .int .u8 1, .int .u32 num, .slice (some ⟨lb, 0, none⟩) 1 cl] w fun e w' => ∃ ve, e = .returned (.tuple #[ve, .int .i64 0]) ∧ OwE w' w.heap.size ve [0] ∧ Below w.heap.size w w' := by
 obtain ⟨j, a, b, ca, cb, l, hJ, hbp, hrow, hT, he, hS, hll, hl0, hl12⟩ := h
 exact ship1_old a b ca cb l ss ver d0 0 0 hrow hT hS hl0 (by omega) hll lb cl o hlb hw hr num h1 h2 hd
set_option maxHeartbeats 2000000 in
theorem ssnap_c {base : Nat} {w : World} {p N : Nat} {t : Int} {l0 : List Nd} {ss : List St} {ver d0 : Int} (h : SvI base w p N t l0 ss ver d0) :
   Calls Tryz.prog 10 #[.pointer (some ⟨p, 0, none⟩)] w fun e w' => ∃ a c b n d, e = .returned (.agg #[.slice a l0.length c, .slice b n d]) ∧ Below w.heap.size w w' := by
 obtain ⟨j, a, b, ca, cb, l, hJ, hbp, hrow, hT, he, hS, hll, hl0, hl12⟩ := h
 have ln : Hid (l0.length = l.length) := hid (by rw [← he, List.length_map])
 have b0 := below_1 w (.cells #[.slice none 0 0, .slice none 0 0] 44)
 have g0 := hid (heap_alloc_new w (.cells #[.slice none 0 0, .slice none 0 0] 44))
 have B0 := hid b0
 have hr0 := (b0.block _ (lt_blkR hrow)).trans hrow
 have CS := hid (copySnap_c a b ca cb l ss _ (hT.later b0) (hS.later b0) (by omega) (by omega))
 clear hJ he hS hT hrow b0 hll hl0 hl12 hbp
 go_enter Tryz.func10, Tryz.ntmps10
 go_upto_region 1 with fail
 generalize (w.alloc (.cells #[.slice none 0 0, .slice none 0 0] 44)) = V at *
 have m1 : V.cell? ⟨p, 1, none⟩ = some (.slice (some a) l.length ca) := cell_of_row2 hr0 1 rfl
 have m2 : V.cell? ⟨p, 2, none⟩ = some (.slice (some b) ss.length cb) := cell_of_row2 hr0 2 rfl
 clear hr0
 go_wp2_with (go_at_call 23; refine CS.out.mono ?_; rintro _ w1 ⟨v1, u1, L, rfl, ho1, he1, hn1, ht1, hb1⟩; obtain ⟨va, vc, rfl⟩ := OwN.shape ho1; obtain ⟨ua, un, uc, rfl⟩ := own_sliceY ht1; have LE : Hid (L.length = l.length) := hid (by have := congrArg List.length he1; simpa using this); have B1 := hid (B0.out.trans (hb1.mono B0.out.size)); have R1 := (hb1.block _ (lt_blkR g0.out)).trans g0.out; have r0 : w1.cell? ⟨w.heap.size, 0, none⟩ = some (.slice none 0 0) := cell_of_row2 R1 0 rfl; have r1 : w1.cell? ⟨w.heap.size, 1, none⟩ = some (.slice none 0 0) := cell_of_row2 R1 1 rfl; have fz : ∀ i, w1.frozen? ⟨w.heap.size, i, none⟩ = false := fun i => (by simp [World.frozen?, R1]); clear ho1 he1 hn1 ht1 hb1)
 have Q9 := two_cells R1 (.slice va L.length vc) (.slice ua un uc)
 have B9 := hid ((B1.out.setCell (p := ⟨w.heap.size, 0, none⟩) (Nat.le_refl _) (.slice va L.length vc)).setCell (p := ⟨w.heap.size, 1, none⟩) (Nat.le_refl _) (.slice ua un uc))
 clear r0 r1 fz R1 m1 m2
 generalize ((w1.setCell ⟨w.heap.size, 0, none⟩ (.slice va L.length vc)).setCell ⟨w.heap.size, 1, none⟩ (.slice ua un uc)) = W9 at *
 have r0 : W9.cell? ⟨w.heap.size, 0, none⟩ = some (.slice va L.length vc) := cell_of_row2 Q9 0 rfl
 have r1 : W9.cell? ⟨w.heap.size, 1, none⟩ = some (.slice ua un uc) := cell_of_row2 Q9 1 rfl
 refine bodyPost_ret (v := .agg #[.slice va L.length vc, .slice ua un uc]) (by simp [results, Tryz.results10, go_sem, r0, r1]) rfl ⟨va, vc, ua, un, uc, by rw [ln.out, LE.out], B9.out⟩
set_option maxHeartbeats 2000000 in
theorem sopen_none {w : World} {x : Value} (hx : ∃ p, x = .pointer p) (OC : Calls Tryz.prog 18 #[x] w fun e w' => e = .returned (.pointer none) ∧ Below w.heap.size w w') :
   Calls Tryz.prog 7 #[x] w fun e w' => e = .returned (.pointer none) ∧ Below w.heap.size w w' := by
 obtain ⟨p0, rfl⟩ := hx
 have OH := hid OC
 clear OC
 go_enter Tryz.func7, Tryz.ntmps7
 go_wp2_with (go_at_call 18; refine OH.out.mono ?_; rintro _ w1 ⟨rfl, hb1⟩; have B1 := hid hb1; clear hb1)
 go_ret
 exact ⟨rfl, B1.out⟩
theorem field_snap (a : Option Addr) (n c : Nat) (b : Option Addr) (m d : Nat) (w : World) : (Instr.field 44 (.agg #[.slice a n c, .slice b m d]) 0).run Tryz.prog w = .ok (.slice a n c) w := by kernel_rfl
def firstSs : List St := [⟨1, 1, 0⟩]
theorem isSs_first {w : World} {s : Nat} (h : w.heap[s]? = some (.cells #[.int .u32 1, .int .u64 1, .int .u8 0] 47 (0, 0))) : IsSs w (some ⟨s, 0, none⟩) firstSs := by
 refine ⟨by show 1 ≤ maxLen; unfold maxLen; omega, fun x hx => ?_, fun _ => ⟨s, 0, rfl, fun i hi => ?_⟩⟩
 · rw [firstSs, List.mem_singleton] at hx
   subst hx
   exact ⟨⟨by decide, by decide⟩, ⟨by decide, by decide⟩, by decide, by decide⟩
 · have e : i = 0 := by simp [firstSs] at hi; omega
   subst e
   exact ⟨cell_of_row2 h 0 rfl, cell_of_row2 h 1 rfl, cell_of_row2 h 2 rfl⟩
theorem sopenI_c {w : World} {d b1 b2 N : Nat} (h : IsD w d b1 b2 N (fun _ => zsec) (fun _ => none)) (h8 : 8 ≤ N) :
   Calls Tryz.prog 7 #[pD d] w fun e w' => ∃ p, e = .returned (.pointer (some ⟨p, 0, none⟩)) ∧ SvI w.heap.size w' p N 0 newL firstSs 1 0 ∧ Below w.heap.size w w' := by
 have hN : N ≤ 2048 := h.2.2.2.1
 have Z : Held (vw (fun _ => zsec) (fun _ => none)) N 0 0 [] := Held.zero N h8 hN
 refine (sopen_c (x := pD d) ⟨_, rfl⟩ (fun W j => ∃ d b1 b2, IsJ W j d b1 b2 N (fun _ => zsec) (fun _ => none) ∧ w.heap.size ≤ b1 ∧ w.heap.size ≤ b2) (fun W W' j hj hb => ?_) ((open_c h h8).mono ?_) (fun W j hj => ?_)).mono ?_
 · obtain ⟨d', c1, c2, q1, q2, q3⟩ := hj
   exact ⟨d', c1, c2, q1.later hb, q2, q3⟩
 · rintro e w' ⟨j, d', p1, p2, rfl, hJ, hl, hb⟩
   exact ⟨j, rfl, ⟨d', p1, p2, hJ, hl.2.2.1, hl.2.2.2⟩, hb⟩
 · obtain ⟨d', c1, c2, q1, q2, q3⟩ := hj
   have hG := groups_all_c q1
   have hg : grps (vw (fun _ => zsec) (fun _ => none)) N = [] := Z.grps (fun i => q1.2.1.sec i)
   rw [hg] at hG
   exact hG
 · rintro e w' ⟨j, g, s, p, rfl, ⟨d', c1, c2, q1, q2, q3⟩, hp, hg, hs, hr, hgr, hsr, hb⟩
   refine ⟨p, rfl, ⟨j, ⟨g, 0, none⟩, ⟨s, 0, none⟩, 1, 1, newL, ⟨d', c1, c2, _, _, 0, [], q1, Z, q2, q3⟩, hp, hr, newTr hgr, rfl, isSs_first hsr, rfl, by decide, by decide⟩, hb⟩
end Go.Proofs.YtpolbbdaippclaaGreat
