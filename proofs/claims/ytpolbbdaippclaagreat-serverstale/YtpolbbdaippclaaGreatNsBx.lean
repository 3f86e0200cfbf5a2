/-
  
-/
import Derived.Test.YtpolbbdaippclaaGreatNsBv
import Derived.Test.YtpolbbdaippclaaGreatNsBw
import Derived.Test.YtpolbbdaippclaaGreatNsBm
import Derived.Test.YtpolbbdaippclaaGreatNsBu
import Derived.Test.YtpolbbdaippclaaGreatNsAp
import Derived.Test.YtpolbbdaippclaaGreatNsBe
namespace Go.Proofs.YtpolbbdaippclaaGreat
open Go.RowKit Go.ChangeShapes Go.WideShapes Go.ChangeAt Go.Maps Go.Shelf
set_option linter.unusedVariables false
set_option linter.unusedSimpArgs false
set_option maxRecDepth 100000
theorem tdo_2 {w : World} {base tb : Nat} {N : Tab} {l : List Nd} (o : Rec) (h : MT w base tb l.length N) (hR : Rel N l) (R : Rt l) (ho : o.Wf) (hr : rightF o = true) (hk : o.k = 2) :
   Calls Tryz.prog 185 #[.map (some tb), o.opV] w (DoP w base tb (ApplyL l o)) := by
 obtain ⟨⟨c, L⟩, hx⟩ : ∃ r, r = ApplyL l o := ⟨_, rfl⟩
 rw [← hx]
 have hz := h.size
 have hwf := ho
 have hdt := rightF_dt hr
 obtain ⟨_, hfi, hda⟩ := rightF_parts hr
 obtain ⟨k, fid, dir, nm, tof, nm2, md, dt, sn⟩ := o
 obtain ⟨_, hf, hdr, hto, hmd, _, hz1, hz2, hz3⟩ := ho
 simp only at hk hdt hfi hda hf hmd hz1 hz2
 have hk : k = 2 := hk
 subst hk
 refine do_2 fid dir nm tof nm2 md dt sn hz hz1 hz2 hr (hid (fun W hW => ?_))
 rw [hx, apply_1 R hr (by simp)]
 exact tcreate_c _ 2 (h.later hW) hR R hwf (hfi rfl) rfl (by show dt.size ≤ 1000; omega) (fun _ => dat_len hda rfl)
theorem tdo_1 {w : World} {base tb : Nat} {N : Tab} {l : List Nd} (o : Rec) (h : MT w base tb l.length N) (hR : Rel N l) (R : Rt l) (ho : o.Wf) (hr : rightF o = true) (hk : o.k = 1) :
   Calls Tryz.prog 185 #[.map (some tb), o.opV] w (DoP w base tb (ApplyL l o)) := by
 obtain ⟨⟨c, L⟩, hx⟩ : ∃ r, r = ApplyL l o := ⟨_, rfl⟩
 rw [← hx]
 have hz := h.size
 have hwf := ho
 have hdt := rightF_dt hr
 obtain ⟨_, hfi, hda⟩ := rightF_parts hr
 obtain ⟨k, fid, dir, nm, tof, nm2, md, dt, sn⟩ := o
 obtain ⟨_, hf, hdr, hto, hmd, _, hz1, hz2, hz3⟩ := ho
 simp only at hk hdt hfi hda hf hmd hz1 hz2
 have hk : k = 1 := hk
 subst hk
 refine do_1 fid dir nm tof nm2 md dt sn hz hz1 hz2 hr (hid (fun W hW => ?_))
 rw [hx, apply_1 R hr (by simp)]
 exact tcreate_c _ 1 (h.later hW) hR R hwf (hfi rfl) rfl (by show dt.size ≤ 1000; omega) (fun _ => dat_len hda rfl)
theorem tdo_8 {w : World} {base tb : Nat} {N : Tab} {l : List Nd} (o : Rec) (h : MT w base tb l.length N) (hR : Rel N l) (R : Rt l) (ho : o.Wf) (hr : rightF o = true) (hk : o.k = 8) :
   Calls Tryz.prog 185 #[.map (some tb), o.opV] w (DoP w base tb (ApplyL l o)) := by
 obtain ⟨⟨c, L⟩, hx⟩ : ∃ r, r = ApplyL l o := ⟨_, rfl⟩
 rw [← hx]
 have hz := h.size
 have hwf := ho
 have hdt := rightF_dt hr
 obtain ⟨_, hfi, hda⟩ := rightF_parts hr
 obtain ⟨k, fid, dir, nm, tof, nm2, md, dt, sn⟩ := o
 obtain ⟨_, hf, hdr, hto, hmd, _, hz1, hz2, hz3⟩ := ho
 simp only at hk hdt hfi hda hf hmd hz1 hz2
 have hk : k = 8 := hk
 subst hk
 refine do_8 fid dir nm tof nm2 md dt sn hz hz1 hz2 hr (hid (fun W hW => ?_))
 rw [hx, apply_8 R hr (by simp)]
 exact tstore_c _ (h.later hW) hR R hwf (by show (8 : Int) ≠ 9; decide) (by show dt.size ≤ 1000; omega)
def wfK (x : Kd) : Bool := decide (x.nm.size ≤ 255 ∧ 0 ≤ x.fid ∧ x.fid < 4294967296)
def wfB (x : Nd) : Bool := decide (0 ≤ x.fid ∧ x.fid < 4294967296) && decide (0 ≤ x.k ∧ x.k < 256) && decide (0 ≤ x.md ∧ x.md < 65536) && decide (0 ≤ x.ln ∧ x.ln < 65536) && x.zs.all (fun z => decide (0 ≤ z ∧ z ≤ 255)) && decide (x.zs.length ≤ 255) && x.ks.all wfK && decide (x.ks.length ≤ 255)
theorem wfB_wf {x : Nd} (h : wfB x = true) : x.Wf := by
 unfold wfB at h
 simp only [Bool.and_eq_true, decide_eq_true_eq, List.all_eq_true] at h
 obtain ⟨⟨⟨⟨⟨⟨⟨h1, h2⟩, h3⟩, h4⟩, h5⟩, h6⟩, h7⟩, h8⟩ := h
 refine ⟨h1, h2, h3, h4, fun i => ?_, h6, fun q hq => ?_, h8⟩
 · by_cases hi : i < x.zs.length
   · rw [List.getD, List.getElem?_eq_getElem hi]
     exact h5 _ (List.getElem_mem _)
   · simp [List.getD, List.getElem?_eq_none (by omega : x.zs.length ≤ i)]
 · have := h7 q hq
   unfold wfK at this
   have h9 := of_decide_eq_true this
   exact ⟨⟨Nat.le_trans h9.1 (by unfold maxLen; omega), h9.2⟩, h9.1⟩
def stepS (l0 : List Nd) (ss : List St) (ver : Int) (o : Rec) : List St := stampsS l0 ss (ApplyL l0 o).2 o.fid (ver + 1) 1
def stepB (l0 : List Nd) (ss : List St) (ver d0 : Int) (o : Rec) (n : Nat) : Bool :=
 ((ApplyL l0 o).1 == 0) && decide (0 < (ApplyL l0 o).2.length) && decide ((ApplyL l0 o).2.length ≤ 12) && decide (0 ≤ plI (ApplyL l0 o).2 o.fid) && rightD (ApplyL l0 o).2 && stOk (ApplyL l0 o).2 (stepS l0 ss ver o) && (ApplyL l0 o).2.all wfB &&
 Jo.okG [snapB (ApplyL l0 o).2 (stepS l0 ss ver o), numB (ver + 1) (d0 + 1) 0 0 ++ [0]] && decide (Jo.needF [snapB (ApplyL l0 o).2 (stepS l0 ss ver o), numB (ver + 1) (d0 + 1) 0 0 ++ [0]] ≤ asz n)
set_option maxHeartbeats 2000000 in
theorem stale_no (o : Rec) (hk : o.k = 1 ∨ o.k = 2) (b : Nat) (cl : Int) (w : World) :
   Calls Tryz.prog 107 #[.pointer (some ⟨b, 0, none⟩), .int .u8 cl, o.recV] w fun e w' => e = .returned (.bool false) ∧ Below w.heap.size w w' := by
 have B0 := hid (below_1 w (.cells #[.int .u8 o.k, .int .u32 o.fid, .int .u32 o.dir, .string o.nm, .int .u32 o.to, .string o.nm2, .int .u16 o.md, .string o.dt, .int .u64 o.sn] 39))
 have h0 := heap_alloc_new w (.cells #[.int .u8 o.k, .int .u32 o.fid, .int .u32 o.dir, .string o.nm, .int .u32 o.to, .string o.nm2, .int .u16 o.md, .string o.dt, .int .u64 o.sn] 39)
 obtain ⟨k, fid, dir, nm, tof, nm2, md, dt, sn⟩ := o
 simp only [Rec.recV] at *
 have c0 : (w.alloc (.cells #[.int .u8 k, .int .u32 fid, .int .u32 dir, .string nm, .int .u32 tof, .string nm2, .int .u16 md, .string dt, .int .u64 sn] 39)).cell? ⟨w.heap.size, 0, none⟩ = some (.int .u8 k) := cell_of_row2 h0 0 rfl
 clear h0
 rcases hk with hk | hk
 · have hk : k = 1 := hk
   subst hk
   go_enter Tryz.func107, Tryz.ntmps107
   go_wp2
   go_ret
   exact ⟨rfl, B0.out⟩
 · have hk : k = 2 := hk
   subst hk
   go_enter Tryz.func107, Tryz.ntmps107
   go_wp2
   go_ret
   exact ⟨rfl, B0.out⟩
theorem sort12 : SortOK := fun g n cap f0 w h hinj hn hcap => sortF_c g n cap f0 w h hinj hn hcap
def SvI (base : Nat) (w : World) (p N : Nat) (t : Int) (l0 : List Nd) (ss : List St) (ver d0 : Int) : Prop :=
 ∃ (j : Nat) (a b : Addr) (ca cb : Nat) (l : List Nd), JH base w j N t ∧ base ≤ p ∧ w.heap[p]? = some (.cells #[pB j, .slice (some a) l.length ca, .slice (some b) ss.length cb, .int .u64 ver, .int .u32 d0, .int .u32 0, .int .u32 0, .slice none 0 0] 79 (0, 0)) ∧ Tr w (some a) l ∧ l.map Nd.er = l0 ∧ IsSs w (some b) ss ∧ ss.length = l.length ∧ 0 < l.length ∧ l.length ≤ 12
theorem SvI.later {base : Nat} {w w' : World} {p N : Nat} {t : Int} {l0 : List Nd} {ss : List St} {ver d0 : Int} (h : SvI base w p N t l0 ss ver d0) (hb : Below w.heap.size w w') : SvI base w' p N t l0 ss ver d0 := by
 obtain ⟨j, a, b, ca, cb, l, h1, h2, h3, h4, h5, h6, h7⟩ := h
 exact ⟨j, a, b, ca, cb, l, h1.later hb, h2, (hb.block _ (lt_blkR h3)).trans h3, h4.later hb, h5, h6.later hb, h7⟩
theorem ship_late {base : Nat} {w : World} {p N : Nat} {t : Int} {l0 : List Nd} {ss : List St} {ver d0 : Int} (h : SvI base w p N t l0 ss ver d0) (lb cl : Nat) (o : Rec) (hlb : w.heap[lb]? = some (.cells #[.int .u8 o.k, .int .u32 o.fid, .int .u32 o.dir, .string o.nm, .int .u32 o.to, .string o.nm2, .int .u16 o.md, .string o.dt, .int .u64 o.sn] 39 (0, 0)))
   (hw : o.Wf) (hr : rightF o = true) (num : Int) (h1 : 1 ≤ num) (h2 : num ≤ d0) (hd : d0 < 4294967295) :
   Calls Tryz.prog 9 #[.pointer (some ⟨p, 0, none⟩), .int .u8 1, .int .u32 num, .slice (some ⟨lb, 0, none⟩) 1 cl] w fun e w' => ∃ ve, e = .returned (.tuple #[ve, .int .i64 0]) ∧ OwE w' w.heap.size ve [0] ∧ Below w.heap.size w w' := by
 obtain ⟨j, a, b, ca, cb, l, hJ, hbp, hrow, hT, he, hS, hll, hl0, hl12⟩ := h
 exact ship1_old a b ca cb l ss ver d0 0 0 hrow hT hS hl0 (by omega) hll lb cl o hlb hw hr num h1 h2 hd
set_option maxHeartbeats 2000000 in
theorem ssnap_c {base : Nat} {w : World} {p N : Nat} {t : Int} {l0 : List Nd} {ss : List St} {ver d0 : Int} (h : SvI base w p N t l0 ss ver d0) :
   Calls Tryz.prog 10 #[.pointer (some ⟨p, 0, none⟩)] w fun e w' => ∃ a c b n d, e = .returned (.agg #[.slice a l0.length c, .slice b n d]) ∧ Below w.heap.size w w' := by
 obtain ⟨j, a, b, ca, cb, l, hJ, hbp, hrow, hT, he, hS, hll, hl0, hl12⟩ := h
 have ln : Hid (l0.length = l.length) := hid (by rw [← he, List.length_map])
 have b0 := below_1 w (.cells #[.slice none 0 0, .slice none 0 0] 44)
 have g0 := hid (heap_alloc_new w (.cells #[.slice none 0 0, .slice none 0 0] 44))
 have B0 := hid b0
 have hr0 := (b0.block _ (lt_blkR hrow)).trans hrow
 have CS := hid (copySnap_c a b ca cb l ss _ (hT.later b0) (hS.later b0) (by omega) (by omega))
 clear hJ he hS hT hrow b0 hll hl0 hl12 hbp
 go_enter Tryz.func10, Tryz.ntmps10
 go_upto_region 1 with fail
 generalize (w.alloc (.cells #[.slice none 0 0, .slice none 0 0] 44)) = V at *
 have m1 : V.cell? ⟨p, 1, none⟩ = some (.slice (some a) l.length ca) := cell_of_row2 hr0 1 rfl
 have m2 : V.cell? ⟨p, 2, none⟩ = some (.slice (some b) ss.length cb) := cell_of_row2 hr0 2 rfl
 clear hr0
 go_wp2_with (go_at_call 23; refine CS.out.mono ?_; rintro _ w1 ⟨v1, u1, L, rfl, ho1, he1, hn1, ht1, hb1⟩; obtain ⟨va, vc, rfl⟩ := OwN.shape ho1; obtain ⟨ua, un, uc, rfl⟩ := own_sliceY ht1; have LE : Hid (L.length = l.length) := hid (by have := congrArg List.length he1; simpa using this); have B1 := hid (B0.out.trans (hb1.mono B0.out.size)); have R1 := (hb1.block _ (lt_blkR g0.out)).trans g0.out; have r0 : w1.cell? ⟨w.heap.size, 0, none⟩ = some (.slice none 0 0) := cell_of_row2 R1 0 rfl; have r1 : w1.cell? ⟨w.heap.size, 1, none⟩ = some (.slice none 0 0) := cell_of_row2 R1 1 rfl; have fz : ∀ i, w1.frozen? ⟨w.heap.size, i, none⟩ = false := fun i => (by simp [World.frozen?, R1]); clear ho1 he1 hn1 ht1 hb1)
 have Q9 := two_cells R1 (.slice va L.length vc) (.slice ua un uc)
 have B9 := hid ((B1.out.setCell (p := ⟨w.heap.size, 0, none⟩) (Nat.le_refl _) (.slice va L.length vc)).setCell (p := ⟨w.heap.size, 1, none⟩) (Nat.le_refl _) (.slice ua un uc))
 clear r0 r1 fz R1 m1 m2
 generalize ((w1.setCell ⟨w.heap.size, 0, none⟩ (.slice va L.length vc)).setCell ⟨w.heap.size, 1, none⟩ (.slice ua un uc)) = W9 at *
 have r0 : W9.cell? ⟨w.heap.size, 0, none⟩ = some (.slice va L.length vc) := cell_of_row2 Q9 0 rfl
 have r1 : W9.cell? ⟨w.heap.size, 1, none⟩ = some (.slice ua un uc) := cell_of_row2 Q9 1 rfl
 refine bodyPost_ret (v := .agg #[.slice va L.length vc, .slice ua un uc]) (by simp [results, Tryz.results10, go_sem, r0, r1]) rfl ⟨va, vc, ua, un, uc, by rw [ln.out, LE.out], B9.out⟩
theorem field_snap (a : Option Addr) (n c : Nat) (b : Option Addr) (m d : Nat) (w : World) : (Instr.field 44 (.agg #[.slice a n c, .slice b m d]) 0).run Tryz.prog w = .ok (.slice a n c) w := by kernel_rfl
def firstSs : List St := [⟨1, 1, 0⟩]
theorem isSs_first {w : World} {s : Nat} (h : w.heap[s]? = some (.cells #[.int .u32 1, .int .u64 1, .int .u8 0] 47 (0, 0))) : IsSs w (some ⟨s, 0, none⟩) firstSs := by
 refine ⟨by show 1 ≤ maxLen; unfold maxLen; omega, fun x hx => ?_, fun _ => ⟨s, 0, rfl, fun i hi => ?_⟩⟩
 · rw [firstSs, List.mem_singleton] at hx
   subst hx
   exact ⟨⟨by decide, by decide⟩, ⟨by decide, by decide⟩, by decide, by decide⟩
 · have e : i = 0 := by simp [firstSs] at hi; omega
   subst e
   exact ⟨cell_of_row2 h 0 rfl, cell_of_row2 h 1 rfl, cell_of_row2 h 2 rfl⟩
theorem sopenI_c {w : World} {d b1 b2 N : Nat} (h : IsD w d b1 b2 N (fun _ => zsec) (fun _ => none)) (h8 : 8 ≤ N) :
   Calls Tryz.prog 7 #[pD d] w fun e w' => ∃ p, e = .returned (.pointer (some ⟨p, 0, none⟩)) ∧ SvI w.heap.size w' p N 0 newL firstSs 1 0 ∧ Below w.heap.size w w' := by
 have hN : N ≤ 2048 := h.2.2.2.1
 have Z : Held (vw (fun _ => zsec) (fun _ => none)) N 0 0 [] := Held.zero N h8 hN
 refine (sopen_c (x := pD d) ⟨_, rfl⟩ (fun W j => ∃ d b1 b2, IsJ W j d b1 b2 N (fun _ => zsec) (fun _ => none) ∧ w.heap.size ≤ b1 ∧ w.heap.size ≤ b2) (fun W W' j hj hb => ?_) ((open_c h h8).mono ?_) (fun W j hj => ?_)).mono ?_
 · obtain ⟨d', c1, c2, q1, q2, q3⟩ := hj
   exact ⟨d', c1, c2, q1.later hb, q2, q3⟩
 · rintro e w' ⟨j, d', p1, p2, rfl, hJ, hl, hb⟩
   exact ⟨j, rfl, ⟨d', p1, p2, hJ, hl.2.2.1, hl.2.2.2⟩, hb⟩
 · obtain ⟨d', c1, c2, q1, q2, q3⟩ := hj
   have hG := groups_all_c q1
   have hg : grps (vw (fun _ => zsec) (fun _ => none)) N = [] := Z.grps (fun i => q1.2.1.sec i)
   rw [hg] at hG
   exact hG
 · rintro e w' ⟨j, g, s, p, rfl, ⟨d', c1, c2, q1, q2, q3⟩, hp, hg, hs, hr, hgr, hsr, hb⟩
   refine ⟨p, rfl, ⟨j, ⟨g, 0, none⟩, ⟨s, 0, none⟩, 1, 1, newL, ⟨d', c1, c2, _, _, 0, [], q1, Z, q2, q3⟩, hp, hr, newTr hgr, rfl, isSs_first hsr, rfl, by decide, by decide⟩, hb⟩
def zNm : ByteArray := ⟨#[102]⟩
def zRoot : Nd := ⟨1, 2, 0, 0, none, 0, [], none, 0, [⟨zNm, 16777217⟩]⟩
def zFile (zs : List Int) : Nd := ⟨16777217, 1, 0, 1, none, 0, zs, none, 0, []⟩
def zL (zs : List Int) : List Nd := [zRoot, zFile zs]
def zC : Rec := ⟨1, 16777217, 1, zNm, 0, ⟨#[]⟩, 0, ⟨#[]⟩, 0⟩
def zS (a : ByteArray) (sn : Int) : Rec := ⟨8, 16777217, 0, ⟨#[]⟩, 0, ⟨#[]⟩, 0, a, sn⟩
def zSt (v c : Int) : List St := [⟨1, 1, 0⟩, ⟨16777217, v, c⟩]
theorem zC_right : rightF zC = true := by decide +kernel
theorem zC_wf : zC.Wf := by
 refine ⟨?_, ?_, ?_, ?_, ?_, ?_, ?_, ?_, ?_⟩
 all_goals first | (show (_ : Int) ≤ _ ∧ _ < _; constructor <;> decide) | (show _ ≤ maxLen; decide)
theorem zS_right {a : ByteArray} (h : a.size ≤ 64) (sn : Int) : rightF (zS a sn) = true := by
 have e : datF true a = true := by unfold datF; simp [h]
 have q : rightF (zS a sn) = (!(!pOk 8 || (pFid 8 != ((16777217 : Int) != 0)) || (mkF 8 && (16777217 : Int) == 1)) && (entF (pEnt 8) 0 ⟨#[]⟩ && entF (pGoal 8) 0 ⟨#[]⟩ && (pMode 8 || (0 : Int) == 0) && datF true a)) := rfl
 rw [q, e]
 decide +kernel
theorem zS_wf {a : ByteArray} (h : a.size ≤ 64) {sn : Int} (hs : 0 ≤ sn ∧ sn < 18446744073709551616) : (zS a sn).Wf := by
 refine ⟨(by show (0 : Int) ≤ 8 ∧ (8 : Int) < 256; omega), (by show (0 : Int) ≤ 16777217 ∧ (16777217 : Int) < 4294967296; omega), (by show (0 : Int) ≤ 0 ∧ (0 : Int) < 4294967296; omega), (by show (0 : Int) ≤ 0 ∧ (0 : Int) < 4294967296; omega), (by show (0 : Int) ≤ 0 ∧ (0 : Int) < 65536; omega), hs, ?_, ?_, (by show a.size ≤ maxLen; unfold maxLen; omega)⟩
 · show (⟨#[]⟩ : ByteArray).size ≤ maxLen
   unfold maxLen; decide
 · show (⟨#[]⟩ : ByteArray).size ≤ maxLen
   unfold maxLen; decide
theorem zFile_ok {zs : List Int} (h : zs.length ≤ 64) : nodeOk (zFile zs) = true := by
 unfold nodeOk zFile
 have : decide (64 < zs.length) = false := decide_eq_false (by omega)
 simp [this]
theorem zL_right {zs : List Int} (h : zs.length ≤ 64) : rightD (zL zs) = true := by
 have h1 := zFile_ok h
 have q : rightD (zL zs) = (decide (2 ≤ 40) && (((true && ((nodeOk zRoot && decide ((0 : Int) < 1)) && dKid (zL zs) zRoot.ks 1)) && ((nodeOk (zFile zs) && decide ((1 : Int) < 16777217)) && true)) && (rtTo (zL zs) 2 && lkTo (zL zs) 2))) := rfl
 rw [q, h1]
 have e1 : dKid (zL zs) zRoot.ks 1 = true := by kernel_rfl
 have e2 : rtTo (zL zs) 2 = true := by kernel_rfl
 have e3 : lkTo (zL zs) 2 = true := by kernel_rfl
 rw [e1, e2, e3]
 decide +kernel
theorem zC_apply : ApplyL newL zC = (0, zL []) := by
 have h : (rightD newL && rightF zC) = true := by decide +kernel
 unfold ApplyL
 rw [if_pos h]
 show applyL newL zC = (0, zL [])
 kernel_rfl
theorem zS_apply {zs : List Int} (h : zs.length ≤ 64) {a : ByteArray} (ha : a.size ≤ 64) (sn : Int) : ApplyL (zL zs) (zS a sn) = (0, zL (txB a)) := by
 have h : (rightD (zL zs) && rightF (zS a sn)) = true := by rw [zL_right h, zS_right ha]; rfl
 unfold ApplyL
 rw [if_pos h]
 show applyL (zL zs) (zS a sn) = (0, zL (txB a))
 kernel_rfl
theorem zSt_0 : stampsS newL firstSs (zL []) 16777217 2 1 = zSt 2 1 := by kernel_rfl
theorem zSt_1 (zs zs' : List Int) (v c v' c' : Int) : stampsS (zL zs) (zSt v c) (zL zs') 16777217 v' c' = zSt v' c' := by kernel_rfl
theorem zSt_ok (zs : List Int) {v c : Int} (hc : c ≤ 3) : stOk (zL zs) (zSt v c) = true := by
 have q : stOk (zL zs) (zSt v c) = (true && ((true && (((1 : Int) == 1) && decide ((0 : Int) ≤ 3))) && (((16777217 : Int) == 16777217) && decide (c ≤ 3)))) := by kernel_rfl
 rw [q, decide_eq_true hc]
 decide +kernel
theorem zSt_wf {v c : Int} (hv : 0 ≤ v ∧ v < 18446744073709551616) (hc : 0 ≤ c ∧ c < 256) : ∀ s ∈ zSt v c, s.Wf := fun s hs => by
 unfold zSt at hs
 simp only [List.mem_cons, List.mem_nil_iff, or_false] at hs
 rcases hs with rfl | rfl
 · exact ⟨⟨by decide, by decide⟩, ⟨by decide, by decide⟩, by decide, by decide⟩
 · exact ⟨(by show (0 : Int) ≤ 16777217 ∧ (16777217 : Int) < 4294967296; omega), hv, hc⟩
theorem zL_wf {a : ByteArray} (h : a.size ≤ 64) : ∀ x ∈ zL (txB a), x.Wf := fun x hx => by
 unfold zL at hx
 simp only [List.mem_cons, List.mem_nil_iff, or_false] at hx
 rcases hx with rfl | rfl
 · exact wfB_wf (by decide +kernel)
 · exact ⟨(by show (0 : Int) ≤ 16777217 ∧ (16777217 : Int) < 4294967296; omega), (by show (0 : Int) ≤ 1 ∧ (1 : Int) < 256; omega), (by show (0 : Int) ≤ 0 ∧ (0 : Int) < 65536; omega), (by show (0 : Int) ≤ 1 ∧ (1 : Int) < 65536; omega), txB_in a, (by show (txB a).length ≤ 255; rw [txB_len]; omega), (fun q hq => absurd hq (List.not_mem_nil)), (by show ([] : List Kd).length ≤ 255; simp)⟩
theorem zL_wf0 : ∀ x ∈ zL [], x.Wf := fun x hx => by
 unfold zL at hx
 simp only [List.mem_cons, List.mem_nil_iff, or_false] at hx
 rcases hx with rfl | rfl
 · exact wfB_wf (by decide +kernel)
 · exact wfB_wf (by decide +kernel)
theorem snapZ_len (zs : List Int) (v c : Int) : (snapB (zL zs) (zSt v c)).length = 60 + zs.length := by
 unfold snapB measuresB stampsB zL zSt measB stampB nodeB kidsB kidB zRoot zFile
 simp [beF_len, txF_len, Fr.tx_size]
 have : zNm.size = 1 := rfl
 omega
theorem numB_len (v a b c : Int) : (numB v a b c).length = 20 := by unfold numB; simp [be4]
theorem keptZ {zs : List Int} (h : zs.length ≤ 64) (v c v2 e0 e1 e2 : Int) (vb : List Int) (hvb : vb.length ≤ 200) : Jo.okG [snapB (zL zs) (zSt v c), numB v2 e0 e1 e2 ++ vb] = true ∧ Jo.needF [snapB (zL zs) (zSt v c), numB v2 e0 e1 e2 ++ vb] ≤ asz 300 := by
 have ok : Jo.okG [snapB (zL zs) (zSt v c), numB v2 e0 e1 e2 ++ vb] = true := by
   unfold Jo.okG
   refine decide_eq_true ⟨by simp, by simp, fun p hp => ?_⟩
   simp only [List.mem_cons, List.mem_nil_iff, or_false] at hp
   rcases hp with rfl | rfl
   · rw [snapZ_len]; omega
   · rw [List.length_append, numB_len]; omega
 refine ⟨ok, ?_⟩
 unfold Jo.needF
 rw [if_pos ok]
 have : (Jo.loadF [snapB (zL zs) (zSt v c), numB v2 e0 e1 e2 ++ vb]).length ≤ 400 := by
   unfold Jo.loadF
   simp [snapZ_len, numB_len, Fr.le4]
   omega
 unfold Jo.secsOf Jo.many asz
 omega
end Go.Proofs.YtpolbbdaippclaaGreat
