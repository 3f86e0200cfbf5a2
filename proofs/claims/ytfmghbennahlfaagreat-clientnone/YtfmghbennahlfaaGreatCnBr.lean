/-
  
-/
import Derived.Test.YtfmghbennahlfaaGreatCnBp
import Derived.Test.YtfmghbennahlfaaGreatCnBq
import Derived.Test.YtfmghbennahlfaaGreatCnBn
import Derived.Test.YtfmghbennahlfaaGreatCnBo
import Derived.Test.YtfmghbennahlfaaGreatCnAr
import Derived.Test.YtfmghbennahlfaaGreatCnBd
import Derived.Test.YtfmghbennahlfaaGreatCnBf
namespace Go.Proofs.YtfmghbennahlfaaGreat
open Go.RowKit Go.ChangeShapes Go.WideShapes Go.ChangeAt Go.Maps Go.Shelf
set_option linter.unusedVariables false
set_option linter.unusedSimpArgs false
set_option maxRecDepth 100000
theorem tdo_2 {w : World} {base tb : Nat} {N : Tab} {l : List Nd} (o : Rec) (h : MT w base tb l.length N) (hR : Rel N l) (R : Rt l) (ho : o.Wf) (hr : rightF o = true) (hk : o.k = 2) :
   Calls Tryz.prog 176 #[.map (some tb), o.opV] w (DoP w base tb (ApplyL l o)) := by
 obtain ⟨⟨c, L⟩, hx⟩ : ∃ r, r = ApplyL l o := ⟨_, rfl⟩
 rw [← hx]
 have hz := h.size
 have hwf := ho
 have hdt := rightF_dt hr
 obtain ⟨_, hfi, hda⟩ := rightF_parts hr
 obtain ⟨k, fid, dir, nm, tof, nm2, md, dt, sn⟩ := o
 obtain ⟨_, hf, hdr, hto, hmd, _, hz1, hz2, hz3⟩ := ho
 simp only at hk hdt hfi hda hf hmd hz1 hz2
 have hk : k = 2 := hk
 subst hk
 refine do_2 fid dir nm tof nm2 md dt sn hz hz1 hz2 hr (hid (fun W hW => ?_))
 rw [hx, apply_1 R hr (by simp)]
 exact tcreate_c _ 2 (h.later hW) hR R hwf (hfi rfl) rfl (by show dt.size ≤ 1000; omega) (fun _ => dat_len hda rfl)
end Go.Proofs.YtfmghbennahlfaaGreat
namespace Go.Proofs.YtfmghbennahlfaaGreat
open Go.RowKit Go.ChangeShapes Go.WideShapes Go.ChangeAt
set_option linter.unusedVariables false
set_option linter.unusedSimpArgs false
set_option maxRecDepth 100000
def oM : Rec := ⟨2, 16777217, 1, ⟨#[97]⟩, 0, ⟨#[]⟩, 0, ⟨#[]⟩, 0⟩
def vwL (L : List Rec) : List Nd := (FoldL newL L).1
theorem oM_right : rightF oM = true := by decide +kernel
theorem oM_wf : oM.Wf := ⟨⟨by decide, by decide⟩, ⟨by decide, by decide⟩, ⟨by decide, by decide⟩, ⟨by decide, by decide⟩, ⟨by decide, by decide⟩, ⟨by decide, by decide⟩, by decide, by decide, by decide⟩
theorem oM_apply : (ApplyL newL oM).1 = 0 ∧ (ApplyL newL oM).2.length = 2 := by decide +kernel
theorem vw_0 : vwL [] = newL := by kernel_rfl
theorem vw_1 : vwL [oM] = (ApplyL newL oM).2 := by kernel_rfl
theorem new_right : rightD newL = true := by decide +kernel
theorem newRtM : Rt newL := rightD_rt.1 new_right
theorem rtM1 : Rt (ApplyL newL oM).2 := ApplyL_rt oM_wf oM_apply.1
def LogM (L : List Rec) : Prop := L = [] ∨ L = [oM]
theorem vw_rt {L : List Rec} (h : LogM L) : Rt (vwL L) := by
 rcases h with rfl | rfl
 · rw [vw_0]; exact newRtM
 · rw [vw_1]; exact rtM1
theorem vw_k3 {L : List Rec} (h : LogM L) : ∀ x ∈ vwL L, x.k = 2 := by
 rcases h with rfl | rfl
 · decide +kernel
 · decide +kernel
theorem vw_len {L : List Rec} (h : LogM L) : (vwL L).length = L.length + 1 := by
 rcases h with rfl | rfl
 · decide +kernel
 · decide +kernel
theorem vw_ks {L : List Rec} (h : LogM L) : ∀ x ∈ vwL L, x.ks.length ≤ 1 := by
 rcases h with rfl | rfl
 · decide +kernel
 · decide +kernel
theorem vw_getM : getF (vwL []) 16777217 = none := by decide +kernel
def FdOk (l : List Nd) : Prop := l.length ≤ 40 ∧ (∀ x ∈ l, x.ks.length ≤ 100000) ∧ (∀ x ∈ l, x.k ≠ 3) ∧ rightD l = true ∧ Leads l
theorem getF_erM (l : List Nd) (f : Int) : getF (l.map Nd.er) f = (getF l f).map Nd.er := getF_er l f
theorem plk_erM (o : Option Nd) (s : ByteArray) : plkI (o.map Nd.er) s = plkI o s ∧ plkE (o.map Nd.er) s = plkE o s := by
 cases o <;> exact ⟨rfl, rfl⟩
theorem leads_rt {l : List Nd} (h : Rt l) : Leads l := by
 intro f s he
 cases hx : getF l f with
 | none => rw [hx] at he; exact absurd he (by show ¬ (5 : Int) = 0; decide)
 | some x =>
   rw [hx] at he
   unfold plkE at he
   simp only at he
   unfold plkI
   simp only
   by_cases hk : x.k = 2
   · rw [if_pos hk] at he ⊢
     cases hq : kq x.ks s with
     | none => rw [hq] at he; exact absurd he (by decide)
     | some q =>
       have hm : q ∈ x.ks := by
         obtain ⟨i, _, h2, h3⟩ := en_some hq
         rw [← h3]
         exact getD_mem _ _ h2
       have := (h.kid x (getF_mem hx).1 q hm).2
       obtain ⟨y, hy⟩ := Option.isSome_iff_exists.1 this
       exact ⟨y, hy⟩
   · rw [if_neg hk] at he
     exact absurd he (by decide)
theorem fd_ok {l : List Nd} {L : List Rec} (h : l.map Nd.er = vwL L) (hL : LogM L) : FdOk l := by
 have hlen : l.length = L.length + 1 := by rw [← vw_len hL, ← h, List.length_map]
 have hl1 : L.length ≤ 1 := by rcases hL with rfl | rfl <;> decide
 refine ⟨by omega, fun x hx => ?_, fun x hx => ?_, ?_, fun f s he => ?_⟩
 · have := vw_ks hL x.er (by rw [← h]; exact List.mem_map.2 ⟨x, hx, rfl⟩)
   have e : x.er.ks = x.ks := rfl
   rw [e] at this
   omega
 · have := vw_k3 hL x.er (by rw [← h]; exact List.mem_map.2 ⟨x, hx, rfl⟩)
   have e : x.er.k = x.k := rfl
   rw [e] at this
   omega
 · rw [← rightD_er, h]
   exact rightD_rt.2 (vw_rt hL)
 · have LD := leads_rt (vw_rt hL)
   rw [← h] at LD
   have p := plk_erM (getF l f) s
   rw [← getF_erM] at p
   have := LD f s (by rw [p.2]; exact he)
   obtain ⟨y, hy⟩ := this
   rw [p.1, getF_erM] at hy
   cases hz : getF l (plkI (getF l f) s) with
   | none => rw [hz] at hy; exact absurd hy (by simp)
   | some z => exact ⟨z, rfl⟩
theorem split_root : Pa.splitF [47] = some [] := by decide +kernel
theorem dir_a : Pa.dirF [47, 97] = some [47] := by decide +kernel
theorem base_a : Pa.baseF [47, 97] = some [97] := by decide +kernel
theorem find1_c (a : Option Addr) (cap : Nat) (l : List Nd) (w : World) (h : IsNs w a l) (hf : FdOk l) :
   Calls Tryz.prog 26 #[.slice a l.length cap, .string ⟨#[47]⟩] w fun e w' => e = .returned (.tuple #[.int .u32 1, .int .i64 0]) ∧ Below w.heap.size w w' :=
 tFind_c a cap l ⟨#[47]⟩ [] w h hf.1 hf.2.1 hf.2.2.1 hf.2.2.2.1 hf.2.2.2.2 (by decide) split_root
theorem dirA_c (w : World) : Calls Tryz.prog 196 #[.string ⟨#[47, 97]⟩] w fun e w' => e = .returned (.tuple #[.string ⟨#[47]⟩, .int .i64 0]) ∧ Below w.heap.size w w' :=
 (dir_c ⟨#[47, 97]⟩ w (by unfold maxLen; decide)).mono (fun e w' h => text_yes dir_a h)
theorem baseA_c (w : World) : Calls Tryz.prog 197 #[.string ⟨#[47, 97]⟩] w fun e w' => e = .returned (.tuple #[.string ⟨#[97]⟩, .int .i64 0]) ∧ Below w.heap.size w w' :=
 (base_c ⟨#[47, 97]⟩ w (by unfold maxLen; decide)).mono (fun e w' h => text_yes base_a h)
theorem version_c {w : World} (b off s : Nat) (f : Int) (hv : w.cell? ⟨b, off + 1, none⟩ = some (.slice (some ⟨s, 0, none⟩) 1 1)) (hs : w.heap[s]? = some (.cells #[.int .u32 1, .int .u64 1, .int .u8 0] 200 (0, 0))) :
   Calls Tryz.prog 61 #[.pointer (some ⟨b, off, none⟩), .int .u32 f] w fun e w' => e = .returned (.tuple #[.int .u64 (if f = 1 then 1 else 0), .bool (decide (f = 1))]) ∧ Below w.heap.size w w' := by
 have s0 : w.cell? ⟨s, 0, none⟩ = some (.int .u32 1) := cell_of_row2 hs 0 rfl
 have s1 : w.cell? ⟨s, 1, none⟩ = some (.int .u64 1) := cell_of_row2 hs 1 rfl
 have s2 : w.cell? ⟨s, 2, none⟩ = some (.int .u8 0) := cell_of_row2 hs 2 rfl
 have hA := heap_alloc_new w (.cells #[.int .u32 1, .int .u64 1, .int .u8 0] 200)
 have a0 : (w.alloc (.cells #[.int .u32 1, .int .u64 1, .int .u8 0] 200)).cell? ⟨w.heap.size, 0, none⟩ = some (.int .u32 1) := cell_of_row2 hA 0 rfl
 have a1 : (w.alloc (.cells #[.int .u32 1, .int .u64 1, .int .u8 0] 200)).cell? ⟨w.heap.size, 1, none⟩ = some (.int .u64 1) := cell_of_row2 hA 1 rfl
 have b1 := below_1 w (.cells #[.int .u32 1, .int .u64 1, .int .u8 0] 200)
 clear hA hs
 by_cases hf : f = 1
 · subst hf
   go_enter Tryz.func61, Tryz.ntmps61
   go_wp2
   refine wp_loop_rounds 2 ?_
   rw [rounds_succ]
   go_wp2
   go_ret2
   exact ⟨rfl, b1⟩
 · have hn : ¬ (1 : Int) = f := fun e => hf e.symm
   have hb : ((1 : Int) == f) = false := by simp [hn]
   have hd : decide ((1 : Int) = f) = false := by simp [hn]
   have he : decide (f = 1) = false := by simp [hf]
   rw [if_neg hf, he]
   go_enter Tryz.func61, Tryz.ntmps61
   go_wp2
   refine wp_loop_rounds 2 ?_
   rw [rounds_succ]
   go_wp2
   rw [rounds_succ]
   go_wp2
   go_ret2
   exact ⟨rfl, b1⟩
end Go.Proofs.YtfmghbennahlfaaGreat
namespace Go.Proofs.YtfmghbennahlfaaGreat
open Go.RowKit Go.ChangeShapes Go.WideShapes Go.ChangeAt Go.Maps Go.Shelf
set_option linter.unusedVariables false
set_option linter.unusedSimpArgs false
set_option maxRecDepth 100000
def CaK (c : Ca) : Prop := c.m ≤ 12 ∧ 0 ≤ c.uses ∧ c.uses < 1000 ∧ c.k ≤ 8 ∧ c.most = 12
theorem CvM.sz {base : Nat} {w : World} {c : Cv} (h : CvM base w c) : base ≤ w.heap.size := h.2.2.2.2.2.2.1.2.2.2.2.2.2
theorem CvM.baseTri {base : Nat} {w : World} {c : Cv} (h : CvM base w c) : ∀ k, Tri c.cb c.cm c.ch k → base ≤ k := fun k e => by
 obtain ⟨_, _, _, _, _, _, ⟨k1, k2, k3, k4, k5, k6, k7⟩, _⟩ := h
 rcases e with rfl | rfl | rfl
 · exact k4
 · exact k5
 · exact k6
def softB : Value → Bool
 | .int .i64 _ => false
 | .int .u64 _ => false
 | .map _ => false
 | _ => true
def Cst (w w' : World) : Prop := ∀ p v, w.cell? p = some v → softB v = true → w'.cell? p = some v
theorem Cst.of {w w' : World} {cb cm ch : Nat} {ca : Ca} (h : IsCa w cb cm ch ca) (ho : Ou (Tri cb cm ch) w w') : Cst w w' := fun p v hc hs => by
 have hc0 := hc
 unfold World.cell? at hc ⊢
 cases hb : w.heap[p.block]? with
 | none => rw [hb] at hc; cases hc
 | some o =>
   rw [hb] at hc
   cases o with
   | cells c e f =>
     by_cases hT : Tri cb cm ch p.block
     · rcases hT with q | q | q
       · rw [q, h.1] at hb
         cases hb
         simp only at hc
         split at hc
         · cases hc
         · generalize p.off = po at hc
           rcases po with _ | _ | _ | _ | po
           · cases hc; cases hs
           · cases hc; cases hs
           · cases hc; cases hs
           · cases hc; cases hs
           · simp at hc
       · exact absurd q (map_ne hb h.2.1)
       · exact absurd q (map_ne hb h.2.2.1)
     · rw [ho.block _ (lt_blkR hb) hT, hb]
       exact hc
   | _ => cases hc
theorem IsB.cst {w w' : World} {a : Option Addr} {len : Nat} {zs : List Int} (h : IsB w a len zs) (hb : Cst w w') : IsB w' a len zs := by
 obtain ⟨h1, h2, h3, h4⟩ := h
 refine ⟨h1, h2, fun hp => ?_, h4⟩
 obtain ⟨b, off, e, hc⟩ := h3 hp
 exact ⟨b, off, e, fun i hi => hb _ _ (hc i hi) rfl⟩
theorem IsKs.cst {w w' : World} {a : Option Addr} {l : List Kd} (h : IsKs w a l) (hb : Cst w w') : IsKs w' a l := by
 obtain ⟨h1, h2, h3⟩ := h
 refine ⟨h1, h2, fun hp => ?_⟩
 obtain ⟨b, off, e, hc⟩ := h3 hp
 exact ⟨b, off, e, fun i hi => ⟨hb _ _ (hc i hi).1 rfl, hb _ _ (hc i hi).2 rfl⟩⟩
theorem nd_soft (x : Nd) : ∀ (j : Nat) (v : Value), x.cells[j]? = some v → softB v = true := fun j v hv => by
 rcases j with _ | _ | _ | _ | _ | _ | j
 all_goals first | (cases hv; rfl) | (simp [Nd.cells] at hv)
theorem Nd.Ok.cst {w w' : World} {x : Nd} (h : x.Ok w) (hb : Cst w w') : x.Ok w' := by
 obtain ⟨a, b, c, d, e, f⟩ := h
 exact ⟨a, b, c, d, e.cst hb, f.cst hb⟩
theorem IsNs.cst {w w' : World} {a : Option Addr} {l : List Nd} (h : IsNs w a l) (hb : Cst w w') : IsNs w' a l := by
 obtain ⟨h1, h2, h3⟩ := h
 refine ⟨h1, fun x hx => (h2 x hx).cst hb, fun hp => ?_⟩
 obtain ⟨b, off, e, hc⟩ := h3 hp
 exact ⟨b, off, e, fun i hi j v hv => hb _ _ (hc i hi j v hv) (nd_soft _ j v hv)⟩
theorem Tr.cst {w w' : World} {a : Option Addr} {l : List Nd} (h : Tr w a l) (hb : Cst w w') : Tr w' a l := ⟨h.1.cst hb, h.2⟩
def rchB (c : Cv) : Bool := c.ca.has 1 || c.lk
def rchC (c : Cv) : Cv := { c with ca := if rchB c = true then c.ca.useS 1 else c.ca }
def RchP (base : Nat) (c : Cv) (w : World) (e : Ending) (w' : World) : Prop := e = .returned (.int .i64 (if rchB c = true then 0 else 11)) ∧ CvM base w' (rchC c) ∧ Ou (Tri c.cb c.cm c.ch) w w'
theorem fetch_c {base : Nat} {w : World} {c : Cv} (h : CvM base w c) (hk : CaK c.ca) (hp : c.ca.has 1 = false → c.lk = true → (∀ i, c.ca.f i = none) ∧ c.ca.m = 0) :
   Calls Tryz.prog 62 #[.pointer (some ⟨c.p, 2, none⟩), .int .u32 1] w (RchP base c w) := by
 obtain ⟨q1, q2, q3, q4, q5⟩ := hk
 have TC := touch_c h.2.1 q2 (by omega) (by omega) (i := 1) (by decide) (by decide)
 have row := h.2.2.1
 have k2 : w.cell? ⟨c.p, 2, none⟩ = some (pA c.cb) := cell_of_row2 row 2 rfl
 have k3 : w.cell? ⟨c.p, 3, none⟩ = some (.bool c.lk) := cell_of_row2 row 3 rfl
 have CH := hid h
 unfold RchP rchC rchB
 by_cases hb : c.ca.has 1 = true
 · have e1 : c.ca.touchS 1 = c.ca.useS 1 := by unfold Ca.touchS; rw [if_pos hb]
   rw [e1, hb] at TC
   rw [hb]
   have TH := hid TC
   clear TC row h
   go_enter Tryz.func62, Tryz.ntmps62
   go_wp2_with (go_at_call 124; refine TH.out.mono ?_; rintro _ w1 ⟨rfl, hc1, ho1⟩; have C1 := hid (CH.out.cache ho1 hc1); have B1 := hid ho1; clear hc1 ho1)
   go_ret
   exact ⟨rfl, C1.out, B1.out⟩
 · replace hb : c.ca.has 1 = false := by simpa using hb
   have e1 : c.ca.touchS 1 = c.ca := by unfold Ca.touchS; rw [hb]; rfl
   rw [e1, hb] at TC
   rw [hb]
   have TH := hid TC
   clear TC row
   by_cases hl : c.lk = true
   · obtain ⟨p1, p2⟩ := hp hb hl
     have PC : Hid (∀ W, IsCa W c.cb c.cm c.ch c.ca → Calls Tryz.prog 85 #[pA c.cb, .int .u32 1] W fun e w' => e = .returned (.tuple #[.int .u32 0, .int .i64 0]) ∧ IsCa w' c.cb c.cm c.ch (c.ca.useS 1) ∧ Ou (Tri c.cb c.cm c.ch) W w') := hid (fun W hW => by
       have hr : RiseF c.ca.f [] := ⟨List.Pairwise.nil, fun x => by simp [p1 x]⟩
       have hroom : c.ca.room 1 = true := by unfold Ca.room; rw [hb, p2, q5]; decide
       have e2 : c.ca.putR 1 (c.ca.nextOf []) = (0, 0) := by unfold Ca.putR Ca.roomR; rw [if_neg (by decide), if_pos hroom]
       have e3 : c.ca.putS 1 (c.ca.nextOf []) = c.ca.useS 1 := by unfold Ca.putS Ca.roomR Ca.roomS; rw [if_neg (by decide), if_pos hroom, if_pos rfl, if_pos hroom]
       have := put_c hW q1 q2 (by omega) hr (i := 1) (by decide) (by decide)
       rw [e2, e3] at this
       exact this)
     have eb : (false || c.lk) = true := by rw [hl]; rfl
     rw [eb]
     rw [hl] at k3
     have HLK : Hid (some (Value.bool c.lk) = some (.bool true)) := hid (by rw [hl])
     clear h hl eb
     go_enter Tryz.func62, Tryz.ntmps62
     go_wp2_with (first
       | (go_at_call 85; refine (PC.out _ C1.out.2.1).mono ?_; rintro _ w2 ⟨rfl, hc2, ho2⟩; have C2 := hid (C1.out.cache ho2 hc2); have B2 := hid (B1.out.trans ho2); clear hc2 ho2)
       | (go_at_call 124; refine TH.out.mono ?_; rintro _ w1 ⟨rfl, hc1, ho1⟩; have C1 := hid (CH.out.cache ho1 hc1); have B1 := hid ho1; have row1 := C1.out.2.2.1; have m2 : w1.cell? ⟨c.p, 2, none⟩ = some (pA c.cb) := cell_of_row2 row1 2 rfl; have m3 : w1.cell? ⟨c.p, 3, none⟩ = some (.bool true) := (cell_of_row2 row1 3 rfl).trans HLK.out; clear hc1 ho1 row1))
     go_ret
     exact ⟨rfl, C2.out, B2.out⟩
   · replace hl : c.lk = false := by simpa using hl
     have eb : (false || c.lk) = false := by rw [hl]; rfl
     rw [eb]
     rw [hl] at k3
     have HLK : Hid (some (Value.bool c.lk) = some (.bool false)) := hid (by rw [hl])
     clear h hl eb
     go_enter Tryz.func62, Tryz.ntmps62
     go_wp2_with (go_at_call 124; refine TH.out.mono ?_; rintro _ w1 ⟨rfl, hc1, ho1⟩; have C1 := hid (CH.out.cache ho1 hc1); have B1 := hid ho1; have row1 := C1.out.2.2.1; have m3 : w1.cell? ⟨c.p, 3, none⟩ = some (.bool false) := (cell_of_row2 row1 3 rfl).trans HLK.out; clear hc1 ho1 row1)
     go_ret
     exact ⟨rfl, C1.out, B1.out⟩
theorem reach_c {base : Nat} {w : World} {c : Cv} (h : CvM base w c) (hk : CaK c.ca) (hp : c.ca.has 1 = false → c.lk = true → (∀ i, c.ca.f i = none) ∧ c.ca.m = 0) :
   Calls Tryz.prog 27 #[.pointer (some ⟨c.p, 0, none⟩), .int .u32 1] w (RchP base c w) := by
 have row := h.2.2.1
 have k5 : w.cell? ⟨c.p, 4 + 1, none⟩ = some (.slice (some ⟨c.s, 0, none⟩) 1 1) := cell_of_row2 row 5 rfl
 have VC : Hid (Calls Tryz.prog 61 #[.pointer (some ⟨c.p, 4, none⟩), .int .u32 1] w fun e w' => e = .returned (.tuple #[.int .u64 1, .bool true]) ∧ Below w.heap.size w w') := hid ((version_c c.p 4 c.s 1 k5 h.2.2.2.2.1).mono (fun e w' q => ⟨q.1, q.2⟩))
 have FC := hid (fun W (hW : CvM base W c) => fetch_c hW hk hp)
 have CH := hid h
 unfold RchP at *
 generalize (if rchB c = true then (0 : Int) else 11) = r at *
 clear row k5 h hp
 go_enter Tryz.func27, Tryz.ntmps27
 go_wp2_with (first
   | (go_at_call 62; refine (FC.out _ (CH.out.later B1.out)).mono ?_; rintro _ w2 ⟨rfl, hc2, hb2⟩; have C2 := hid hc2; have B2 := hid ((Ou.of B1.out).trans hb2); clear hc2 hb2)
   | (go_at_call 61; refine VC.out.mono ?_; rintro _ w1 ⟨rfl, hb1⟩; have B1 := hid hb1; clear hb1))
 go_ret
 exact ⟨rfl, C2.out, B2.out⟩
end Go.Proofs.YtfmghbennahlfaaGreat
