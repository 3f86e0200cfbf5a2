/-
  The package tree: do, of the kinds that make a file or a directory, or store: what a server's statements want.
  The wish of both statements, plainly: a directory 'a' made in the root.
  What a client has at hand: fetch and reach of the root.
  What a client makes of the wish of a directory '/a': the operation.
-/
import Derived.Test.YtfmghbennahlfaaGreatUnBq
import Derived.Test.YtfmghbennahlfaaGreatUnBr
import Derived.Test.YtfmghbennahlfaaGreatUnBo
import Derived.Test.YtfmghbennahlfaaGreatUnBp
import Derived.Test.YtfmghbennahlfaaGreatUnAr
import Derived.Test.YtfmghbennahlfaaGreatUnBe
import Derived.Test.YtfmghbennahlfaaGreatUnBg
import Derived.Test.YtfmghbennahlfaaGreatUnAt
namespace Go.Proofs.YtfmghbennahlfaaGreat
open Go.RowKit Go.ChangeShapes Go.WideShapes Go.ChangeAt Go.Maps Go.Shelf
set_option linter.unusedVariables false
set_option linter.unusedSimpArgs false
set_option maxRecDepth 100000
theorem tdo_2 {w : World} {base tb : Nat} {N : Tab} {l : List Nd} (o : Rec) (h : MT w base tb l.length N) (hR : Rel N l) (R : Rt l) (ho : o.Wf) (hr : rightF o = true) (hk : o.k = 2) :
   Calls Tryz.prog 176 #[.map (some tb), o.opV] w (DoP w base tb (ApplyL l o)) := by
 obtain ⟨⟨c, L⟩, hx⟩ : ∃ r, r = ApplyL l o := ⟨_, rfl⟩
 rw [← hx]
 have hz := h.size
 have hwf := ho
 have hdt := rightF_dt hr
 obtain ⟨_, hfi, hda⟩ := rightF_parts hr
 obtain ⟨k, fid, dir, nm, tof, nm2, md, dt, sn⟩ := o
 obtain ⟨_, hf, hdr, hto, hmd, _, hz1, hz2, hz3⟩ := ho
 simp only at hk hdt hfi hda hf hmd hz1 hz2
 have hk : k = 2 := hk
 subst hk
 refine do_2 fid dir nm tof nm2 md dt sn hz hz1 hz2 hr (hid (fun W hW => ?_))
 rw [hx, apply_1 R hr (by simp)]
 exact tcreate_c _ 2 (h.later hW) hR R hwf (hfi rfl) rfl (by show dt.size ≤ 1000; omega) (fun _ => dat_len hda rfl)
end Go.Proofs.YtfmghbennahlfaaGreat
namespace Go.Proofs.YtfmghbennahlfaaGreat
open Go.RowKit Go.ChangeShapes Go.WideShapes Go.ChangeAt
set_option linter.unusedVariables false
set_option linter.unusedSimpArgs false
set_option maxRecDepth 100000
def oM : Rec := ⟨2, 16777217, 1, ⟨#[97]⟩, 0, ⟨#[]⟩, 0, ⟨#[]⟩, 0⟩
def vwL (L : List Rec) : List Nd := (FoldL newL L).1
theorem oM_right : rightF oM = true := by decide +kernel
theorem oM_wf : oM.Wf := ⟨⟨by decide, by decide⟩, ⟨by decide, by decide⟩, ⟨by decide, by decide⟩, ⟨by decide, by decide⟩, ⟨by decide, by decide⟩, ⟨by decide, by decide⟩, by decide, by decide, by decide⟩
theorem oM_apply : (ApplyL newL oM).1 = 0 ∧ (ApplyL newL oM).2.length = 2 := by decide +kernel
theorem vw_0 : vwL [] = newL := by kernel_rfl
theorem vw_1 : vwL [oM] = (ApplyL newL oM).2 := by kernel_rfl
theorem new_right : rightD newL = true := by decide +kernel
theorem newRtM : Rt newL := rightD_rt.1 new_right
theorem rtM1 : Rt (ApplyL newL oM).2 := ApplyL_rt oM_wf oM_apply.1
def LogM (L : List Rec) : Prop := L = [] ∨ L = [oM]
theorem vw_rt {L : List Rec} (h : LogM L) : Rt (vwL L) := by
 rcases h with rfl | rfl
 · rw [vw_0]; exact newRtM
 · rw [vw_1]; exact rtM1
theorem vw_k3 {L : List Rec} (h : LogM L) : ∀ x ∈ vwL L, x.k = 2 := by
 rcases h with rfl | rfl
 · decide +kernel
 · decide +kernel
theorem vw_len {L : List Rec} (h : LogM L) : (vwL L).length = L.length + 1 := by
 rcases h with rfl | rfl
 · decide +kernel
 · decide +kernel
theorem vw_ks {L : List Rec} (h : LogM L) : ∀ x ∈ vwL L, x.ks.length ≤ 1 := by
 rcases h with rfl | rfl
 · decide +kernel
 · decide +kernel
theorem vw_getM : getF (vwL []) 16777217 = none := by decide +kernel
def FdOk (l : List Nd) : Prop := l.length ≤ 40 ∧ (∀ x ∈ l, x.ks.length ≤ 100000) ∧ (∀ x ∈ l, x.k ≠ 3) ∧ rightD l = true ∧ Leads l
theorem getF_erM (l : List Nd) (f : Int) : getF (l.map Nd.er) f = (getF l f).map Nd.er := getF_er l f
theorem plk_erM (o : Option Nd) (s : ByteArray) : plkI (o.map Nd.er) s = plkI o s ∧ plkE (o.map Nd.er) s = plkE o s := by
 cases o <;> exact ⟨rfl, rfl⟩
theorem leads_rt {l : List Nd} (h : Rt l) : Leads l := by
 intro f s he
 cases hx : getF l f with
 | none => rw [hx] at he; exact absurd he (by show ¬ (5 : Int) = 0; decide)
 | some x =>
   rw [hx] at he
   unfold plkE at he
   simp only at he
   unfold plkI
   simp only
   by_cases hk : x.k = 2
   · rw [if_pos hk] at he ⊢
     cases hq : kq x.ks s with
     | none => rw [hq] at he; exact absurd he (by decide)
     | some q =>
       have hm : q ∈ x.ks := by
         obtain ⟨i, _, h2, h3⟩ := en_some hq
         rw [← h3]
         exact getD_mem _ _ h2
       have := (h.kid x (getF_mem hx).1 q hm).2
       obtain ⟨y, hy⟩ := Option.isSome_iff_exists.1 this
       exact ⟨y, hy⟩
   · rw [if_neg hk] at he
     exact absurd he (by decide)
theorem fd_ok {l : List Nd} {L : List Rec} (h : l.map Nd.er = vwL L) (hL : LogM L) : FdOk l := by
 have hlen : l.length = L.length + 1 := by rw [← vw_len hL, ← h, List.length_map]
 have hl1 : L.length ≤ 1 := by rcases hL with rfl | rfl <;> decide
 refine ⟨by omega, fun x hx => ?_, fun x hx => ?_, ?_, fun f s he => ?_⟩
 · have := vw_ks hL x.er (by rw [← h]; exact List.mem_map.2 ⟨x, hx, rfl⟩)
   have e : x.er.ks = x.ks := rfl
   rw [e] at this
   omega
 · have := vw_k3 hL x.er (by rw [← h]; exact List.mem_map.2 ⟨x, hx, rfl⟩)
   have e : x.er.k = x.k := rfl
   rw [e] at this
   omega
 · rw [← rightD_er, h]
   exact rightD_rt.2 (vw_rt hL)
 · have LD := leads_rt (vw_rt hL)
   rw [← h] at LD
   have p := plk_erM (getF l f) s
   rw [← getF_erM] at p
   have := LD f s (by rw [p.2]; exact he)
   obtain ⟨y, hy⟩ := this
   rw [p.1, getF_erM] at hy
   cases hz : getF l (plkI (getF l f) s) with
   | none => rw [hz] at hy; exact absurd hy (by simp)
   | some z => exact ⟨z, rfl⟩
theorem split_root : Pa.splitF [47] = some [] := by decide +kernel
theorem dir_a : Pa.dirF [47, 97] = some [47] := by decide +kernel
theorem base_a : Pa.baseF [47, 97] = some [97] := by decide +kernel
theorem find1_c (a : Option Addr) (cap : Nat) (l : List Nd) (w : World) (h : IsNs w a l) (hf : FdOk l) :
   Calls Tryz.prog 26 #[.slice a l.length cap, .string ⟨#[47]⟩] w fun e w' => e = .returned (.tuple #[.int .u32 1, .int .i64 0]) ∧ Below w.heap.size w w' :=
 tFind_c a cap l ⟨#[47]⟩ [] w h hf.1 hf.2.1 hf.2.2.1 hf.2.2.2.1 hf.2.2.2.2 (by decide) split_root
theorem dirA_c (w : World) : Calls Tryz.prog 196 #[.string ⟨#[47, 97]⟩] w fun e w' => e = .returned (.tuple #[.string ⟨#[47]⟩, .int .i64 0]) ∧ Below w.heap.size w w' :=
 (dir_c ⟨#[47, 97]⟩ w (by unfold maxLen; decide)).mono (fun e w' h => text_yes dir_a h)
theorem baseA_c (w : World) : Calls Tryz.prog 197 #[.string ⟨#[47, 97]⟩] w fun e w' => e = .returned (.tuple #[.string ⟨#[97]⟩, .int .i64 0]) ∧ Below w.heap.size w w' :=
 (base_c ⟨#[47, 97]⟩ w (by unfold maxLen; decide)).mono (fun e w' h => text_yes base_a h)
theorem version_c {w : World} (b off s : Nat) (f : Int) (hv : w.cell? ⟨b, off + 1, none⟩ = some (.slice (some ⟨s, 0, none⟩) 1 1)) (hs : w.heap[s]? = some (.cells #[.int .u32 1, .int .u64 1, .int .u8 0] 200 (0, 0))) :
   Calls Tryz.prog 61 #[.pointer (some ⟨b, off, none⟩), .int .u32 f] w fun e w' => e = .returned (.tuple #[.int .u64 (if f = 1 then 1 else 0), .bool (decide (f = 1))]) ∧ Below w.heap.size w w' := by
 have s0 : w.cell? ⟨s, 0, none⟩ = some (.int .u32 1) := cell_of_row2 hs 0 rfl
 have s1 : w.cell? ⟨s, 1, none⟩ = some (.int .u64 1) := cell_of_row2 hs 1 rfl
 have s2 : w.cell? ⟨s, 2, none⟩ = some (.int .u8 0) := cell_of_row2 hs 2 rfl
 have hA := heap_alloc_new w (.cells #[.int .u32 1, .int .u64 1, .int .u8 0] 200)
 have a0 : (w.alloc (.cells #[.int .u32 1, .int .u64 1, .int .u8 0] 200)).cell? ⟨w.heap.size, 0, none⟩ = some (.int .u32 1) := cell_of_row2 hA 0 rfl
 have a1 : (w.alloc (.cells #[.int .u32 1, .int .u64 1, .int .u8 0] 200)).cell? ⟨w.heap.size, 1, none⟩ = some (.int .u64 1) := cell_of_row2 hA 1 rfl
 have b1 := below_1 w (.cells #[.int .u32 1, .int .u64 1, .int .u8 0] 200)
 clear hA hs
 by_cases hf : f = 1
 · subst hf
   go_enter Tryz.func61, Tryz.ntmps61
   go_wp2
   refine wp_loop_rounds 2 ?_
   rw [rounds_succ]
   go_wp2
   go_ret2
   exact ⟨rfl, b1⟩
 · have hn : ¬ (1 : Int) = f := fun e => hf e.symm
   have hb : ((1 : Int) == f) = false := by simp [hn]
   have hd : decide ((1 : Int) = f) = false := by simp [hn]
   have he : decide (f = 1) = false := by simp [hf]
   rw [if_neg hf, he]
   go_enter Tryz.func61, Tryz.ntmps61
   go_wp2
   refine wp_loop_rounds 2 ?_
   rw [rounds_succ]
   go_wp2
   rw [rounds_succ]
   go_wp2
   go_ret2
   exact ⟨rfl, b1⟩
end Go.Proofs.YtfmghbennahlfaaGreat
namespace Go.Proofs.YtfmghbennahlfaaGreat
open Go.RowKit Go.ChangeShapes Go.WideShapes Go.ChangeAt Go.Maps Go.Shelf
set_option linter.unusedVariables false
set_option linter.unusedSimpArgs false
set_option maxRecDepth 100000
def CaK (c : Ca) : Prop := c.m ≤ 12 ∧ 0 ≤ c.uses ∧ c.uses < 1000 ∧ c.k ≤ 8 ∧ c.most = 12
theorem CvM.sz {base : Nat} {w : World} {c : Cv} (h : CvM base w c) : base ≤ w.heap.size := h.2.2.2.2.2.2.1.2.2.2.2.2.2
theorem CvM.baseTri {base : Nat} {w : World} {c : Cv} (h : CvM base w c) : ∀ k, Tri c.cb c.cm c.ch k → base ≤ k := fun k e => by
 obtain ⟨_, _, _, _, _, _, ⟨k1, k2, k3, k4, k5, k6, k7⟩, _⟩ := h
 rcases e with rfl | rfl | rfl
 · exact k4
 · exact k5
 · exact k6
def softB : Value → Bool
 | .int .i64 _ => false
 | .int .u64 _ => false
 | .map _ => false
 | _ => true
def Cst (w w' : World) : Prop := ∀ p v, w.cell? p = some v → softB v = true → w'.cell? p = some v
theorem Cst.of {w w' : World} {cb cm ch : Nat} {ca : Ca} (h : IsCa w cb cm ch ca) (ho : Ou (Tri cb cm ch) w w') : Cst w w' := fun p v hc hs => by
 have hc0 := hc
 unfold World.cell? at hc ⊢
 cases hb : w.heap[p.block]? with
 | none => rw [hb] at hc; cases hc
 | some o =>
   rw [hb] at hc
   cases o with
   | cells c e f =>
     by_cases hT : Tri cb cm ch p.block
     · rcases hT with q | q | q
       · rw [q, h.1] at hb
         cases hb
         simp only at hc
         split at hc
         · cases hc
         · generalize p.off = po at hc
           rcases po with _ | _ | _ | _ | po
           · cases hc; cases hs
           · cases hc; cases hs
           · cases hc; cases hs
           · cases hc; cases hs
           · simp at hc
       · exact absurd q (map_ne hb h.2.1)
       · exact absurd q (map_ne hb h.2.2.1)
     · rw [ho.block _ (lt_blkR hb) hT, hb]
       exact hc
   | _ => cases hc
theorem IsB.cst {w w' : World} {a : Option Addr} {len : Nat} {zs : List Int} (h : IsB w a len zs) (hb : Cst w w') : IsB w' a len zs := by
 obtain ⟨h1, h2, h3, h4⟩ := h
 refine ⟨h1, h2, fun hp => ?_, h4⟩
 obtain ⟨b, off, e, hc⟩ := h3 hp
 exact ⟨b, off, e, fun i hi => hb _ _ (hc i hi) rfl⟩
theorem IsKs.cst {w w' : World} {a : Option Addr} {l : List Kd} (h : IsKs w a l) (hb : Cst w w') : IsKs w' a l := by
 obtain ⟨h1, h2, h3⟩ := h
 refine ⟨h1, h2, fun hp => ?_⟩
 obtain ⟨b, off, e, hc⟩ := h3 hp
 exact ⟨b, off, e, fun i hi => ⟨hb _ _ (hc i hi).1 rfl, hb _ _ (hc i hi).2 rfl⟩⟩
theorem nd_soft (x : Nd) : ∀ (j : Nat) (v : Value), x.cells[j]? = some v → softB v = true := fun j v hv => by
 rcases j with _ | _ | _ | _ | _ | _ | j
 all_goals first | (cases hv; rfl) | (simp [Nd.cells] at hv)
theorem Nd.Ok.cst {w w' : World} {x : Nd} (h : x.Ok w) (hb : Cst w w') : x.Ok w' := by
 obtain ⟨a, b, c, d, e, f⟩ := h
 exact ⟨a, b, c, d, e.cst hb, f.cst hb⟩
theorem IsNs.cst {w w' : World} {a : Option Addr} {l : List Nd} (h : IsNs w a l) (hb : Cst w w') : IsNs w' a l := by
 obtain ⟨h1, h2, h3⟩ := h
 refine ⟨h1, fun x hx => (h2 x hx).cst hb, fun hp => ?_⟩
 obtain ⟨b, off, e, hc⟩ := h3 hp
 exact ⟨b, off, e, fun i hi j v hv => hb _ _ (hc i hi j v hv) (nd_soft _ j v hv)⟩
theorem Tr.cst {w w' : World} {a : Option Addr} {l : List Nd} (h : Tr w a l) (hb : Cst w w') : Tr w' a l := ⟨h.1.cst hb, h.2⟩
def rchB (c : Cv) : Bool := c.ca.has 1 || c.lk
def rchC (c : Cv) : Cv := { c with ca := if rchB c = true then c.ca.useS 1 else c.ca }
def RchP (base : Nat) (c : Cv) (w : World) (e : Ending) (w' : World) : Prop := e = .returned (.int .i64 (if rchB c = true then 0 else 11)) ∧ CvM base w' (rchC c) ∧ Ou (Tri c.cb c.cm c.ch) w w'
theorem fetch_c {base : Nat} {w : World} {c : Cv} (h : CvM base w c) (hk : CaK c.ca) (hp : c.ca.has 1 = false → c.lk = true → (∀ i, c.ca.f i = none) ∧ c.ca.m = 0) :
   Calls Tryz.prog 62 #[.pointer (some ⟨c.p, 2, none⟩), .int .u32 1] w (RchP base c w) := by
 obtain ⟨q1, q2, q3, q4, q5⟩ := hk
 have TC := touch_c h.2.1 q2 (by omega) (by omega) (i := 1) (by decide) (by decide)
 have row := h.2.2.1
 have k2 : w.cell? ⟨c.p, 2, none⟩ = some (pA c.cb) := cell_of_row2 row 2 rfl
 have k3 : w.cell? ⟨c.p, 3, none⟩ = some (.bool c.lk) := cell_of_row2 row 3 rfl
 have CH := hid h
 unfold RchP rchC rchB
 by_cases hb : c.ca.has 1 = true
 · have e1 : c.ca.touchS 1 = c.ca.useS 1 := by unfold Ca.touchS; rw [if_pos hb]
   rw [e1, hb] at TC
   rw [hb]
   have TH := hid TC
   clear TC row h
   go_enter Tryz.func62, Tryz.ntmps62
   go_wp2_with (go_at_call 124; refine TH.out.mono ?_; rintro _ w1 ⟨rfl, hc1, ho1⟩; have C1 := hid (CH.out.cache ho1 hc1); have B1 := hid ho1; clear hc1 ho1)
   go_ret
   exact ⟨rfl, C1.out, B1.out⟩
 · replace hb : c.ca.has 1 = false := by simpa using hb
   have e1 : c.ca.touchS 1 = c.ca := by unfold Ca.touchS; rw [hb]; rfl
   rw [e1, hb] at TC
   rw [hb]
   have TH := hid TC
   clear TC row
   by_cases hl : c.lk = true
   · obtain ⟨p1, p2⟩ := hp hb hl
     have PC : Hid (∀ W, IsCa W c.cb c.cm c.ch c.ca → Calls Tryz.prog 85 #[pA c.cb, .int .u32 1] W fun e w' => e = .returned (.tuple #[.int .u32 0, .int .i64 0]) ∧ IsCa w' c.cb c.cm c.ch (c.ca.useS 1) ∧ Ou (Tri c.cb c.cm c.ch) W w') := hid (fun W hW => by
       have hr : RiseF c.ca.f [] := ⟨List.Pairwise.nil, fun x => by simp [p1 x]⟩
       have hroom : c.ca.room 1 = true := by unfold Ca.room; rw [hb, p2, q5]; decide
       have e2 : c.ca.putR 1 (c.ca.nextOf []) = (0, 0) := by unfold Ca.putR Ca.roomR; rw [if_neg (by decide), if_pos hroom]
       have e3 : c.ca.putS 1 (c.ca.nextOf []) = c.ca.useS 1 := by unfold Ca.putS Ca.roomR Ca.roomS; rw [if_neg (by decide), if_pos hroom, if_pos rfl, if_pos hroom]
       have := put_c hW q1 q2 (by omega) hr (i := 1) (by decide) (by decide)
       rw [e2, e3] at this
       exact this)
     have eb : (false || c.lk) = true := by rw [hl]; rfl
     rw [eb]
     rw [hl] at k3
     have HLK : Hid (some (Value.bool c.lk) = some (.bool true)) := hid (by rw [hl])
     clear h hl eb
     go_enter Tryz.func62, Tryz.ntmps62
     go_wp2_with (first
       | (go_at_call 85; refine (PC.out _ C1.out.2.1).mono ?_; rintro _ w2 ⟨rfl, hc2, ho2⟩; have C2 := hid (C1.out.cache ho2 hc2); have B2 := hid (B1.out.trans ho2); clear hc2 ho2)
       | (go_at_call 124; refine TH.out.mono ?_; rintro _ w1 ⟨rfl, hc1, ho1⟩; have C1 := hid (CH.out.cache ho1 hc1); have B1 := hid ho1; have row1 := C1.out.2.2.1; have m2 : w1.cell? ⟨c.p, 2, none⟩ = some (pA c.cb) := cell_of_row2 row1 2 rfl; have m3 : w1.cell? ⟨c.p, 3, none⟩ = some (.bool true) := (cell_of_row2 row1 3 rfl).trans HLK.out; clear hc1 ho1 row1))
     go_ret
     exact ⟨rfl, C2.out, B2.out⟩
   · replace hl : c.lk = false := by simpa using hl
     have eb : (false || c.lk) = false := by rw [hl]; rfl
     rw [eb]
     rw [hl] at k3
     have HLK : Hid (some (Value.bool c.lk) = some (.bool false)) := hid (by rw [hl])
     clear h hl eb
     go_enter Tryz.func62, Tryz.ntmps62
     go_wp2_with (go_at_call 124; refine TH.out.mono ?_; rintro _ w1 ⟨rfl, hc1, ho1⟩; have C1 := hid (CH.out.cache ho1 hc1); have B1 := hid ho1; have row1 := C1.out.2.2.1; have m3 : w1.cell? ⟨c.p, 3, none⟩ = some (.bool false) := (cell_of_row2 row1 3 rfl).trans HLK.out; clear hc1 ho1 row1)
     go_ret
     exact ⟨rfl, C1.out, B1.out⟩
theorem reach_c {base : Nat} {w : World} {c : Cv} (h : CvM base w c) (hk : CaK c.ca) (hp : c.ca.has 1 = false → c.lk = true → (∀ i, c.ca.f i = none) ∧ c.ca.m = 0) :
   Calls Tryz.prog 27 #[.pointer (some ⟨c.p, 0, none⟩), .int .u32 1] w (RchP base c w) := by
 have row := h.2.2.1
 have k5 : w.cell? ⟨c.p, 4 + 1, none⟩ = some (.slice (some ⟨c.s, 0, none⟩) 1 1) := cell_of_row2 row 5 rfl
 have VC : Hid (Calls Tryz.prog 61 #[.pointer (some ⟨c.p, 4, none⟩), .int .u32 1] w fun e w' => e = .returned (.tuple #[.int .u64 1, .bool true]) ∧ Below w.heap.size w w') := hid ((version_c c.p 4 c.s 1 k5 h.2.2.2.2.1).mono (fun e w' q => ⟨q.1, q.2⟩))
 have FC := hid (fun W (hW : CvM base W c) => fetch_c hW hk hp)
 have CH := hid h
 unfold RchP at *
 generalize (if rchB c = true then (0 : Int) else 11) = r at *
 clear row k5 h hp
 go_enter Tryz.func27, Tryz.ntmps27
 go_wp2_with (first
   | (go_at_call 62; refine (FC.out _ (CH.out.later B1.out)).mono ?_; rintro _ w2 ⟨rfl, hc2, hb2⟩; have C2 := hid hc2; have B2 := hid ((Ou.of B1.out).trans hb2); clear hc2 hb2)
   | (go_at_call 61; refine VC.out.mono ?_; rintro _ w1 ⟨rfl, hb1⟩; have B1 := hid hb1; clear hb1))
 go_ret
 exact ⟨rfl, C2.out, B2.out⟩
theorem Below.set0 {B : Nat} {w w1 : World} (h : Below B w w1) (hz : B ≤ w1.heap.size) {g o : Nat} {v : Value} {cs : Array Value} {T : TypeId} (hr : w1.heap[g]? = some (.cells cs T (0, 0))) (hs : cs.setIfInBounds o v = cs) : Below B w (w1.setCell ⟨g, o, none⟩ v) := by
 have hO : Ou (fun k => k = g) w1 (w1.setCell ⟨g, o, none⟩ v) := (Ou.of (Below.refl w1.heap.size w1)).set rfl
 have hb : Below w1.heap.size w1 (w1.setCell ⟨g, o, none⟩ v) := ⟨hO.os, hO.tape, hO.output, hO.size, fun k hk => by
   by_cases e : k = g
   · subst e
     rw [heap_setCell_same w1 k o _ _ v hr, hs, hr]
   · exact hO.block k hk e⟩
 exact h.trans (hb.mono hz)
theorem heap_drewAt (X : World) (k : Nat) : X.drew.heap[k]? = X.heap[k]? := rfl
theorem eight_all {W : World} {A T : Nat} {u0 u1 u2 u3 u4 u5 u6 u7 : Value} (h : W.heap[A]? = some (.cells #[u0, u1, u2, u3, u4, u5, u6, u7] T (0, 0))) (v0 v1 v2 v3 v4 v5 v6 v7 : Value) :
   ((((((((W.setCell ⟨A, 0, none⟩ (v0)).setCell ⟨A, 1, none⟩ (v1)).setCell ⟨A, 2, none⟩ (v2)).setCell ⟨A, 3, none⟩ (v3)).setCell ⟨A, 4, none⟩ (v4)).setCell ⟨A, 5, none⟩ (v5)).setCell ⟨A, 6, none⟩ (v6)).setCell ⟨A, 7, none⟩ (v7)).heap[A]? = some (.cells #[v0, v1, v2, v3, v4, v5, v6, v7] T (0, 0)) := by
 simp only [World.setCell]
 simp [Array.getElem?_modify, h]
theorem ou_eight (W : World) (A : Nat) (v0 v1 v2 v3 v4 v5 v6 v7 : Value) : Ou (fun k => k = A) W ((((((((W.setCell ⟨A, 0, none⟩ (v0)).setCell ⟨A, 1, none⟩ (v1)).setCell ⟨A, 2, none⟩ (v2)).setCell ⟨A, 3, none⟩ (v3)).setCell ⟨A, 4, none⟩ (v4)).setCell ⟨A, 5, none⟩ (v5)).setCell ⟨A, 6, none⟩ (v6)).setCell ⟨A, 7, none⟩ (v7)) := by
 exact (((((((((Ou.of (S := fun k => k = A) (Below.refl _ _)).set rfl).set rfl).set rfl).set rfl).set rfl).set rfl).set rfl).set rfl)
theorem object_c {w : World} (fb : Nat) (a : Option Addr) (cap : Nat) (l : List Nd) (h : IsNs w a l) (hf : FdOk l) (hb : w.heap[fb]? = some (.cells #[.slice a l.length cap, .int .i64 0] 224 (0, 0))) :
   Calls Tryz.prog 140 #[.pointer (some ⟨fb, 0, none⟩), .string ⟨#[47]⟩] w fun e w' => e = .returned (.int .u32 1) ∧ w'.heap[fb]? = some (.cells #[.slice a l.length cap, .int .i64 0] 224 (0, 0)) ∧ Below w.heap.size w w' := by
 have FC := hid (find1_c a cap l w h hf)
 have HB := hid hb
 have c0 : w.cell? ⟨fb, 0, none⟩ = some (.slice a l.length cap) := cell_of_row2 hb 0 rfl
 have c1 : w.cell? ⟨fb, 1, none⟩ = some (.int .i64 0) := cell_of_row2 hb 1 rfl
 clear h hf hb
 go_enter Tryz.func140, Tryz.ntmps140
 go_wp2_with (go_at_call 26; refine FC.out.mono ?_; rintro _ w1 ⟨rfl, hb1⟩; have R1 := (hb1.block _ (lt_blkR HB.out)).trans HB.out; have r1 : w1.cell? ⟨fb, 1, none⟩ = some (.int .i64 0) := cell_of_row2 R1 1 rfl; have fz : w1.frozen? ⟨fb, 1, none⟩ = false := (by simp [World.frozen?, R1]); have B1 := hid hb1; have RR := hid R1; clear hb1 R1)
 go_ret
 exact ⟨rfl, heap_setCell_same w1 fb 1 _ _ _ RR.out, Below.set0 B1.out B1.out.size RR.out rfl⟩
theorem entry_c {w : World} (fb : Nat) (a : Option Addr) (cap : Nat) (l : List Nd) (h : IsNs w a l) (hf : FdOk l) (hb : w.heap[fb]? = some (.cells #[.slice a l.length cap, .int .i64 0] 224 (0, 0))) :
   Calls Tryz.prog 138 #[.pointer (some ⟨fb, 0, none⟩), .string ⟨#[47, 97]⟩] w fun e w' => e = .returned (.tuple #[.int .u32 1, .string ⟨#[97]⟩]) ∧ w'.heap[fb]? = some (.cells #[.slice a l.length cap, .int .i64 0] 224 (0, 0)) ∧ Below w.heap.size w w' := by
 have HB := hid hb
 have OC := hid (fun W (hW : Below w.heap.size w W) => object_c fb a cap l (h.later hW) hf ((hW.block _ (lt_blkR hb)).trans hb))
 have DC := hid (fun W => dirA_c W)
 have BC := hid (fun W => baseA_c W)
 have c1 : w.cell? ⟨fb, 1, none⟩ = some (.int .i64 0) := cell_of_row2 hb 1 rfl
 clear h hf hb
 go_enter Tryz.func138, Tryz.ntmps138
 go_wp2_with (first
   | (go_at_call 140; refine (OC.out _ B2.out).mono ?_; rintro _ w3 ⟨rfl, hr3, hb3⟩; have R3 := hid hr3; have B3 := hid (B2.out.trans (hb3.mono B2.out.size)); clear hr3 hb3)
   | (go_at_call 197; refine (BC.out _).mono ?_; rintro _ w2 ⟨rfl, hb2⟩; have B2 := hid (B1.out.trans (hb2.mono B1.out.size)); clear hb2)
   | (go_at_call 196; refine (DC.out _).mono ?_; rintro _ w1 ⟨rfl, hb1⟩; have B1 := hid hb1; clear hb1))
 go_ret2
 exact ⟨rfl, R3.out, B3.out⟩
theorem fresh_c {w : World} (fb : Nat) (hb : w.cell? ⟨fb, 1, none⟩ = some (.int .i64 0)) :
   Calls Tryz.prog 139 #[.pointer (some ⟨fb, 0, none⟩), .int .u8 1, .int .u32 1] w fun e w' => e = .returned (.int .u32 16777217) ∧ w' = w := by
 have MC := hid (make_ok 1 1 (by decide) (by decide) (by decide) (by decide) w)
 rw [show M.makeF 1 1 = 16777217 from rfl] at MC
 go_enter Tryz.func139, Tryz.ntmps139
 go_wp2_with (go_at_call 198; refine MC.out.mono ?_; rintro _ w1 ⟨rfl, hw1⟩; rw [hw1]; clear hw1)
 go_ret
 exact ⟨rfl, rfl⟩
set_option maxHeartbeats 4000000 in
theorem operation_c {w : World} (p : Nat) (a : Option Addr) (cap : Nat) (l : List Nd) (h : IsNs w a l) (hf : FdOk l) (hp0 : w.cell? ⟨p, 0, none⟩ = some (.int .u8 1)) (hp9 : w.cell? ⟨p, 9, none⟩ = some (.int .u32 1)) :
   Calls Tryz.prog 74 #[.pointer (some ⟨p, 0, none⟩), .slice a l.length cap, .agg #[.int .u8 2, .string ⟨#[47, 97]⟩, .string ⟨#[]⟩, .int .u16 0, .string ⟨#[]⟩]] w fun e w' => e = .returned (.tuple #[.agg #[.int .u8 2, .int .u32 16777217, .int .u32 1, .string ⟨#[97]⟩, .int .u32 0, .string ⟨#[]⟩, .int .u16 0, .string ⟨#[]⟩], .int .i64 0]) ∧ Below w.heap.size w w' := by
 obtain ⟨wb, hwb⟩ : ∃ wb, wb = w.heap.size := ⟨_, rfl⟩
 have b0 := below_1 w (.cells #[.int .u8 2, .string ⟨#[47, 97]⟩, .string ⟨#[]⟩, .int .u16 0, .string ⟨#[]⟩] 93)
 have g0 := heap_alloc_new w (.cells #[.int .u8 2, .string ⟨#[47, 97]⟩, .string ⟨#[]⟩, .int .u16 0, .string ⟨#[]⟩] 93)
 have b1 := below_1 (w.alloc (.cells #[.int .u8 2, .string ⟨#[47, 97]⟩, .string ⟨#[]⟩, .int .u16 0, .string ⟨#[]⟩] 93)) (.cells #[.int .u8 0, .int .u32 0, .int .u32 0, .string ⟨#[]⟩, .int .u32 0, .string ⟨#[]⟩, .int .u16 0, .string ⟨#[]⟩] 111)
 have g1 := heap_alloc_new (w.alloc (.cells #[.int .u8 2, .string ⟨#[47, 97]⟩, .string ⟨#[]⟩, .int .u16 0, .string ⟨#[]⟩] 93)) (.cells #[.int .u8 0, .int .u32 0, .int .u32 0, .string ⟨#[]⟩, .int .u32 0, .string ⟨#[]⟩, .int .u16 0, .string ⟨#[]⟩] 111)
 have b2 := below_1 ((w.alloc (.cells #[.int .u8 2, .string ⟨#[47, 97]⟩, .string ⟨#[]⟩, .int .u16 0, .string ⟨#[]⟩] 93)).alloc (.cells #[.int .u8 0, .int .u32 0, .int .u32 0, .string ⟨#[]⟩, .int .u32 0, .string ⟨#[]⟩, .int .u16 0, .string ⟨#[]⟩] 111)) (.cells #[.int .u8 2, .int .u32 0, .int .u32 0, .string ⟨#[]⟩, .int .u32 0, .string ⟨#[]⟩, .int .u16 0, .string ⟨#[]⟩] 111)
 have g2 := heap_alloc_new ((w.alloc (.cells #[.int .u8 2, .string ⟨#[47, 97]⟩, .string ⟨#[]⟩, .int .u16 0, .string ⟨#[]⟩] 93)).alloc (.cells #[.int .u8 0, .int .u32 0, .int .u32 0, .string ⟨#[]⟩, .int .u32 0, .string ⟨#[]⟩, .int .u16 0, .string ⟨#[]⟩] 111)) (.cells #[.int .u8 2, .int .u32 0, .int .u32 0, .string ⟨#[]⟩, .int .u32 0, .string ⟨#[]⟩, .int .u16 0, .string ⟨#[]⟩] 111)
 have b3 := below_1 (((w.alloc (.cells #[.int .u8 2, .string ⟨#[47, 97]⟩, .string ⟨#[]⟩, .int .u16 0, .string ⟨#[]⟩] 93)).alloc (.cells #[.int .u8 0, .int .u32 0, .int .u32 0, .string ⟨#[]⟩, .int .u32 0, .string ⟨#[]⟩, .int .u16 0, .string ⟨#[]⟩] 111)).alloc (.cells #[.int .u8 2, .int .u32 0, .int .u32 0, .string ⟨#[]⟩, .int .u32 0, .string ⟨#[]⟩, .int .u16 0, .string ⟨#[]⟩] 111)) (.cells #[.slice a l.length cap, .int .i64 0] 224)
 have g3 := heap_alloc_new (((w.alloc (.cells #[.int .u8 2, .string ⟨#[47, 97]⟩, .string ⟨#[]⟩, .int .u16 0, .string ⟨#[]⟩] 93)).alloc (.cells #[.int .u8 0, .int .u32 0, .int .u32 0, .string ⟨#[]⟩, .int .u32 0, .string ⟨#[]⟩, .int .u16 0, .string ⟨#[]⟩] 111)).alloc (.cells #[.int .u8 2, .int .u32 0, .int .u32 0, .string ⟨#[]⟩, .int .u32 0, .string ⟨#[]⟩, .int .u16 0, .string ⟨#[]⟩] 111)) (.cells #[.slice a l.length cap, .int .i64 0] 224)
 have z0 : (w.alloc (.cells #[.int .u8 2, .string ⟨#[47, 97]⟩, .string ⟨#[]⟩, .int .u16 0, .string ⟨#[]⟩] 93)).heap.size = w.heap.size + 1 := by simp
 have z1 : ((w.alloc (.cells #[.int .u8 2, .string ⟨#[47, 97]⟩, .string ⟨#[]⟩, .int .u16 0, .string ⟨#[]⟩] 93)).alloc (.cells #[.int .u8 0, .int .u32 0, .int .u32 0, .string ⟨#[]⟩, .int .u32 0, .string ⟨#[]⟩, .int .u16 0, .string ⟨#[]⟩] 111)).heap.size = w.heap.size + 1 + 1 := by simp
 have z2 : (((w.alloc (.cells #[.int .u8 2, .string ⟨#[47, 97]⟩, .string ⟨#[]⟩, .int .u16 0, .string ⟨#[]⟩] 93)).alloc (.cells #[.int .u8 0, .int .u32 0, .int .u32 0, .string ⟨#[]⟩, .int .u32 0, .string ⟨#[]⟩, .int .u16 0, .string ⟨#[]⟩] 111)).alloc (.cells #[.int .u8 2, .int .u32 0, .int .u32 0, .string ⟨#[]⟩, .int .u32 0, .string ⟨#[]⟩, .int .u16 0, .string ⟨#[]⟩] 111)).heap.size = w.heap.size + 1 + 1 + 1 := by simp
 have z3 : ((((w.alloc (.cells #[.int .u8 2, .string ⟨#[47, 97]⟩, .string ⟨#[]⟩, .int .u16 0, .string ⟨#[]⟩] 93)).alloc (.cells #[.int .u8 0, .int .u32 0, .int .u32 0, .string ⟨#[]⟩, .int .u32 0, .string ⟨#[]⟩, .int .u16 0, .string ⟨#[]⟩] 111)).alloc (.cells #[.int .u8 2, .int .u32 0, .int .u32 0, .string ⟨#[]⟩, .int .u32 0, .string ⟨#[]⟩, .int .u16 0, .string ⟨#[]⟩] 111)).alloc (.cells #[.slice a l.length cap, .int .i64 0] 224)).heap.size = w.heap.size + 1 + 1 + 1 + 1 := by simp
 have b12 := b2.trans (b3.mono b2.size)
 have b13 := b1.trans (b12.mono b1.size)
 have BV := hid (b0.trans (b13.mono b0.size))
 have h0 := (b13.block _ (lt_blkR g0)).trans g0
 have h1 := (b12.block _ (lt_blkR g1)).trans g1
 have h2 := (b3.block _ (lt_blkR g2)).trans g2
 rw [z0] at h1
 rw [z1] at h2
 rw [z2] at g3
 have OE := hid (fun W (hW : Below ((((w.alloc (.cells #[.int .u8 2, .string ⟨#[47, 97]⟩, .string ⟨#[]⟩, .int .u16 0, .string ⟨#[]⟩] 93)).alloc (.cells #[.int .u8 0, .int .u32 0, .int .u32 0, .string ⟨#[]⟩, .int .u32 0, .string ⟨#[]⟩, .int .u16 0, .string ⟨#[]⟩] 111)).alloc (.cells #[.int .u8 2, .int .u32 0, .int .u32 0, .string ⟨#[]⟩, .int .u32 0, .string ⟨#[]⟩, .int .u16 0, .string ⟨#[]⟩] 111)).alloc (.cells #[.slice a l.length cap, .int .i64 0] 224)).heap.size ((((w.alloc (.cells #[.int .u8 2, .string ⟨#[47, 97]⟩, .string ⟨#[]⟩, .int .u16 0, .string ⟨#[]⟩] 93)).alloc (.cells #[.int .u8 0, .int .u32 0, .int .u32 0, .string ⟨#[]⟩, .int .u32 0, .string ⟨#[]⟩, .int .u16 0, .string ⟨#[]⟩] 111)).alloc (.cells #[.int .u8 2, .int .u32 0, .int .u32 0, .string ⟨#[]⟩, .int .u32 0, .string ⟨#[]⟩, .int .u16 0, .string ⟨#[]⟩] 111)).alloc (.cells #[.slice a l.length cap, .int .i64 0] 224)) W) => entry_c (w := W) (w.heap.size + 1 + 1 + 1) a cap l ((h.later BV.out).later hW) hf ((hW.block _ (lt_blkR g3)).trans g3))
 have P0 := hid (fun W (hW : Below w.heap.size w W) => cell_later hW hp0)
 have P9 := hid (fun W (hW : Below w.heap.size w W) => cell_later hW hp9)
 have FRH := hid (fun W (hW : W.cell? ⟨w.heap.size + 1 + 1 + 1, 1, none⟩ = some (.int .i64 0)) => fresh_c (w := W) (w.heap.size + 1 + 1 + 1) hW)
 clear h hf b0 b1 b2 b3 b12 b13 g0 g1 g2
 go_enter Tryz.func74, Tryz.ntmps74
 go_upto_region 3 with fail
 generalize ((((w.alloc (.cells #[.int .u8 2, .string ⟨#[47, 97]⟩, .string ⟨#[]⟩, .int .u16 0, .string ⟨#[]⟩] 93)).alloc (.cells #[.int .u8 0, .int .u32 0, .int .u32 0, .string ⟨#[]⟩, .int .u32 0, .string ⟨#[]⟩, .int .u16 0, .string ⟨#[]⟩] 111)).alloc (.cells #[.int .u8 2, .int .u32 0, .int .u32 0, .string ⟨#[]⟩, .int .u32 0, .string ⟨#[]⟩, .int .u16 0, .string ⟨#[]⟩] 111)).alloc (.cells #[.slice a l.length cap, .int .i64 0] 224)) = V at *
 have x0 : V.cell? ⟨w.heap.size, 0, none⟩ = some (.int .u8 2) := cell_of_row2 h0 0 rfl
 have x1 : V.cell? ⟨w.heap.size, 1, none⟩ = some (.string ⟨#[47, 97]⟩) := cell_of_row2 h0 1 rfl
 have H0 := hid h0
 have H1 := hid h1
 have H2 := hid h2
 have Z := hid z3
 clear h0 h1 h2 g3 z0 z1 z2 z3
 go_upto_region 15 with (go_at_call 138; refine (OE.out _ (Below.refl _ _)).mono ?_; rintro _ w1 ⟨rfl, hr1, hb1⟩; have R1 := hid hr1; have B1 := hid hb1; have y2 := (hb1.block _ (lt_blkR H2.out)).trans H2.out; have fz : ∀ i, w1.frozen? ⟨w.heap.size + 1 + 1, i, none⟩ = false := fun i => (by simp [World.frozen?, y2]); have k2 : w1.cell? ⟨w.heap.size + 1 + 1, 2, none⟩ = some (.int .u32 0) := cell_of_row2 y2 2 rfl; have k3 : w1.cell? ⟨w.heap.size + 1 + 1, 3, none⟩ = some (.string ⟨#[]⟩) := cell_of_row2 y2 3 rfl; have Y2 := hid y2; clear hr1 hb1 y2)
 have Q15 : ((w1.setCell ⟨w.heap.size + 1 + 1, 2, none⟩ (.int .u32 1)).setCell ⟨w.heap.size + 1 + 1, 3, none⟩ (.string ⟨#[97]⟩)).heap[w.heap.size + 1 + 1]? = some (.cells #[.int .u8 2, .int .u32 0, .int .u32 1, .string ⟨#[97]⟩, .int .u32 0, .string ⟨#[]⟩, .int .u16 0, .string ⟨#[]⟩] 111 (0, 0)) := by simp only [World.setCell]; simp [Array.getElem?_modify, Y2.out]
 have O15 : Ou (fun k => k = w.heap.size + 1 + 1) w1 ((w1.setCell ⟨w.heap.size + 1 + 1, 2, none⟩ (.int .u32 1)).setCell ⟨w.heap.size + 1 + 1, 3, none⟩ (.string ⟨#[97]⟩)) := (((Ou.of (S := fun k => k = w.heap.size + 1 + 1) (Below.refl _ _)).set rfl).set rfl)
 have F15 := (O15.block (w.heap.size + 1 + 1 + 1) (lt_blkR R1.out) (by omega)).trans R1.out
 have E15 := (O15.block (w.heap.size + 1) (lt_blkR ((B1.out.block _ (lt_blkR H1.out)).trans H1.out)) (by omega)).trans ((B1.out.block _ (lt_blkR H1.out)).trans H1.out)
 have A15 := (O15.block (w.heap.size) (lt_blkR ((B1.out.block _ (lt_blkR H0.out)).trans H0.out)) (by omega)).trans ((B1.out.block _ (lt_blkR H0.out)).trans H0.out)
 have bw1 := BV.out.trans (B1.out.mono BV.out.size)
 have B15 := hid (bw1.trans (O15.below bw1.size (fun k e => by omega)))
 clear k2 k3 fz O15 bw1 x0 x1
 generalize ((w1.setCell ⟨w.heap.size + 1 + 1, 2, none⟩ (.int .u32 1)).setCell ⟨w.heap.size + 1 + 1, 3, none⟩ (.string ⟨#[97]⟩)) = W at *
 have q0 := P0.out _ B15.out
 have q9 := P9.out _ B15.out
 have d1 : W.drew.cell? ⟨w.heap.size + 1 + 1, 1, none⟩ = some (.int .u32 0) := cell_of_row2 (show W.drew.heap[w.heap.size + 1 + 1]? = _ from Q15) 1 rfl
 have fz : ∀ i, W.drew.frozen? ⟨w.heap.size + 1 + 1, i, none⟩ = false := fun i => (by simp [World.frozen?, show W.drew.heap[w.heap.size + 1 + 1]? = _ from Q15])
 have f1 : W.drew.cell? ⟨w.heap.size + 1 + 1 + 1, 1, none⟩ = some (.int .i64 0) := cell_of_row2 (show W.drew.heap[w.heap.size + 1 + 1 + 1]? = _ from F15) 1 rfl
 have FRW := hid (FRH.out W.drew f1)
 clear f1
 go_wp2_with fail
 refine wp_region_held_drew (S := fun w' => w'.cell? ⟨p, 0, none⟩ = some (.int .u8 1) ∧ w'.cell? ⟨p, 9, none⟩ = some (.int .u32 1)) (by kernel_rfl) ⟨q0, q9⟩ (fun hHeld => ?_)
 refine take_l 0 (v := ?_) rfl (by kernel_rfl) (by kernel_rfl) (by kernel_rfl) (fun _ _ _ h => h) (Or.inl ⟨by rfl, ?_⟩) (by assumption) ?_
 rotate_left
 · (intro w' hSw; clear hSw; go_simp; first | done | with_reducible rfl)
 try simp only [Act.put, List.setIfInBounds_toArray, List.set_cons_zero, List.set_cons_succ]
 refine take_l 1 (v := ?_) rfl (by kernel_rfl) (by kernel_rfl) (by kernel_rfl) (fun _ _ _ h => h) (Or.inl ⟨by rfl, ?_⟩) (by assumption) ?_
 rotate_left
 · (intro w' hSw; clear hSw; go_simp; first | done | with_reducible rfl)
 try simp only [Act.put, List.setIfInBounds_toArray, List.set_cons_zero, List.set_cons_succ]
 refine take_l 2 (v := ?_) rfl (by kernel_rfl) (by kernel_rfl) (by kernel_rfl) (fun _ _ _ h => h) (Or.inl ⟨by rfl, ?_⟩) (by assumption) ?_
 rotate_left
 · (intro w' hSw; clear hSw; go_simp; first | done | with_reducible rfl)
 try simp only [Act.put, List.setIfInBounds_toArray, List.set_cons_zero, List.set_cons_succ]
 refine take_l 3 (v := ?_) rfl (by kernel_rfl) (by kernel_rfl) (by kernel_rfl) (fun _ _ _ h => h) (Or.inl ⟨by rfl, ?_⟩) (by assumption) ?_
 rotate_left
 · (intro w' hSw; have kq0 := hSw.1; have kq9 := hSw.2; clear hSw; go_simp; first | done | with_reducible rfl)
 try simp only [Act.put, List.setIfInBounds_toArray, List.set_cons_zero, List.set_cons_succ]
 refine take_l 4 (v := ?_) rfl (by kernel_rfl) (by kernel_rfl) (by kernel_rfl) (fun _ _ _ h => h) (Or.inl ⟨by rfl, ?_⟩) (by assumption) ?_
 rotate_left
 · (intro w' hSw; clear hSw; go_simp; first | done | with_reducible rfl)
 try simp only [Act.put, List.setIfInBounds_toArray, List.set_cons_zero, List.set_cons_succ]
 refine take_l 5 (v := ?_) rfl (by kernel_rfl) (by kernel_rfl) (by kernel_rfl) (fun _ _ _ h => h) (Or.inl ⟨by rfl, ?_⟩) (by assumption) ?_
 rotate_left
 · (intro w' hSw; clear hSw; go_simp; first | done | with_reducible rfl)
 try simp only [Act.put, List.setIfInBounds_toArray, List.set_cons_zero, List.set_cons_succ]
 refine take_l 6 (v := ?_) rfl (by kernel_rfl) (by kernel_rfl) (by kernel_rfl) (fun _ _ _ h => h) (Or.inl ⟨by rfl, ?_⟩) (by assumption) ?_
 rotate_left
 · (intro w' hSw; clear hSw; go_simp; first | done | with_reducible rfl)
 try simp only [Act.put, List.setIfInBounds_toArray, List.set_cons_zero, List.set_cons_succ]
 refine take_l 7 (v := ?_) rfl (by kernel_rfl) (by kernel_rfl) (by kernel_rfl) (fun _ _ _ h => h) (Or.inl ⟨by rfl, ?_⟩) (by assumption) ?_
 rotate_left
 · (intro w' hSw; clear hSw; go_simp; first | done | with_reducible rfl)
 try simp only [Act.put, List.setIfInBounds_toArray, List.set_cons_zero, List.set_cons_succ]
 refine take_l 8 (v := ?_) rfl (by kernel_rfl) (by kernel_rfl) (by kernel_rfl) (fun _ _ _ h => h) (Or.inl ⟨by rfl, ?_⟩) (by assumption) ?_
 rotate_left
 · (intro w' hSw; have kq0 := hSw.1; have kq9 := hSw.2; clear hSw; go_simp; first | done | with_reducible rfl)
 try simp only [Act.put, List.setIfInBounds_toArray, List.set_cons_zero, List.set_cons_succ]
 refine cons_l 9 rfl (by kernel_rfl) (fun K hK => ?_)
 go_simp
 refine FRW.out.mono ?_; rintro _ w2 ⟨rfl, hw2⟩
 subst hw2
 go_simp
 refine hK.out _ _ ⟨q0, q9⟩ (fun hHeld => ?_)
 clear hK K
 try simp only [Act.put, List.setIfInBounds_toArray, List.set_cons_zero, List.set_cons_succ]
 refine take_l 10 (v := ?_) rfl (by kernel_rfl) (by kernel_rfl) (by kernel_rfl) (fun _ _ _ h => h) (Or.inl ⟨by rfl, ?_⟩) (by assumption) ?_
 rotate_left
 · (intro w' hSw; clear hSw; go_simp; first | done | with_reducible rfl)
 try simp only [Act.put, List.setIfInBounds_toArray, List.set_cons_zero, List.set_cons_succ]
 refine cons_l 11 rfl (by kernel_rfl) (fun K hK => ?_)
 go_simp
 have Q16 : (W.setCell ⟨w.heap.size + 1 + 1, 1, none⟩ (.int .u32 16777217)).drew.heap[w.heap.size + 1 + 1]? = some (.cells #[.int .u8 2, .int .u32 16777217, .int .u32 1, .string ⟨#[97]⟩, .int .u32 0, .string ⟨#[]⟩, .int .u16 0, .string ⟨#[]⟩] 111 (0, 0)) := by show (W.setCell ⟨w.heap.size + 1 + 1, 1, none⟩ (.int .u32 16777217)).heap[w.heap.size + 1 + 1]? = _; simp only [World.setCell]; simp [Array.getElem?_modify, Q15]
 have O16 : Ou (fun k => k = w.heap.size + 1 + 1) W (W.setCell ⟨w.heap.size + 1 + 1, 1, none⟩ (.int .u32 16777217)) := ((Ou.of (S := fun k => k = w.heap.size + 1 + 1) (Below.refl _ _)).set rfl)
 have F16 : (W.setCell ⟨w.heap.size + 1 + 1, 1, none⟩ (.int .u32 16777217)).drew.heap[w.heap.size + 1 + 1 + 1]? = _ := (O16.block (w.heap.size + 1 + 1 + 1) (lt_blkR F15) (by omega)).trans F15
 have E16 : (W.setCell ⟨w.heap.size + 1 + 1, 1, none⟩ (.int .u32 16777217)).drew.heap[w.heap.size + 1]? = _ := (O16.block (w.heap.size + 1) (lt_blkR E15) (by omega)).trans E15
 have A16 : (W.setCell ⟨w.heap.size + 1 + 1, 1, none⟩ (.int .u32 16777217)).drew.heap[w.heap.size]? = _ := (O16.block (w.heap.size) (lt_blkR A15) (by omega)).trans A15
 have B16 := hid (Below.drew (B15.out.trans (O16.below B15.out.size (fun k e => by omega))))
 have r0 := P0.out _ B16.out
 have r9 := P9.out _ B16.out
 refine hK.out _ _ ⟨r0, r9⟩ (fun hHeld => ?_)
 clear hK K
 try simp only [Act.put, List.setIfInBounds_toArray, List.set_cons_zero, List.set_cons_succ]
 refine wpAnyH_done (by kernel_rfl) ?_ _
 clear hHeld d1 fz O16 r0 r9 q0 q9 Q15 F15 E15 A15 FRW
 generalize (W.setCell ⟨w.heap.size + 1 + 1, 1, none⟩ (.int .u32 16777217)).drew = W2 at *
 have m3 : W2.cell? ⟨w.heap.size, 3, none⟩ = some (.int .u16 0) := cell_of_row2 A16 3 rfl
 have m6 : W2.cell? ⟨w.heap.size + 1 + 1, 6, none⟩ = some (.int .u16 0) := cell_of_row2 Q16 6 rfl
 have fz : ∀ i, W2.frozen? ⟨w.heap.size + 1 + 1, i, none⟩ = false := fun i => (by simp [World.frozen?, Q16])
 go_upto_region 25 with fail
 have Q17 : (W2.setCell ⟨w.heap.size + 1 + 1, 6, none⟩ (.int .u16 0)).heap[w.heap.size + 1 + 1]? = some (.cells #[.int .u8 2, .int .u32 16777217, .int .u32 1, .string ⟨#[97]⟩, .int .u32 0, .string ⟨#[]⟩, .int .u16 0, .string ⟨#[]⟩] 111 (0, 0)) := by simp only [World.setCell]; simp [Array.getElem?_modify, Q16]
 have O17 : Ou (fun k => k = w.heap.size + 1 + 1) W2 (W2.setCell ⟨w.heap.size + 1 + 1, 6, none⟩ (.int .u16 0)) := ((Ou.of (S := fun k => k = w.heap.size + 1 + 1) (Below.refl _ _)).set rfl)
 have F17 := (O17.block (w.heap.size + 1 + 1 + 1) (lt_blkR F16) (by omega)).trans F16
 have E17 := (O17.block (w.heap.size + 1) (lt_blkR E16) (by omega)).trans E16
 have B17 := hid (B16.out.trans (O17.below B16.out.size (fun k e => by omega)))
 clear m3 m6 fz O17 Q16 F16 E16 A16
 generalize (W2.setCell ⟨w.heap.size + 1 + 1, 6, none⟩ (.int .u16 0)) = W3 at *
 have Q17' : W3.drew.heap[w.heap.size + 1 + 1]? = _ := Q17
 have F17' : W3.drew.heap[w.heap.size + 1 + 1 + 1]? = _ := F17
 have E17' : W3.drew.heap[w.heap.size + 1]? = _ := E17
 have fz : ∀ i, W3.frozen? ⟨w.heap.size + 1, i, none⟩ = false := fun i => (by simp [World.frozen?, E17])
 have e0 : W3.cell? ⟨w.heap.size + 1, 0, none⟩ = some (.int .u8 0) := cell_of_row2 E17 0 rfl
 have e1 : W3.cell? ⟨w.heap.size + 1, 1, none⟩ = some (.int .u32 0) := cell_of_row2 E17 1 rfl
 have e2 : W3.cell? ⟨w.heap.size + 1, 2, none⟩ = some (.int .u32 0) := cell_of_row2 E17 2 rfl
 have e3 : W3.cell? ⟨w.heap.size + 1, 3, none⟩ = some (.string ⟨#[]⟩) := cell_of_row2 E17 3 rfl
 have e4 : W3.cell? ⟨w.heap.size + 1, 4, none⟩ = some (.int .u32 0) := cell_of_row2 E17 4 rfl
 have e5 : W3.cell? ⟨w.heap.size + 1, 5, none⟩ = some (.string ⟨#[]⟩) := cell_of_row2 E17 5 rfl
 have e6 : W3.cell? ⟨w.heap.size + 1, 6, none⟩ = some (.int .u16 0) := cell_of_row2 E17 6 rfl
 have e7 : W3.cell? ⟨w.heap.size + 1, 7, none⟩ = some (.string ⟨#[]⟩) := cell_of_row2 E17 7 rfl
 go_wp2_with fail
 refine wp_region_held_drew (S := fun w' => w'.heap[w.heap.size + 1 + 1]? = some (.cells #[.int .u8 2, .int .u32 16777217, .int .u32 1, .string ⟨#[97]⟩, .int .u32 0, .string ⟨#[]⟩, .int .u16 0, .string ⟨#[]⟩] 111 (0, 0)) ∧ w'.heap[w.heap.size + 1 + 1 + 1]? = some (.cells #[.slice a l.length cap, .int .i64 0] 224 (0, 0))) (by kernel_rfl) ⟨Q17', F17'⟩ (fun hHeld => ?_)
 refine take_l 0 (v := ?_) rfl (by kernel_rfl) (by kernel_rfl) (by kernel_rfl) (fun _ _ _ h => h) (Or.inl ⟨by rfl, ?_⟩) (by assumption) ?_
 rotate_left
 · (intro w' hSw; have kk0 : w'.cell? ⟨w.heap.size + 1 + 1, 0, none⟩ = some (.int .u8 2) := cell_of_row2 hSw.1 0 rfl; have kk1 : w'.cell? ⟨w.heap.size + 1 + 1, 1, none⟩ = some (.int .u32 16777217) := cell_of_row2 hSw.1 1 rfl; have kk2 : w'.cell? ⟨w.heap.size + 1 + 1, 2, none⟩ = some (.int .u32 1) := cell_of_row2 hSw.1 2 rfl; have kk3 : w'.cell? ⟨w.heap.size + 1 + 1, 3, none⟩ = some (.string ⟨#[97]⟩) := cell_of_row2 hSw.1 3 rfl; have kk4 : w'.cell? ⟨w.heap.size + 1 + 1, 4, none⟩ = some (.int .u32 0) := cell_of_row2 hSw.1 4 rfl; have kk5 : w'.cell? ⟨w.heap.size + 1 + 1, 5, none⟩ = some (.string ⟨#[]⟩) := cell_of_row2 hSw.1 5 rfl; have kk6 : w'.cell? ⟨w.heap.size + 1 + 1, 6, none⟩ = some (.int .u16 0) := cell_of_row2 hSw.1 6 rfl; have kk7 : w'.cell? ⟨w.heap.size + 1 + 1, 7, none⟩ = some (.string ⟨#[]⟩) := cell_of_row2 hSw.1 7 rfl; clear hSw; go_simp; first | done | with_reducible rfl)
 try simp only [Act.put, List.setIfInBounds_toArray, List.set_cons_zero, List.set_cons_succ]
 refine take_l 1 (v := ?_) rfl (by kernel_rfl) (by kernel_rfl) (by kernel_rfl) (fun _ _ _ h => h) (Or.inl ⟨by rfl, ?_⟩) (by assumption) ?_
 rotate_left
 · (intro w' hSw; clear hSw; go_simp; first | done | with_reducible rfl)
 try simp only [Act.put, List.setIfInBounds_toArray, List.set_cons_zero, List.set_cons_succ]
 refine take_l 2 (v := ?_) rfl (by kernel_rfl) (by kernel_rfl) (by kernel_rfl) (fun _ _ _ h => h) (Or.inl ⟨by rfl, ?_⟩) (by assumption) ?_
 rotate_left
 · (intro w' hSw; have kf : w'.cell? ⟨w.heap.size + 1 + 1 + 1, 1, none⟩ = some (.int .i64 0) := cell_of_row2 hSw.2 1 rfl; clear hSw; go_simp; first | done | with_reducible rfl)
 try simp only [Act.put, List.setIfInBounds_toArray, List.set_cons_zero, List.set_cons_succ]
 refine cons_l 3 rfl (by kernel_rfl) (fun K hK => ?_)
 go_simp
 have Q18 : ((((((((W3.setCell ⟨w.heap.size + 1, 0, none⟩ (.int .u8 2)).setCell ⟨w.heap.size + 1, 1, none⟩ (.int .u32 16777217)).setCell ⟨w.heap.size + 1, 2, none⟩ (.int .u32 1)).setCell ⟨w.heap.size + 1, 3, none⟩ (.string ⟨#[97]⟩)).setCell ⟨w.heap.size + 1, 4, none⟩ (.int .u32 0)).setCell ⟨w.heap.size + 1, 5, none⟩ (.string ⟨#[]⟩)).setCell ⟨w.heap.size + 1, 6, none⟩ (.int .u16 0)).setCell ⟨w.heap.size + 1, 7, none⟩ (.string ⟨#[]⟩)).drew.heap[w.heap.size + 1]? = some (.cells #[.int .u8 2, .int .u32 16777217, .int .u32 1, .string ⟨#[97]⟩, .int .u32 0, .string ⟨#[]⟩, .int .u16 0, .string ⟨#[]⟩] 111 (0, 0)) := (heap_drewAt _ _).trans (eight_all E17 _ _ _ _ _ _ _ _)
 have O18 : Ou (fun k => k = w.heap.size + 1) W3 ((((((((W3.setCell ⟨w.heap.size + 1, 0, none⟩ (.int .u8 2)).setCell ⟨w.heap.size + 1, 1, none⟩ (.int .u32 16777217)).setCell ⟨w.heap.size + 1, 2, none⟩ (.int .u32 1)).setCell ⟨w.heap.size + 1, 3, none⟩ (.string ⟨#[97]⟩)).setCell ⟨w.heap.size + 1, 4, none⟩ (.int .u32 0)).setCell ⟨w.heap.size + 1, 5, none⟩ (.string ⟨#[]⟩)).setCell ⟨w.heap.size + 1, 6, none⟩ (.int .u16 0)).setCell ⟨w.heap.size + 1, 7, none⟩ (.string ⟨#[]⟩)) := ou_eight _ _ _ _ _ _ _ _ _ _
 have G18 : ((((((((W3.setCell ⟨w.heap.size + 1, 0, none⟩ (.int .u8 2)).setCell ⟨w.heap.size + 1, 1, none⟩ (.int .u32 16777217)).setCell ⟨w.heap.size + 1, 2, none⟩ (.int .u32 1)).setCell ⟨w.heap.size + 1, 3, none⟩ (.string ⟨#[97]⟩)).setCell ⟨w.heap.size + 1, 4, none⟩ (.int .u32 0)).setCell ⟨w.heap.size + 1, 5, none⟩ (.string ⟨#[]⟩)).setCell ⟨w.heap.size + 1, 6, none⟩ (.int .u16 0)).setCell ⟨w.heap.size + 1, 7, none⟩ (.string ⟨#[]⟩)).drew.heap[w.heap.size + 1 + 1]? = _ := (heap_drewAt _ _).trans ((O18.block (w.heap.size + 1 + 1) (lt_blkR Q17) (by omega)).trans Q17)
 have F18 : ((((((((W3.setCell ⟨w.heap.size + 1, 0, none⟩ (.int .u8 2)).setCell ⟨w.heap.size + 1, 1, none⟩ (.int .u32 16777217)).setCell ⟨w.heap.size + 1, 2, none⟩ (.int .u32 1)).setCell ⟨w.heap.size + 1, 3, none⟩ (.string ⟨#[97]⟩)).setCell ⟨w.heap.size + 1, 4, none⟩ (.int .u32 0)).setCell ⟨w.heap.size + 1, 5, none⟩ (.string ⟨#[]⟩)).setCell ⟨w.heap.size + 1, 6, none⟩ (.int .u16 0)).setCell ⟨w.heap.size + 1, 7, none⟩ (.string ⟨#[]⟩)).drew.heap[w.heap.size + 1 + 1 + 1]? = _ := (heap_drewAt _ _).trans ((O18.block (w.heap.size + 1 + 1 + 1) (lt_blkR F17) (by omega)).trans F17)
 have B18 := hid (Below.drew (B17.out.trans (O18.below B17.out.size (fun k e => by omega))))
 refine hK.out _ _ ⟨G18, F18⟩ (fun hHeld => ?_)
 clear hK K
 try simp only [Act.put, List.setIfInBounds_toArray, List.set_cons_zero, List.set_cons_succ]
 refine take_l 4 (v := ?_) rfl (by kernel_rfl) (by kernel_rfl) (by kernel_rfl) (fun _ _ _ h => h) (Or.inl ⟨by rfl, ?_⟩) (by assumption) ?_
 rotate_left
 · (intro w' hSw; clear hSw; go_simp; first | done | with_reducible rfl)
 try simp only [Act.put, List.setIfInBounds_toArray, List.set_cons_zero, List.set_cons_succ]
 refine wpAnyH_done (by kernel_rfl) ?_ _
 clear hHeld e0 e1 e2 e3 e4 e5 e6 e7 fz O18 Q17 Q17' F17 F17' E17 E17'
 generalize ((((((((W3.setCell ⟨w.heap.size + 1, 0, none⟩ (.int .u8 2)).setCell ⟨w.heap.size + 1, 1, none⟩ (.int .u32 16777217)).setCell ⟨w.heap.size + 1, 2, none⟩ (.int .u32 1)).setCell ⟨w.heap.size + 1, 3, none⟩ (.string ⟨#[97]⟩)).setCell ⟨w.heap.size + 1, 4, none⟩ (.int .u32 0)).setCell ⟨w.heap.size + 1, 5, none⟩ (.string ⟨#[]⟩)).setCell ⟨w.heap.size + 1, 6, none⟩ (.int .u16 0)).setCell ⟨w.heap.size + 1, 7, none⟩ (.string ⟨#[]⟩)).drew = W4 at *
 have r0 : W4.cell? ⟨w.heap.size + 1, 0, none⟩ = some (.int .u8 2) := cell_of_row2 Q18 0 rfl
 have r1 : W4.cell? ⟨w.heap.size + 1, 1, none⟩ = some (.int .u32 16777217) := cell_of_row2 Q18 1 rfl
 have r2 : W4.cell? ⟨w.heap.size + 1, 2, none⟩ = some (.int .u32 1) := cell_of_row2 Q18 2 rfl
 have r3 : W4.cell? ⟨w.heap.size + 1, 3, none⟩ = some (.string ⟨#[97]⟩) := cell_of_row2 Q18 3 rfl
 have r4 : W4.cell? ⟨w.heap.size + 1, 4, none⟩ = some (.int .u32 0) := cell_of_row2 Q18 4 rfl
 have r5 : W4.cell? ⟨w.heap.size + 1, 5, none⟩ = some (.string ⟨#[]⟩) := cell_of_row2 Q18 5 rfl
 have r6 : W4.cell? ⟨w.heap.size + 1, 6, none⟩ = some (.int .u16 0) := cell_of_row2 Q18 6 rfl
 have r7 : W4.cell? ⟨w.heap.size + 1, 7, none⟩ = some (.string ⟨#[]⟩) := cell_of_row2 Q18 7 rfl
 go_wp2
 refine bodyPost_ret (v := .tuple #[.agg #[.int .u8 2, .int .u32 16777217, .int .u32 1, .string ⟨#[97]⟩, .int .u32 0, .string ⟨#[]⟩, .int .u16 0, .string ⟨#[]⟩], .int .i64 0]) (by simp [results, Tryz.results74, go_sem, r0, r1, r2, r3, r4, r5, r6, r7]) rfl ⟨rfl, B18.out⟩
end Go.Proofs.YtfmghbennahlfaaGreat
