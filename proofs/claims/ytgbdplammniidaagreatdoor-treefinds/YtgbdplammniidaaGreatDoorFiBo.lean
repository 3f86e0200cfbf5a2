/-
  The package tree: do.
  The package tree: try: an operation on a table, or its error.
-/
import Derived.Test.YtgbdplammniidaaGreatDoorFiBi
import Derived.Test.YtgbdplammniidaaGreatDoorFiBj
import Derived.Test.YtgbdplammniidaaGreatDoorFiBk
import Derived.Test.YtgbdplammniidaaGreatDoorFiBl
import Derived.Test.YtgbdplammniidaaGreatDoorFiBm
import Derived.Test.YtgbdplammniidaaGreatDoorFiBn
namespace Go.Proofs.YtgbdplammniidaaGreatDoor
open Go.RowKit Go.ChangeShapes Go.WideShapes Go.ChangeAt Go.Maps Go.Shelf
set_option linter.unusedVariables false
set_option linter.unusedSimpArgs false
set_option maxRecDepth 100000
theorem NdW.mode {w : World} {base : Nat} {x : Nd} (h : NdW w base x) {m : Int} (h0 : 0 ≤ m) (h1 : m < 65536) : NdW w base ⟨x.fid, x.k, m, x.ln, x.da, x.dc, x.zs, x.ka, x.kc, x.ks⟩ := by
 obtain ⟨⟨f1, f2, f3, f4, f5, f6, f7, f8⟩, ⟨n1, n2⟩, r1, r2⟩ := h
 exact ⟨⟨f1, f2, ⟨h0, h1⟩, f4, f5, f6, f7, f8⟩, ⟨n1, n2⟩, r1, r2⟩
theorem tdo_c {w : World} {base tb : Nat} {N : Tab} {l : List Nd} (o : Rec) (h : MT w base tb l.length N) (hR : Rel N l) (R : Rt l) (ho : o.Wf) :
   Calls Tryz.prog 59 #[.map (some tb), o.opV] w (DoP w base tb (ApplyL l o)) := by
 cases hr : rightF o with
 | false => exact do_no o ho hr
 | true =>
 obtain ⟨⟨c, L⟩, hx⟩ : ∃ r, r = ApplyL l o := ⟨_, rfl⟩
 rw [← hx]
 have hz := h.size
 have hwf := ho
 have hdt := rightF_dt hr
 obtain ⟨_, hfi, hda⟩ := rightF_parts hr
 have hk := ok_kinds hr
 obtain ⟨k, fid, dir, nm, tof, nm2, md, dt, sn⟩ := o
 obtain ⟨_, hf, hdr, hto, hmd, _, hz1, hz2, hz3⟩ := ho
 simp only at hk hdt hfi hda hf hmd hz1 hz2
 rcases hk with hk | hk | hk | hk | hk | hk | hk | hk | hk
 · have hk : k = 1 := hk
   subst hk
   refine do_1 fid dir nm tof nm2 md dt sn hz hz1 hz2 hr (hid (fun W hW => ?_))
   rw [hx, apply_1 R hr (by simp)]
   exact tcreate_c _ 1 (h.later hW) hR R hwf (hfi rfl) rfl (by show dt.size ≤ 1000; omega) (fun _ => dat_len hda rfl)
 · have hk : k = 2 := hk
   subst hk
   refine do_2 fid dir nm tof nm2 md dt sn hz hz1 hz2 hr (hid (fun W hW => ?_))
   rw [hx, apply_1 R hr (by simp)]
   exact tcreate_c _ 2 (h.later hW) hR R hwf (hfi rfl) rfl (by show dt.size ≤ 1000; omega) (fun _ => dat_len hda rfl)
 · have hk : k = 3 := hk
   subst hk
   refine do_3 fid dir nm tof nm2 md dt sn hz hz1 hz2 hr (hid (fun W hW => ?_))
   rw [hx, apply_1 R hr (by simp)]
   exact tcreate_c _ 3 (h.later hW) hR R hwf (hfi rfl) rfl (by show dt.size ≤ 1000; omega) (fun e => absurd rfl e)
 · have hk : k = 4 := hk
   subst hk
   refine do_4 fid dir nm tof nm2 md dt sn hz hz1 hz2 hr (hid (fun W hW => ?_))
   rw [hx, apply_4 R hr rfl]
   exact thard_c _ (h.later hW) hR R hwf (hfi rfl)
 · have hk : k = 5 := hk
   subst hk
   refine do_5 fid dir nm tof nm2 md dt sn hz hz1 hz2 hr (hid (fun W hW => ?_))
   rw [hx, apply_5 R hr (by simp)]
   exact tunlink_c _ (h.later hW) hR R hwf rfl
 · have hk : k = 6 := hk
   subst hk
   refine do_6 fid dir nm tof nm2 md dt sn hz hz1 hz2 hr (hid (fun W hW => ?_))
   rw [hx, apply_5 R hr (by simp)]
   exact trmdir_c _ (h.later hW) hR R hwf rfl
 · have hk : k = 7 := hk
   subst hk
   refine do_7 fid dir nm tof nm2 md dt sn hz hz1 hz2 hr (hid (fun W hW => ?_))
   rw [hx, apply_7 R hr rfl]
   exact trename_c _ (h.later hW) hR R hwf
 · have hk : k = 8 := hk
   subst hk
   refine do_8 fid dir nm tof nm2 md dt sn hz hz1 hz2 hr (hid (fun W hW => ?_))
   rw [hx, apply_8 R hr (by simp)]
   exact tstore_c _ (h.later hW) hR R hwf (by show (8 : Int) ≠ 9; decide) (by show dt.size ≤ 1000; omega)
 · subst hk
   cases hN : N fid with
   | none =>
     exact do_9n fid dir nm tof nm2 md dt sn hz hz1 hz2 hr (hid (by rw [hx, apply_8 R hr (by simp)]; exact write_n (hR.no hN))) (hid (fun W hW => tnode_n (h.later hW) hf.1 hf.2 hN))
   | some z =>
     obtain ⟨p, x⟩ := z
     obtain ⟨hbp, hli, hw, hfd⟩ := h.nd fid p x hN
     have hsp := hli.1
     have hlt := hli.lt
     have hl := hR.got hN
     obtain ⟨pb, po, ps⟩ := p
     simp only at hsp hlt
     subst hsp
     refine do_9s fid dir nm tof nm2 md dt sn hz hz1 hz2 hr (pb := pb) (po := po) hlt (hid (fun W hW => ⟨(hli.later hW).fz _, _, (hli.later hW).ndc.all.2.2.1⟩)) (hid (fun W hW => tnode_s (h.later hW) hf.1 hf.2 hN)) (hid (fun W hW => ?_))
     have MW := h.later hW
     have M2 := MW.put hN (i := 2) (by omega) (x' := ⟨x.fid, x.k, md, x.ln, x.da, x.dc, x.zs, x.ka, x.kc, x.ks⟩) (v := .int .u16 md) rfl hfd ((MW.nd fid _ x hN).2.2.1.mode hmd.1 hmd.2) rfl
     have RL := hR.set (p := ⟨pb, po, none⟩) (x := ⟨x.fid, x.k, md, x.ln, x.da, x.dc, x.zs, x.ka, x.kc, x.ks⟩) (y := x.er.wr ⟨9, fid, dir, nm, tof, nm2, md, dt, sn⟩) (f := fid) rfl (by rw [wr_fid]; exact hfd)
     refine DoP.ok (by rw [hx, apply_8 R hr (by simp)]; exact write_do hl (.inl rfl)) (set_len R.srt (by rw [wr_fid]; show getF l x.fid = _; rw [hfd]; exact hl)).symm M2 RL ?_
     exact (Keeps.of hW hz).trans (MW.keeps hN _ _)
theorem NdW.setE {w : World} {base : Nat} {x : Nd} {q : Addr} {cs : Array Value} {fr : Nat × Nat} (h : NdW w base x) (hq : w.heap[q.block]? = some (.cells cs 27 fr)) (u : Value) : NdW (w.setCell q u) base x :=
 ⟨h.1, h.2.1, h.2.2.1.setR hq (by decide) u, own_setT h.2.2.2 hq (by decide) u⟩
theorem MT.setE {w : World} {base tb m : Nat} {N : Tab} {q : Addr} {cs : Array Value} {fr : Nat × Nat} (h : MT w base tb m N) (hq : w.heap[q.block]? = some (.cells cs 27 fr)) (u : Value) : MT (w.setCell q u) base tb m N := by
 refine ⟨h.map.keep (Below.heap_setCell _ _ _ _ (fun e => ?_)), h.low, fun f p x e => ?_, h.ap, h.ka⟩
 · obtain ⟨es, cl, hm⟩ := h.map.obj
   rw [e, hq] at hm
   cases hm
 · obtain ⟨h1, h2, h3, h4⟩ := h.nd f p x e
   refine ⟨h1, h2.keep (Below.heap_setCell _ _ _ _ (fun e2 => ?_)), h3.setE hq u, h4⟩
   obtain ⟨_, cs2, hb, _⟩ := h2
   rw [e2, hq] at hb
   cases hb
def TryP (w : World) (base tb : Nat) (r : Int × List Nd) (e : Ending) (w' : World) : Prop :=
 e = .returned (.int .i64 r.1) ∧ ((r.1 = 0 ∧ (∃ N', MT w' base tb r.2.length N' ∧ Rel N' r.2) ∧ Below base w w') ∨ (r.1 ≠ 0 ∧ Below w.heap.size w w'))
set_option maxHeartbeats 2000000 in
theorem tcatch_idle (p : Addr) (w : World) :
   CallsD Tryz.prog 58 #[.pointer (some p)] .returning w fun e u' w' => e = .returned (.tuple #[]) ∧ u' = .returning ∧ w' = w := by
 refine callsD_of_wpS Tryz.func58 rfl fun c₀ cs hu => ?_
 apply wpS_seq
 apply wpS_region
 simp [wpOpsS, go_sem, recoverD, hu, Tryz.ntmps58, Exit.thenS]
 refine wpS_of_wp ?_
 go_wp2
 cases c₀
 simp_all [bodyPostS, results, Tryz.results58]
set_option maxHeartbeats 2000000 in
theorem tcatch_panicking (p : Addr) (c x : Int) (older : List PanicEntry) (w : World) (hc : w.cell? p = some (.int .i64 x)) (hz : w.frozen? p = false) (hp : p.block < w.heap.size) :
   CallsD Tryz.prog 58 #[.pointer (some p)] (.panicking ({ v := .iface 91 (.agg #[.int .i64 c]), recovered := false } :: older)) w fun e u' w' =>
     e = .returned (.tuple #[]) ∧ u' = .panicking ({ v := .iface 91 (.agg #[.int .i64 c]), recovered := true } :: older) ∧ w' = (w.alloc (.cells #[.int .i64 c] 91)).setCell p (.int .i64 c) := by
 refine callsD_of_wpS Tryz.func58 rfl fun c₀ cs hu => ?_
 apply wpS_seq
 apply wpS_region
 simp [wpOpsS, go_sem, recoverD, hu, Tryz.ntmps58, Exit.thenS]
 refine wpS_of_wp ?_
 have hta : ∀ W : World, (Instr.typeAssert (.iface 91 (.agg #[.int .i64 c])) 20 91 true).run Tryz.prog W = .ok (.tuple #[.agg #[.int .i64 c], .bool true]) W := fun W => by
   simp [Instr.typeAssert, go_sem, Tryz.underlying91]
 have hne : p.block ≠ w.heap.size := by omega
 have hc2 : (w.alloc (.cells #[.int .i64 c] 91)).cell? p = some (.int .i64 x) := cell_later (below_1 w _) hc
 have hz2 : (w.alloc (.cells #[.int .i64 c] 91)).frozen? p = false := by rw [World.frozen?_of_block ((below_1 w (.cells #[.int .i64 c] 91)).block p.block hp)]; exact hz
 go_wp2
 simp [bodyPostS, results, Tryz.results58]
set_option maxHeartbeats 4000000 in
theorem ttry_c {w : World} {base tb : Nat} {N : Tab} {l : List Nd} (o : Rec) (h : MT w base tb l.length N) (hR : Rel N l) (R : Rt l) (ho : o.Wf) :
   Calls Tryz.prog 40 #[.map (some tb), o.opV] w (TryP w base tb (ApplyL l o)) := by
 have hmf : ∀ (fn : Fn) (first cap : Array Value) (w : World), (Instr.makeFunc fn first cap).run Tryz.prog w = .ok (.func fn first cap) w := fun _ _ _ _ => rfl
 obtain ⟨⟨c, L⟩, hx⟩ : ∃ r, r = ApplyL l o := ⟨_, rfl⟩
 have hz := h.size
 obtain ⟨k, fid, dir, nm, tof, nm2, md, dt, sn⟩ := o
 have b0 := below_1 w (.cells #[.int .u8 k, .int .u32 fid, .int .u32 dir, .string nm, .int .u32 tof, .string nm2, .int .u16 md, .string dt] 58)
 have hB0 := heap_alloc_new w (.cells #[.int .u8 k, .int .u32 fid, .int .u32 dir, .string nm, .int .u32 tof, .string nm2, .int .u16 md, .string dt] 58)
 have s0 : (w.alloc (.cells #[.int .u8 k, .int .u32 fid, .int .u32 dir, .string nm, .int .u32 tof, .string nm2, .int .u16 md, .string dt] 58)).heap.size = w.heap.size + 1 := by simp
 have b1 := below_1 (w.alloc (.cells #[.int .u8 k, .int .u32 fid, .int .u32 dir, .string nm, .int .u32 tof, .string nm2, .int .u16 md, .string dt] 58)) (.cells #[.int .i64 0] 27)
 have hE1 := heap_alloc_new (w.alloc (.cells #[.int .u8 k, .int .u32 fid, .int .u32 dir, .string nm, .int .u32 tof, .string nm2, .int .u16 md, .string dt] 58)) (.cells #[.int .i64 0] 27)
 rw [s0] at hE1
 have hB1 := (b1.block _ (lt_blkR hB0)).trans hB0
 have B1 := hid (b0.trans (b1.mono b0.size))
 have DC0 := tdo_c ⟨k, fid, dir, nm, tof, nm2, md, dt, sn⟩ ((h.later b0).later b1) hR R ho
 rw [← hx] at DC0 ⊢
 have DC := hid DC0
 have HE1 := hid hE1
 have HZ := hid hz
 simp only [Rec.opV] at DC ⊢
 have o0 : ((w.alloc (.cells #[.int .u8 k, .int .u32 fid, .int .u32 dir, .string nm, .int .u32 tof, .string nm2, .int .u16 md, .string dt] 58)).alloc (.cells #[.int .i64 0] 27)).cell? ⟨w.heap.size, 0, none⟩ = some (.int .u8 k) := cell_of_row2 hB1 0 rfl
 have o1 : ((w.alloc (.cells #[.int .u8 k, .int .u32 fid, .int .u32 dir, .string nm, .int .u32 tof, .string nm2, .int .u16 md, .string dt] 58)).alloc (.cells #[.int .i64 0] 27)).cell? ⟨w.heap.size, 1, none⟩ = some (.int .u32 fid) := cell_of_row2 hB1 1 rfl
 have o2 : ((w.alloc (.cells #[.int .u8 k, .int .u32 fid, .int .u32 dir, .string nm, .int .u32 tof, .string nm2, .int .u16 md, .string dt] 58)).alloc (.cells #[.int .i64 0] 27)).cell? ⟨w.heap.size, 2, none⟩ = some (.int .u32 dir) := cell_of_row2 hB1 2 rfl
 have o3 : ((w.alloc (.cells #[.int .u8 k, .int .u32 fid, .int .u32 dir, .string nm, .int .u32 tof, .string nm2, .int .u16 md, .string dt] 58)).alloc (.cells #[.int .i64 0] 27)).cell? ⟨w.heap.size, 3, none⟩ = some (.string nm) := cell_of_row2 hB1 3 rfl
 have o4 : ((w.alloc (.cells #[.int .u8 k, .int .u32 fid, .int .u32 dir, .string nm, .int .u32 tof, .string nm2, .int .u16 md, .string dt] 58)).alloc (.cells #[.int .i64 0] 27)).cell? ⟨w.heap.size, 4, none⟩ = some (.int .u32 tof) := cell_of_row2 hB1 4 rfl
 have o5 : ((w.alloc (.cells #[.int .u8 k, .int .u32 fid, .int .u32 dir, .string nm, .int .u32 tof, .string nm2, .int .u16 md, .string dt] 58)).alloc (.cells #[.int .i64 0] 27)).cell? ⟨w.heap.size, 5, none⟩ = some (.string nm2) := cell_of_row2 hB1 5 rfl
 have o6 : ((w.alloc (.cells #[.int .u8 k, .int .u32 fid, .int .u32 dir, .string nm, .int .u32 tof, .string nm2, .int .u16 md, .string dt] 58)).alloc (.cells #[.int .i64 0] 27)).cell? ⟨w.heap.size, 6, none⟩ = some (.int .u16 md) := cell_of_row2 hB1 6 rfl
 have o7 : ((w.alloc (.cells #[.int .u8 k, .int .u32 fid, .int .u32 dir, .string nm, .int .u32 tof, .string nm2, .int .u16 md, .string dt] 58)).alloc (.cells #[.int .i64 0] 27)).cell? ⟨w.heap.size, 7, none⟩ = some (.string dt) := cell_of_row2 hB1 7 rfl
 clear h hR R ho hx b0 b1 hB0 hB1 hE1 s0 DC0 hz
 by_cases hc : c = 0
 · go_enter_defers Tryz.func40, Tryz.ntmps40
   go_wp2_with (go_at_call 59; refine DC.out.mono ?_; intro e2 w2 hD
                obtain ⟨rfl, hF⟩ := hD.out0 hc
                have hK : (∃ N', MT w2 base tb L.length N' ∧ Rel N' L) ∧ Keeps base ((w.alloc (.cells #[.int .u8 k, .int .u32 fid, .int .u32 dir, .string nm, .int .u32 tof, .string nm2, .int .u16 md, .string dt] 58)).alloc (.cells #[.int .i64 0] 27)) w2 := by
                  rcases hF with ⟨_, _, h3, h4⟩ | ⟨h1, _, _⟩
                  · exact ⟨h3, h4⟩
                  · exact absurd hc h1
                have hE2 := hK.2.2 _ _ _ _ HE1.out (by decide) (by decide)
                have fe : w2.frozen? ⟨w.heap.size + 1, 0, none⟩ = false := by simp [World.frozen?, hE2]
                have ce : w2.cell? ⟨w.heap.size + 1, 0, none⟩ = some (.int .i64 0) := by rw [cell_of_row _ _ _ _ _ _ hE2]; rfl
                have HK := hid hK
                have HE2 := hid hE2
                clear hK hE2 hF hD)
   refine leaves_cons (f := 58) (args := #[.pointer (some ⟨w.heap.size + 1, 0, none⟩)]) (by simp) (by simp [go_sem]) ?_
   refine (tcatch_idle ⟨w.heap.size + 1, 0, none⟩ _).mono ?_
   rintro e u' w'' ⟨rfl, rfl, rfl⟩
   have cz := World.cell?_setCell_same w2 ⟨w.heap.size + 1, 0, none⟩ (.int .i64 0) ce
   obtain ⟨⟨N', hM, hR'⟩, hkb⟩ := HK.out
   have M3 := hM.setE (q := ⟨w.heap.size + 1, 0, none⟩) HE2.out (.int .i64 0)
   have B3 : Below base w (w2.setCell ⟨w.heap.size + 1, 0, none⟩ (.int .i64 0)) := ((B1.out.mono HZ.out).trans hkb.1).setCell (p := ⟨w.heap.size + 1, 0, none⟩) (by show base ≤ w.heap.size + 1; have := HZ.out; omega) _
   generalize w2.setCell ⟨w.heap.size + 1, 0, none⟩ (.int .i64 0) = w3 at *
   simp [Leaves, settle, results, Tryz.results40, go_sem, cz]
   exact ⟨by rw [hc], .inl ⟨hc, ⟨N', M3, hR'⟩, B3⟩⟩
 · go_enter_defers Tryz.func40, Tryz.ntmps40
   go_wp2_with (go_at_call 59; refine DC.out.mono ?_; intro e2 w2 hD
                obtain ⟨rfl, hF⟩ := hD.out1 hc
                have hK : Below ((w.alloc (.cells #[.int .u8 k, .int .u32 fid, .int .u32 dir, .string nm, .int .u32 tof, .string nm2, .int .u16 md, .string dt] 58)).alloc (.cells #[.int .i64 0] 27)).heap.size ((w.alloc (.cells #[.int .u8 k, .int .u32 fid, .int .u32 dir, .string nm, .int .u32 tof, .string nm2, .int .u16 md, .string dt] 58)).alloc (.cells #[.int .i64 0] 27)) w2 := by
                  rcases hF with ⟨h1, _, _, _⟩ | ⟨_, _, h4⟩
                  · exact absurd h1 hc
                  · exact h4
                have hE2 := (hK.block _ (lt_blkR HE1.out)).trans HE1.out
                have fe : w2.frozen? ⟨w.heap.size + 1, 0, none⟩ = false := by simp [World.frozen?, hE2]
                have ce : w2.cell? ⟨w.heap.size + 1, 0, none⟩ = some (.int .i64 0) := by rw [cell_of_row _ _ _ _ _ _ hE2]; rfl
                have HK := hid hK
                have HE2 := hid hE2
                clear hK hE2 hF hD)
   refine leaves_cons (f := 58) (args := #[.pointer (some ⟨w.heap.size + 1, 0, none⟩)]) (by simp) (by simp [go_sem]) ?_
   refine (tcatch_panicking ⟨w.heap.size + 1, 0, none⟩ c 0 [] w2 ce fe (lt_blkR HE2.out)).mono ?_
   have b3 := below_1 w2 (.cells #[.int .i64 c] 91)
   have hE3 := heap_setBox (W := w2.alloc (.cells #[.int .i64 c] 91)) (.int .i64 c) ((b3.block _ (lt_blkR HE2.out)).trans HE2.out)
   have rE := cell_box hE3
   have B3 := hid (((B1.out.trans (HK.out.mono B1.out.size)).trans (b3.mono (Nat.le_trans B1.out.size HK.out.size))).setCell (p := ⟨w.heap.size + 1, 0, none⟩) (by simp) (.int .i64 c))
   rintro e u' w'' ⟨rfl, rfl, hw⟩
   rw [hw]
   generalize (w2.alloc (.cells #[.int .i64 c] 91)).setCell ⟨w.heap.size + 1, 0, none⟩ (.int .i64 c) = w4 at *
   simp [Leaves, settle, results, Tryz.results40, go_sem, rE]
   exact ⟨rfl, .inr ⟨hc, B3.out⟩⟩
end Go.Proofs.YtgbdplammniidaaGreatDoor
