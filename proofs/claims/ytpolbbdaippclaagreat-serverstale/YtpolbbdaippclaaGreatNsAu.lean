/-
  
-/
import Derived.Test.YtpolbbdaippclaaGreatNsAt
import Derived.Test.YtpolbbdaippclaaGreatNsAe
namespace Go.Proofs.YtpolbbdaippclaaGreat
open Go.RowKit Go.ChangeShapes Go.WideShapes Go.ChangeAt Go.Maps Go.Shelf
set_option linter.unusedVariables false
set_option linter.unusedSimpArgs false
set_option maxRecDepth 100000
def Rec.recV (x : Rec) : Value := .agg #[.int .u8 x.k, .int .u32 x.fid, .int .u32 x.dir, .string x.nm, .int .u32 x.to, .string x.nm2, .int .u16 x.md, .string x.dt, .int .u64 x.sn]
theorem NsO.setS {w : World} {base : Nat} {v : Value} {l : List Nd} {q : Addr} {cs : Array Value} {t : TypeId} {fr : Nat × Nat} (h : NsO w base v l) (hq : w.heap[q.block]? = some (.cells cs t fr)) (n1 : 52 ≠ t) (n2 : 117 ≠ t) (n3 : 5 ≠ t) (u : Value) : NsO (w.setCell q u) base v l :=
 ⟨own_setQ h.1 hq n1 u, fun x hx => ⟨(h.2 x hx).1, (h.2 x hx).2.1, (h.2 x hx).2.2.1.setR hq n3 u, (h.2 x hx).2.2.2.setR hq n2 u⟩⟩
theorem OwT.setS {w : World} {base : Nat} {v : Value} {l : List St} {q : Addr} {cs : Array Value} {t : TypeId} {fr : Nat × Nat} (h : OwT w base v l) (hq : w.heap[q.block]? = some (.cells cs t fr)) (n1 : 47 ≠ t) (u : Value) : OwT (w.setCell q u) base v l := own_setQ h hq n1 u
set_option maxHeartbeats 8000000 in
theorem try_c {b : Nat} {w : World} (o : Rec) (cl : Int) (ad bd : Addr) (ca cb : Nat) (l : List Nd) (ss : List St) (ver d0 d1 d2 : Int) (ve : Value) (L : List Nd)
   (hrow : w.heap[b]? = some (.cells #[.slice (some ad) l.length ca, .slice (some bd) ss.length cb, .int .u64 ver, .int .u32 d0, .int .u32 d1, .int .u32 d2, ve] 76 (0, 0))) (h : IsNs w (some ad) l) (hs : IsSs w (some bd) ss) (hll : ss.length = l.length) (hm : l.length ≤ 900) (hv0 : 0 ≤ ver) (hv1 : ver + 1 < 18446744073709551616)
   (hcl : 0 ≤ cl ∧ cl < 256) (ho : o.Wf)
   (CH : ∀ W, Calls Tryz.prog 110 #[.int .u8 o.k] W fun e w' => e = .returned (.bool true) ∧ w' = W)
   (ST : ∀ W, Below w.heap.size w W → Calls Tryz.prog 107 #[.pointer (some ⟨b, 0, none⟩), .int .u8 cl, o.recV] W fun e w' => e = .returned (.bool false) ∧ Below W.heap.size W w')
   (AP : ∀ W, Below w.heap.size w W → Calls Tryz.prog 108 #[.slice (some ad) l.length ca, o.opV] W (ResO W (0, L)))
   (hL0 : 0 < L.length) (hL : L.length ≤ 900) (hp : 0 ≤ plI L o.fid) :
   Calls Tryz.prog 71 #[.pointer (some ⟨b, 0, none⟩), .int .u8 cl, o.recV] w fun e w' => e = .returned (.int .i64 0) ∧ ∃ g cap g2 cap2 L', w'.heap[b]? = some (.cells #[.slice (some ⟨g, 0, none⟩) L'.length cap, .slice (some ⟨g2, 0, none⟩) (stampsS l ss L' o.fid (ver + 1) cl).length cap2, .int .u64 (ver + 1), .int .u32 d0, .int .u32 d1, .int .u32 d2, ve] 76 (0, 0)) ∧ NsO w' w.heap.size (.slice (some ⟨g, 0, none⟩) L'.length cap) L' ∧ L'.map Nd.er = L ∧ OwT w' w.heap.size (.slice (some ⟨g2, 0, none⟩) (stampsS l ss L' o.fid (ver + 1) cl).length cap2) (stampsS l ss L' o.fid (ver + 1) cl) ∧ Ou (fun k => k = b) w w' := by
 have HO := hid ho
 have WF : Hid ((⟨o.fid, ver + 1, cl⟩ : St).Wf) := hid ⟨ho.2.1, ⟨(by show (0 : Int) ≤ ver + 1; omega), hv1⟩, hcl⟩
 have SWF := hid hs.2.1
 obtain ⟨k, fid, dir, nm, tof, nm2, md, dt, sn⟩ := o
 have CHH := hid CH
 have STH := hid ST
 have APH := hid AP
 have HI := hid h
 have HS := hid hs
 have HLL := hid hll
 have HP := hid hp
 have HL0 := hid hL0
 have HR := hid hrow
 simp only [Rec.recV, Rec.opV] at *
 have b0 := below_1 w (.cells #[.int .u8 k, .int .u32 fid, .int .u32 dir, .string nm, .int .u32 tof, .string nm2, .int .u16 md, .string dt, .int .u64 sn] 39)
 have h0 := heap_alloc_new w (.cells #[.int .u8 k, .int .u32 fid, .int .u32 dir, .string nm, .int .u32 tof, .string nm2, .int .u16 md, .string dt, .int .u64 sn] 39)
 have B0 := hid b0
 have H0 := hid h0
 have hr0 := (b0.block _ (lt_blkR hrow)).trans hrow
 have HR0 := hid hr0
 have hbl : b < w.heap.size := lt_blkR hrow
 clear b0 hrow CH ST AP h hs hll hp ho
 go_enter Tryz.func71, Tryz.ntmps71
 go_upto_region 1 with fail
 generalize (w.alloc (.cells #[.int .u8 k, .int .u32 fid, .int .u32 dir, .string nm, .int .u32 tof, .string nm2, .int .u16 md, .string dt, .int .u64 sn] 39)) = V at *
 obtain ⟨g0, hg0⟩ : ∃ g0, g0 = w.heap.size := ⟨_, rfl⟩
 have HG0 := hid hg0
 rw [← hg0] at h0 H0
 rw [← hg0]
 rw [← hg0] at hbl
 have c0 : V.cell? ⟨g0, 0, none⟩ = some (.int .u8 k) := cell_of_row2 h0 0 rfl
 have c1 : V.cell? ⟨g0, 1, none⟩ = some (.int .u32 fid) := cell_of_row2 h0 1 rfl
 have c2 : V.cell? ⟨g0, 2, none⟩ = some (.int .u32 dir) := cell_of_row2 h0 2 rfl
 have c3 : V.cell? ⟨g0, 3, none⟩ = some (.string nm) := cell_of_row2 h0 3 rfl
 have c4 : V.cell? ⟨g0, 4, none⟩ = some (.int .u32 tof) := cell_of_row2 h0 4 rfl
 have c5 : V.cell? ⟨g0, 5, none⟩ = some (.string nm2) := cell_of_row2 h0 5 rfl
 have c6 : V.cell? ⟨g0, 6, none⟩ = some (.int .u16 md) := cell_of_row2 h0 6 rfl
 have c7 : V.cell? ⟨g0, 7, none⟩ = some (.string dt) := cell_of_row2 h0 7 rfl
 have c8 : V.cell? ⟨g0, 8, none⟩ = some (.int .u64 sn) := cell_of_row2 h0 8 rfl
 clear h0 hr0 hg0
 have STV := hid (STH.out V B0.out)
 go_upto_region 3 with (go_at_call 107; refine STV.out.mono ?_; rintro _ w1 ⟨rfl, hb1⟩; have B1 := hid (B0.out.trans (hb1.mono B0.out.size)); have hr1 := (hb1.block _ (lt_blkR HR0.out)).trans HR0.out; have hx1 := (hb1.block _ (lt_blkR H0.out)).trans H0.out; clear hb1)
 clear c0 c1 c2 c3 c4 c5 c6 c7 c8
 have DD := hid (Below.drew (Below.refl w1.heap.size w1))
 have HR1 := hid hr1
 have HX1 := hid hx1
 have hS0 : w1.drew.heap[b]? = some (.cells #[.slice (some ad) l.length ca, .slice (some bd) ss.length cb, .int .u64 ver, .int .u32 d0, .int .u32 d1, .int .u32 d2, ve] 76 (0, 0)) ∧ w1.drew.heap[g0]? = some (.cells #[.int .u8 k, .int .u32 fid, .int .u32 dir, .string nm, .int .u32 tof, .string nm2, .int .u16 md, .string dt, .int .u64 sn] 39 (0, 0)) := ⟨hr1, hx1⟩
 clear hr1 hx1
 have A0 : ∀ w' : World, (w'.heap[b]? = some (.cells #[.slice (some ad) l.length ca, .slice (some bd) ss.length cb, .int .u64 ver, .int .u32 d0, .int .u32 d1, .int .u32 d2, ve] 76 (0, 0)) ∧ w'.heap[g0]? = some (.cells #[.int .u8 k, .int .u32 fid, .int .u32 dir, .string nm, .int .u32 tof, .string nm2, .int .u16 md, .string dt, .int .u64 sn] 39 (0, 0))) → w'.cell? ⟨b, 0, none⟩ = some (.slice (some ad) l.length ca) := fun w' h => cell_of_row2 h.1 0 rfl
 have A1 : ∀ w' : World, (w'.heap[b]? = some (.cells #[.slice (some ad) l.length ca, .slice (some bd) ss.length cb, .int .u64 ver, .int .u32 d0, .int .u32 d1, .int .u32 d2, ve] 76 (0, 0)) ∧ w'.heap[g0]? = some (.cells #[.int .u8 k, .int .u32 fid, .int .u32 dir, .string nm, .int .u32 tof, .string nm2, .int .u16 md, .string dt, .int .u64 sn] 39 (0, 0))) → w'.cell? ⟨g0, 0, none⟩ = some (.int .u8 k) ∧ w'.cell? ⟨g0, 1, none⟩ = some (.int .u32 fid) ∧ w'.cell? ⟨g0, 2, none⟩ = some (.int .u32 dir) ∧ w'.cell? ⟨g0, 3, none⟩ = some (.string nm) ∧ w'.cell? ⟨g0, 4, none⟩ = some (.int .u32 tof) ∧ w'.cell? ⟨g0, 5, none⟩ = some (.string nm2) ∧ w'.cell? ⟨g0, 6, none⟩ = some (.int .u16 md) ∧ w'.cell? ⟨g0, 7, none⟩ = some (.string dt) := fun w' h => ⟨cell_of_row2 h.2 0 rfl, cell_of_row2 h.2 1 rfl, cell_of_row2 h.2 2 rfl, cell_of_row2 h.2 3 rfl, cell_of_row2 h.2 4 rfl, cell_of_row2 h.2 5 rfl, cell_of_row2 h.2 6 rfl, cell_of_row2 h.2 7 rfl⟩
 have APV := hid (APH.out w1.drew (B1.out.trans (DD.out.mono B1.out.size)))
 go_wp2_with fail
 refine wp_region_held_drew (S := fun w' => w'.heap[b]? = some (.cells #[.slice (some ad) l.length ca, .slice (some bd) ss.length cb, .int .u64 ver, .int .u32 d0, .int .u32 d1, .int .u32 d2, ve] 76 (0, 0)) ∧ w'.heap[g0]? = some (.cells #[.int .u8 k, .int .u32 fid, .int .u32 dir, .string nm, .int .u32 tof, .string nm2, .int .u16 md, .string dt, .int .u64 sn] 39 (0, 0))) (by kernel_rfl) hS0 (fun hHeld => ?_)
 refine take_l 0 (v := ?_) rfl (by kernel_rfl) (by kernel_rfl) (by kernel_rfl) (fun _ _ _ h => h) (Or.inl ⟨by rfl, ?_⟩) (by assumption) ?_
 rotate_left
 · (intro w' hSw; clear hSw; go_simp; first | done | with_reducible rfl)
 try simp only [Act.put, List.setIfInBounds_toArray, List.set_cons_zero, List.set_cons_succ]
 refine take_l 1 (v := ?_) rfl (by kernel_rfl) (by kernel_rfl) (by kernel_rfl) (fun _ _ _ h => h) (Or.inl ⟨by rfl, ?_⟩) (by assumption) ?_
 rotate_left
 · (intro w' hSw; clear hSw; go_simp; first | done | with_reducible rfl)
 try simp only [Act.put, List.setIfInBounds_toArray, List.set_cons_zero, List.set_cons_succ]
 refine take_l 2 (v := ?_) rfl (by kernel_rfl) (by kernel_rfl) (by kernel_rfl) (fun _ _ _ h => h) (Or.inl ⟨by rfl, ?_⟩) (by assumption) ?_
 rotate_left
 · (intro w' hSw; clear hSw; go_simp; first | done | with_reducible rfl)
 try simp only [Act.put, List.setIfInBounds_toArray, List.set_cons_zero, List.set_cons_succ]
 refine take_l 3 (v := ?_) rfl (by kernel_rfl) (by kernel_rfl) (by kernel_rfl) (fun _ _ _ h => h) (Or.inl ⟨by rfl, ?_⟩) (by assumption) ?_
 rotate_left
 · (intro w' hSw; clear hSw; go_simp; first | done | with_reducible rfl)
 try simp only [Act.put, List.setIfInBounds_toArray, List.set_cons_zero, List.set_cons_succ]
 refine take_l 4 (v := ?_) rfl (by kernel_rfl) (by kernel_rfl) (by kernel_rfl) (fun _ _ _ h => h) (Or.inl ⟨by rfl, ?_⟩) (by assumption) ?_
 rotate_left
 · (intro w' hSw; (have kq := A0 _ hSw); clear hSw; go_simp; first | done | with_reducible rfl)
 try simp only [Act.put, List.setIfInBounds_toArray, List.set_cons_zero, List.set_cons_succ]
 refine take_l 5 (v := ?_) rfl (by kernel_rfl) (by kernel_rfl) (by kernel_rfl) (fun _ _ _ h => h) (Or.inl ⟨by rfl, ?_⟩) (by assumption) ?_
 rotate_left
 · (intro w' hSw; clear hSw; go_simp; first | done | with_reducible rfl)
 try simp only [Act.put, List.setIfInBounds_toArray, List.set_cons_zero, List.set_cons_succ]
 refine take_l 6 (v := ?_) rfl (by kernel_rfl) (by kernel_rfl) (by kernel_rfl) (fun _ _ _ h => h) (Or.inl ⟨by rfl, ?_⟩) (by assumption) ?_
 rotate_left
 · (intro w' hSw; (obtain ⟨q0, q1, q2, q3, q4, q5, q6, q7⟩ := A1 _ hSw); clear hSw; go_simp; first | done | with_reducible rfl)
 try simp only [Act.put, List.setIfInBounds_toArray, List.set_cons_zero, List.set_cons_succ]
 refine cons_l 7 rfl (by kernel_rfl) (fun K hK => ?_)
 go_simp
 refine APV.out.mono ?_; rintro _ w2 ⟨v2, L2, rfl, ho2, he2, hb2⟩
 have D2 := hid (DD.out.trans (hb2.mono DD.out.size))
 have hS2 : w2.heap[b]? = some (.cells #[.slice (some ad) l.length ca, .slice (some bd) ss.length cb, .int .u64 ver, .int .u32 d0, .int .u32 d1, .int .u32 d2, ve] 76 (0, 0)) ∧ w2.heap[g0]? = some (.cells #[.int .u8 k, .int .u32 fid, .int .u32 dir, .string nm, .int .u32 tof, .string nm2, .int .u16 md, .string dt, .int .u64 sn] 39 (0, 0)) := ⟨(hb2.block _ (lt_blkR hS0.1)).trans hS0.1, (hb2.block _ (lt_blkR hS0.2)).trans hS0.2⟩
 obtain ⟨a2, c2, rfl⟩ := OwN.shape ho2.1
 have HZ2 : Hid (L2.length = L.length) := hid (by have := congrArg List.length he2; simpa using this)
 have NO2 := hid ho2
 have E2 := hid he2
 clear hb2 hS0 ho2 he2
 go_simp
 refine hK.out _ _ hS2 (fun hHeld => ?_)
 clear hK K
 try simp only [Act.put, List.setIfInBounds_toArray, List.set_cons_zero, List.set_cons_succ]
 refine take_l 8 (v := ?_) rfl (by kernel_rfl) (by kernel_rfl) (by kernel_rfl) (fun _ _ _ h => h) (Or.inl ⟨by rfl, ?_⟩) (by assumption) ?_
 rotate_left
 · (intro w' hSw; clear hSw; go_simp; first | done | with_reducible rfl)
 try simp only [Act.put, List.setIfInBounds_toArray, List.set_cons_zero, List.set_cons_succ]
 refine take_l 9 (v := ?_) rfl (by kernel_rfl) (by kernel_rfl) (by kernel_rfl) (fun _ _ _ h => h) (Or.inl ⟨by rfl, ?_⟩) (by assumption) ?_
 rotate_left
 · (intro w' hSw; clear hSw; go_simp; first | done | with_reducible rfl)
 try simp only [Act.put, List.setIfInBounds_toArray, List.set_cons_zero, List.set_cons_succ]
 refine take_l 10 (v := ?_) rfl (by kernel_rfl) (by kernel_rfl) (by kernel_rfl) (fun _ _ _ h => h) (Or.inl ⟨by rfl, ?_⟩) (by assumption) ?_
 rotate_left
 · (intro w' hSw; clear hSw; go_simp; first | done | with_reducible rfl)
 try simp only [Act.put, List.setIfInBounds_toArray, List.set_cons_zero, List.set_cons_succ]
 refine take_l 11 (v := ?_) rfl (by kernel_rfl) (by kernel_rfl) (by kernel_rfl) (fun _ _ _ h => h) (Or.inl ⟨by rfl, ?_⟩) (by assumption) ?_
 rotate_left
 · (intro w' hSw; clear hSw; go_simp; first | done | with_reducible rfl)
 try simp only [Act.put, List.setIfInBounds_toArray, List.set_cons_zero, List.set_cons_succ]
 refine take_l 12 (v := ?_) rfl (by kernel_rfl) (by kernel_rfl) (by kernel_rfl) (fun _ _ _ h => h) (Or.inl ⟨by rfl, ?_⟩) (by assumption) ?_
 rotate_left
 · (intro w' hSw; clear hSw; go_simp; first | done | with_reducible rfl)
 try simp only [Act.put, List.setIfInBounds_toArray, List.set_cons_zero, List.set_cons_succ]
 refine wpAnyH_done (by kernel_rfl) ?_ _
 obtain ⟨g2, cap2, ev, hgb2, htr2⟩ := OwN.trN NO2.out.1 (fun x hx => NO2.out.2 x hx) (by rw [HZ2.out]; exact hL0) (by rw [HZ2.out]; omega)
 obtain ⟨qa, qc⟩ : a2 = some ⟨g2, 0, none⟩ ∧ c2 = cap2 := by cases ev; exact ⟨rfl, rfl⟩
 subst qa qc
 have TR2 := hid htr2
 have GB2 := hid hgb2
 clear ev htr2 hgb2 A0 A1 hHeld
 have B2 := hid (B1.out.trans (D2.out.mono B1.out.size))
 have HR2 := hid hS2.1
 have HX2 := hid hS2.2
 have SC := hid (stampsOf_c b 0 ad bd ⟨g2, 0, none⟩ ca cb c2 l ss L2 w2 (cell_of_row2 hS2.1 0 rfl) (cell_of_row2 hS2.1 1 rfl) (HI.out.later B2.out) (HS.out.later B2.out) TR2.out.1 HLL.out hm (by rw [HZ2.out]; exact hL))
 clear hS2
 go_upto_region 7 with (go_at_call 109; refine SC.out.mono ?_; rintro _ w3 ⟨v3, rfl, ho3, hb3⟩; have O3 := hid ho3; have B3 := hid hb3; clear ho3 hb3)
 have hp2 : 0 ≤ plI L2 fid := by rw [← plI_er, E2.out]; exact HP.out
 have SLEN := stampsL_len l ss L2
 have hzL : 0 < L2.length ∧ L2.length ≤ 900 := by rw [HZ2.out]; exact ⟨hL0, hL⟩
 obtain ⟨hzL0, hzL9⟩ := hzL
 have HSL := hid SLEN
 obtain ⟨g3, cap3, ev, hgb3, hss3⟩ := OwT.is O3.out (stampsL_wf SWF.out L2) (by rw [SLEN, HZ2.out]; exact HL0.out) (by rw [SLEN, HZ2.out]; omega)
 rw [SLEN] at ev
 subst ev
 have GB3 := hid hgb3
 clear SLEN
 clear hgb3 hss3
 have hr3 := (B3.out.block _ (lt_blkR HR2.out)).trans HR2.out
 have hx3 := (B3.out.block _ (lt_blkR HX2.out)).trans HX2.out
 have c0 : w3.cell? ⟨g0, 0, none⟩ = some (.int .u8 k) := cell_of_row2 hx3 0 rfl
 have r2 : w3.cell? ⟨b, 2, none⟩ = some (.int .u64 ver) := cell_of_row2 hr3 2 rfl
 have fz : ∀ i, w3.frozen? ⟨b, i, none⟩ = false := fun i => by simp [World.frozen?, hr3]
 have wv : IntKind.u64.wrap (ver + 1) = ver + 1 := by rw [IntKind.wrap_u64]; omega
 have HR3 := hid hr3
 have HX3 := hid hx3
 clear hr3 hx3
 have CHV := hid (CHH.out)
 go_upto_region 9 with (go_at_call 110; refine (CHV.out _).mono ?_; rintro _ wz ⟨rfl, hwz⟩; rw [hwz]; clear hwz)
 have hr4 : (w3.setCell ⟨b, 2, none⟩ (.int .u64 (ver + 1))).heap[b]? = some (.cells #[.slice (some ad) l.length ca, .slice (some bd) ss.length cb, .int .u64 (ver + 1), .int .u32 d0, .int .u32 d1, .int .u32 d2, ve] 76 (0, 0)) := heap_setCell_same w3 b 2 _ _ (.int .u64 (ver + 1)) HR3.out
 have hbg : g0 ≠ b := by omega
 have hx4 : (w3.setCell ⟨b, 2, none⟩ (.int .u64 (ver + 1))).heap[g0]? = some (.cells #[.int .u8 k, .int .u32 fid, .int .u32 dir, .string nm, .int .u32 tof, .string nm2, .int .u16 md, .string dt, .int .u64 sn] 39 (0, 0)) := (heap_setCell_other w3 ⟨b, 2, none⟩ g0 _ hbg).trans HX3.out
 have NO4 := hid ((NO2.out.later B3.out).setS (q := ⟨b, 2, none⟩) HR3.out (by decide) (by decide) (by decide) (.int .u64 (ver + 1)))
 have O4 := hid (O3.out.setS (q := ⟨b, 2, none⟩) HR3.out (by decide) (.int .u64 (ver + 1)))
 have U3 : Hid (Ou (fun k => k = b) w (w3.setCell ⟨b, 2, none⟩ (.int .u64 (ver + 1)))) := hid ((Ou.of (B2.out.trans (B3.out.mono B2.out.size))).set (g := b) (o := 2) (v := .int .u64 (ver + 1)) rfl)
 have SZ4 : Hid (w2.heap.size ≤ (w3.setCell ⟨b, 2, none⟩ (.int .u64 (ver + 1))).heap.size) := hid (by simpa using B3.out.size)
 clear c0 r2 fz
 generalize (w3.setCell ⟨b, 2, none⟩ (.int .u64 (ver + 1))) = w4 at *
 have HR4 := hid hr4
 have HX4 := hid hx4
 have D4 := hid (Below.drew (Below.refl w4.heap.size w4))
 have hS4 : w4.drew.heap[b]? = some (.cells #[.slice (some ad) l.length ca, .slice (some bd) ss.length cb, .int .u64 (ver + 1), .int .u32 d0, .int .u32 d1, .int .u32 d2, ve] 76 (0, 0)) ∧ w4.drew.heap[g0]? = some (.cells #[.int .u8 k, .int .u32 fid, .int .u32 dir, .string nm, .int .u32 tof, .string nm2, .int .u16 md, .string dt, .int .u64 sn] 39 (0, 0)) := ⟨hr4, hx4⟩
 have A0 : ∀ w' : World, (w'.heap[b]? = some (.cells #[.slice (some ad) l.length ca, .slice (some bd) ss.length cb, .int .u64 (ver + 1), .int .u32 d0, .int .u32 d1, .int .u32 d2, ve] 76 (0, 0)) ∧ w'.heap[g0]? = some (.cells #[.int .u8 k, .int .u32 fid, .int .u32 dir, .string nm, .int .u32 tof, .string nm2, .int .u16 md, .string dt, .int .u64 sn] 39 (0, 0))) → w'.cell? ⟨b, 2, none⟩ = some (.int .u64 (ver + 1)) := fun w' h => cell_of_row2 h.1 2 rfl
 have A1 : ∀ w' : World, (w'.heap[b]? = some (.cells #[.slice (some ad) l.length ca, .slice (some bd) ss.length cb, .int .u64 (ver + 1), .int .u32 d0, .int .u32 d1, .int .u32 d2, ve] 76 (0, 0)) ∧ w'.heap[g0]? = some (.cells #[.int .u8 k, .int .u32 fid, .int .u32 dir, .string nm, .int .u32 tof, .string nm2, .int .u16 md, .string dt, .int .u64 sn] 39 (0, 0))) → w'.cell? ⟨g0, 1, none⟩ = some (.int .u32 fid) := fun w' h => cell_of_row2 h.2 1 rfl
 obtain ⟨g5, cap5, e5, _, htr5⟩ := OwN.trN NO4.out.1 (fun x hx => NO4.out.2 x hx) (by omega) (by omega)
 obtain ⟨qg, qc⟩ : g5 = g2 ∧ cap5 = c2 := by cases e5; exact ⟨rfl, rfl⟩
 subst qg qc
 have PC := hid (splaceOf_c (some ⟨g5, 0, none⟩) cap5 L2 fid w4.drew (htr5.1.later (Below.drew (Below.refl _ _))) (by omega))
 obtain ⟨p, hpl, hpe⟩ : ∃ p : Nat, p < L2.length ∧ plI L2 fid = p := by
   rcases plI_at L2 fid with e | ⟨p, h1, h2⟩
   · omega
   · exact ⟨p, h1, h2⟩
 have PE := hid hpe
 rw [hpe] at PC
 have hplI : (p : Int) < (L2.length : Int) := by omega
 have hp0 : (0 : Int) ≤ (p : Int) := by omega
 clear hr4 hx4 e5 htr5 hpe hp2
 go_wp2_with fail
 refine wp_region_held_drew (S := fun w' => w'.heap[b]? = some (.cells #[.slice (some ad) l.length ca, .slice (some bd) ss.length cb, .int .u64 (ver + 1), .int .u32 d0, .int .u32 d1, .int .u32 d2, ve] 76 (0, 0)) ∧ w'.heap[g0]? = some (.cells #[.int .u8 k, .int .u32 fid, .int .u32 dir, .string nm, .int .u32 tof, .string nm2, .int .u16 md, .string dt, .int .u64 sn] 39 (0, 0))) (by kernel_rfl) hS4 (fun hHeld => ?_)
 refine take_l 0 (v := ?_) rfl (by kernel_rfl) (by kernel_rfl) (by kernel_rfl) (fun _ _ _ h => h) (Or.inl ⟨by rfl, ?_⟩) (by assumption) ?_
 rotate_left
 · (intro w' hSw; clear hSw; go_simp; first | done | with_reducible rfl)
 try simp only [Act.put, List.setIfInBounds_toArray, List.set_cons_zero, List.set_cons_succ]
 refine take_l 1 (v := ?_) rfl (by kernel_rfl) (by kernel_rfl) (by kernel_rfl) (fun _ _ _ h => h) (Or.inl ⟨by rfl, ?_⟩) (by assumption) ?_
 rotate_left
 · (intro w' hSw; clear hSw; go_simp; first | done | with_reducible rfl)
 try simp only [Act.put, List.setIfInBounds_toArray, List.set_cons_zero, List.set_cons_succ]
 refine take_l 2 (v := ?_) rfl (by kernel_rfl) (by kernel_rfl) (by kernel_rfl) (fun _ _ _ h => h) (Or.inl ⟨by rfl, ?_⟩) (by assumption) ?_
 rotate_left
 · (intro w' hSw; clear hSw; go_simp; first | done | with_reducible rfl)
 try simp only [Act.put, List.setIfInBounds_toArray, List.set_cons_zero, List.set_cons_succ]
 refine take_l 3 (v := ?_) rfl (by kernel_rfl) (by kernel_rfl) (by kernel_rfl) (fun _ _ _ h => h) (Or.inl ⟨by rfl, ?_⟩) (by assumption) ?_
 rotate_left
 · (intro w' hSw; clear hSw; go_simp; first | done | with_reducible rfl)
 try simp only [Act.put, List.setIfInBounds_toArray, List.set_cons_zero, List.set_cons_succ]
 refine take_l 4 (v := ?_) rfl (by kernel_rfl) (by kernel_rfl) (by kernel_rfl) (fun _ _ _ h => h) (Or.inl ⟨by rfl, ?_⟩) (by assumption) ?_
 rotate_left
 · (intro w' hSw; (have kq := A1 _ hSw); clear hSw; go_simp; first | done | with_reducible rfl)
 try simp only [Act.put, List.setIfInBounds_toArray, List.set_cons_zero, List.set_cons_succ]
 refine take_l 6 (v := ?_) rfl (by kernel_rfl) (by kernel_rfl) (by kernel_rfl) (fun _ _ _ h => h) (Or.inl ⟨by rfl, ?_⟩) (by assumption) ?_
 rotate_left
 · (intro w' hSw; clear hSw; go_simp; first | done | with_reducible rfl)
 try simp only [Act.put, List.setIfInBounds_toArray, List.set_cons_zero, List.set_cons_succ]
 refine take_l 7 (v := ?_) rfl (by kernel_rfl) (by kernel_rfl) (by kernel_rfl) (fun _ _ _ h => h) (Or.inl ⟨by rfl, ?_⟩) (by assumption) ?_
 rotate_left
 · (intro w' hSw; clear hSw; go_simp; first | done | with_reducible rfl)
 try simp only [Act.put, List.setIfInBounds_toArray, List.set_cons_zero, List.set_cons_succ]
 refine take_l 8 (v := ?_) rfl (by kernel_rfl) (by kernel_rfl) (by kernel_rfl) (fun _ _ _ h => h) (Or.inl ⟨by rfl, ?_⟩) (by assumption) ?_
 rotate_left
 · (intro w' hSw; (have kq := A1 _ hSw); clear hSw; go_simp; first | done | with_reducible rfl)
 try simp only [Act.put, List.setIfInBounds_toArray, List.set_cons_zero, List.set_cons_succ]
 refine take_l 9 (v := ?_) rfl (by kernel_rfl) (by kernel_rfl) (by kernel_rfl) (fun _ _ _ h => h) (Or.inl ⟨by rfl, ?_⟩) (by assumption) ?_
 rotate_left
 · (intro w' hSw; clear hSw; go_simp; first | done | with_reducible rfl)
 try simp only [Act.put, List.setIfInBounds_toArray, List.set_cons_zero, List.set_cons_succ]
 refine take_l 10 (v := ?_) rfl (by kernel_rfl) (by kernel_rfl) (by kernel_rfl) (fun _ _ _ h => h) (Or.inl ⟨by rfl, ?_⟩) (by assumption) ?_
 rotate_left
 · (intro w' hSw; clear hSw; go_simp; first | done | with_reducible rfl)
 try simp only [Act.put, List.setIfInBounds_toArray, List.set_cons_zero, List.set_cons_succ]
 refine take_l 11 (v := ?_) rfl (by kernel_rfl) (by kernel_rfl) (by kernel_rfl) (fun _ _ _ h => h) (Or.inl ⟨by rfl, ?_⟩) (by assumption) ?_
 rotate_left
 · (intro w' hSw; clear hSw; go_simp; first | done | with_reducible rfl)
 try simp only [Act.put, List.setIfInBounds_toArray, List.set_cons_zero, List.set_cons_succ]
 refine take_l 12 (v := ?_) rfl (by kernel_rfl) (by kernel_rfl) (by kernel_rfl) (fun _ _ _ h => h) (Or.inl ⟨by rfl, ?_⟩) (by assumption) ?_
 rotate_left
 · (intro w' hSw; (have kq := A0 _ hSw); clear hSw; go_simp; first | done | with_reducible rfl)
 try simp only [Act.put, List.setIfInBounds_toArray, List.set_cons_zero, List.set_cons_succ]
 refine take_l 13 (v := ?_) rfl (by kernel_rfl) (by kernel_rfl) (by kernel_rfl) (fun _ _ _ h => h) (Or.inl ⟨by rfl, ?_⟩) (by assumption) ?_
 rotate_left
 · (intro w' hSw; clear hSw; go_simp; first | done | with_reducible rfl)
 try simp only [Act.put, List.setIfInBounds_toArray, List.set_cons_zero, List.set_cons_succ]
 refine take_l 14 (v := ?_) rfl (by kernel_rfl) (by kernel_rfl) (by kernel_rfl) (fun _ _ _ h => h) (Or.inl ⟨by rfl, ?_⟩) (by assumption) ?_
 rotate_left
 · (intro w' hSw; clear hSw; go_simp; first | done | with_reducible rfl)
 try simp only [Act.put, List.setIfInBounds_toArray, List.set_cons_zero, List.set_cons_succ]
 refine cons_l 5 rfl (by kernel_rfl) (fun K hK => ?_)
 go_simp
 refine PC.out.mono ?_; rintro _ w6 ⟨rfl, hb6⟩
 have D6 := hid (D4.out.trans (hb6.mono D4.out.size))
 have hS6 : w6.heap[b]? = some (.cells #[.slice (some ad) l.length ca, .slice (some bd) ss.length cb, .int .u64 (ver + 1), .int .u32 d0, .int .u32 d1, .int .u32 d2, ve] 76 (0, 0)) ∧ w6.heap[g0]? = some (.cells #[.int .u8 k, .int .u32 fid, .int .u32 dir, .string nm, .int .u32 tof, .string nm2, .int .u16 md, .string dt, .int .u64 sn] 39 (0, 0)) := ⟨(hb6.block _ (lt_blkR hS4.1)).trans hS4.1, (hb6.block _ (lt_blkR hS4.2)).trans hS4.2⟩
 clear hb6 hS4
 go_simp
 refine hK.out _ _ hS6 (fun hHeld => ?_)
 clear hK K
 try simp only [Act.put, List.setIfInBounds_toArray, List.set_cons_zero, List.set_cons_succ]
 refine take_l 15 (v := ?_) rfl (by kernel_rfl) (by kernel_rfl) (by kernel_rfl) (fun _ _ _ h => h) (Or.inl ⟨by rfl, ?_⟩) (by assumption) ?_
 rotate_left
 · (intro w' hSw; clear hSw; go_simp; first | done | with_reducible rfl)
 try simp only [Act.put, List.setIfInBounds_toArray, List.set_cons_zero, List.set_cons_succ]
 have O6 := hid (O4.out.later D6.out)
 have NO6 := hid (NO4.out.later D6.out)
 obtain ⟨g8, hg38⟩ : ∃ g8, g8 = g3 := ⟨_, rfl⟩
 subst hg38
 obtain ⟨cap8, hcap38⟩ : ∃ cap8, cap8 = cap3 := ⟨_, rfl⟩
 subst hcap38
 obtain ⟨hb8, _, hc9, cur8, hg8, hs8, hx8⟩ := own_of O6.out
 have sf : ∀ i, w6.frozen? ⟨g8, i, none⟩ = false := fun i => by simp [World.frozen?, hg8]
 have hcx : ∀ i, i < cap8 * 3 → ∃ v, w6.cell? ⟨g8, i, none⟩ = some v := fun i hi => by
   rw [cell_of_row w6 _ _ _ _ _ hg8]
   exact ⟨_, Array.getElem?_eq_getElem (by omega)⟩
 obtain ⟨u0, q0⟩ := hcx (p * 3) (by omega)
 obtain ⟨u1, q1⟩ := hcx (p * 3 + 1) (by omega)
 obtain ⟨u2, q2⟩ := hcx (p * 3 + 2) (by omega)
 have bg8 : b ≠ g8 := blk_ne hS6.1 hg8 (by decide)
 have gg8 : g0 ≠ g8 := blk_ne hS6.2 hg8 (by decide)
 refine cons_l 16 rfl (by kernel_rfl) (fun K hK => ?_)
 go_simp
 have hS9 : (((w6.setCell ⟨g8, p * 3, none⟩ (.int .u32 fid)).setCell ⟨g8, p * 3 + 1, none⟩ (.int .u64 (ver + 1))).setCell ⟨g8, p * 3 + 2, none⟩ (.int .u8 cl)).heap[b]? = some (.cells #[.slice (some ad) l.length ca, .slice (some bd) ss.length cb, .int .u64 (ver + 1), .int .u32 d0, .int .u32 d1, .int .u32 d2, ve] 76 (0, 0)) ∧ (((w6.setCell ⟨g8, p * 3, none⟩ (.int .u32 fid)).setCell ⟨g8, p * 3 + 1, none⟩ (.int .u64 (ver + 1))).setCell ⟨g8, p * 3 + 2, none⟩ (.int .u8 cl)).heap[g0]? = some (.cells #[.int .u8 k, .int .u32 fid, .int .u32 dir, .string nm, .int .u32 tof, .string nm2, .int .u16 md, .string dt, .int .u64 sn] 39 (0, 0)) := by
   refine ⟨?_, ?_⟩
   · rw [heap_setCell_other _ _ b _ bg8, heap_setCell_other _ _ b _ bg8, heap_setCell_other _ _ b _ bg8]; exact hS6.1
   · rw [heap_setCell_other _ _ g0 _ gg8, heap_setCell_other _ _ g0 _ gg8, heap_setCell_other _ _ g0 _ gg8]; exact hS6.2
 refine hK.out _ _ hS9 (fun hHeld => ?_)
 clear hK K
 try simp only [Act.put, List.setIfInBounds_toArray, List.set_cons_zero, List.set_cons_succ]
 refine wpAnyH_done (by kernel_rfl) ?_ _
 have h81 := heap_setCell_same w6 g8 (p * 3) _ _ (.int .u32 fid) hg8
 have h82 := heap_setCell_same _ g8 (p * 3 + 1) _ _ (.int .u64 (ver + 1)) h81
 have NO9 := hid (((NO6.out.setS (q := ⟨g8, p * 3, none⟩) hg8 (by decide) (by decide) (by decide) (.int .u32 fid)).setS (q := ⟨g8, p * 3 + 1, none⟩) h81 (by decide) (by decide) (by decide) (.int .u64 (ver + 1))).setS (q := ⟨g8, p * 3 + 2, none⟩) h82 (by decide) (by decide) (by decide) (.int .u8 cl))
 have O9 : Hid (OwT (((w6.setCell ⟨g8, p * 3, none⟩ (.int .u32 fid)).setCell ⟨g8, p * 3 + 1, none⟩ (.int .u64 (ver + 1))).setCell ⟨g8, p * 3 + 2, none⟩ (.int .u8 cl)) w2.heap.size (.slice (some ⟨g8, 0, none⟩) (stampsS l ss L2 fid (ver + 1) cl).length cap8) (stampsS l ss L2 fid (ver + 1) cl)) := hid (by
   have q := OwT.put (S := stampsL l ss L2) (by rw [HSL.out]; exact O6.out) p (by rw [HSL.out]; exact hpl) ⟨fid, ver + 1, cl⟩
   rw [HSL.out] at q
   rw [stampsS_len]
   unfold stampsS
   rw [PE.out]
   exact q)
 have U9 : Hid (Ou (fun k => k = b) w (((w6.setCell ⟨g8, p * 3, none⟩ (.int .u32 fid)).setCell ⟨g8, p * 3 + 1, none⟩ (.int .u64 (ver + 1))).setCell ⟨g8, p * 3 + 2, none⟩ (.int .u8 cl))) := hid (by
   have hz8 : w.heap.size ≤ g8 := Nat.le_trans B2.out.size hb8
   have u6 := U3.out.trans (Ou.of (S := fun k => k = b) D6.out)
   refine ⟨u6.os, u6.tape, u6.output, by simpa using u6.size, fun i hi hS => ?_⟩
   rw [heap_setCell_other _ _ i _ (by show i ≠ g8; omega), heap_setCell_other _ _ i _ (by show i ≠ g8; omega), heap_setCell_other _ _ i _ (by show i ≠ g8; omega)]
   exact u6.block i hi hS)
 have GB8 : Hid (w.heap.size ≤ g8) := hid (Nat.le_trans B2.out.size hb8)
 have GB5 : Hid (w.heap.size ≤ g5) := hid (Nat.le_trans (Nat.le_trans B1.out.size DD.out.size) GB2.out)
 have hr9 := hS9.1
 clear q0 q1 q2 sf hcx h81 h82 hg8 hx8 hS6 hS9 A0 A1 hs8 hHeld
 generalize (((w6.setCell ⟨g8, p * 3, none⟩ (.int .u32 fid)).setCell ⟨g8, p * 3 + 1, none⟩ (.int .u64 (ver + 1))).setCell ⟨g8, p * 3 + 2, none⟩ (.int .u8 cl)) = w9 at *
 have HR9 := hid hr9
 have r0 : w9.cell? ⟨b, 0, none⟩ = some (.slice (some ad) l.length ca) := cell_of_row2 hr9 0 rfl
 have r1 : w9.cell? ⟨b, 1, none⟩ = some (.slice (some bd) ss.length cb) := cell_of_row2 hr9 1 rfl
 have fz : ∀ i, w9.frozen? ⟨b, i, none⟩ = false := fun i => by simp [World.frozen?, hr9]
 clear hr9
 go_wp2
 have e1 := heap_setCell_same w9 b 0 _ _ (.slice (some ⟨g5, 0, none⟩) L2.length cap5) HR9.out
 have e2 := heap_setCell_same _ b 1 _ _ (.slice (some ⟨g8, 0, none⟩) L2.length cap8) e1
 have NOa := (NO9.out.setS (q := ⟨b, 0, none⟩) HR9.out (by decide) (by decide) (by decide) (.slice (some ⟨g5, 0, none⟩) L2.length cap5)).setS (q := ⟨b, 1, none⟩) e1 (by decide) (by decide) (by decide) (.slice (some ⟨g8, 0, none⟩) L2.length cap8)
 have Oa := (O9.out.setS (q := ⟨b, 0, none⟩) HR9.out (by decide) (.slice (some ⟨g5, 0, none⟩) L2.length cap5)).setS (q := ⟨b, 1, none⟩) e1 (by decide) (.slice (some ⟨g8, 0, none⟩) L2.length cap8)
 have Ua := (U9.out.set (g := b) (o := 0) (v := .slice (some ⟨g5, 0, none⟩) L2.length cap5) rfl).set (g := b) (o := 1) (v := .slice (some ⟨g8, 0, none⟩) L2.length cap8) rfl
 have ZB := Nat.le_trans B1.out.size DD.out.size
 have ZC := B2.out.size
 go_ret
 refine ⟨rfl, g5, cap5, g8, cap8, L2, ?_, NOa.low ZB, E2.out, ?_, Ua⟩
 · rw [stampsS_len]
   exact e2
 · exact own_low Oa ZC
def recB (x : Rec) : List Int := beF x.sn 8 ++ opB x
def rec1B (x : Rec) : List Int := beF 1 1 ++ recB x
set_option maxHeartbeats 1000000 in
theorem rwrong_c (o : Rec) (w : World) (hw : o.Wf) (hr : rightF o = true) :
   Calls Tryz.prog 190 #[o.recV] w fun e w' => e = .returned (.bool false) ∧ Below w.heap.size w w' := by
 have RC0 := rightOp_c o (w.alloc (.cells #[.int .u8 o.k, .int .u32 o.fid, .int .u32 o.dir, .string o.nm, .int .u32 o.to, .string o.nm2, .int .u16 o.md, .string o.dt, .int .u64 o.sn] 39)) hw.2.2.2.2.2.2.1 hw.2.2.2.2.2.2.2.1
 rw [hr] at RC0
 have RC := hid RC0
 have h0 := heap_alloc_new w (.cells #[.int .u8 o.k, .int .u32 o.fid, .int .u32 o.dir, .string o.nm, .int .u32 o.to, .string o.nm2, .int .u16 o.md, .string o.dt, .int .u64 o.sn] 39)
 have B0 := hid (below_1 w (.cells #[.int .u8 o.k, .int .u32 o.fid, .int .u32 o.dir, .string o.nm, .int .u32 o.to, .string o.nm2, .int .u16 o.md, .string o.dt, .int .u64 o.sn] 39))
 clear RC0 hw hr
 obtain ⟨k, fid, dir, nm, tof, nm2, md, dt, sn⟩ := o
 simp only [Rec.recV, Rec.opV] at *
 have y0 : (w.alloc (.cells #[.int .u8 k, .int .u32 fid, .int .u32 dir, .string nm, .int .u32 tof, .string nm2, .int .u16 md, .string dt, .int .u64 sn] 39)).cell? ⟨w.heap.size, 0, none⟩ = some (.int .u8 k) := cell_of_row2 h0 0 rfl
 have y1 : (w.alloc (.cells #[.int .u8 k, .int .u32 fid, .int .u32 dir, .string nm, .int .u32 tof, .string nm2, .int .u16 md, .string dt, .int .u64 sn] 39)).cell? ⟨w.heap.size, 1, none⟩ = some (.int .u32 fid) := cell_of_row2 h0 1 rfl
 have y2 : (w.alloc (.cells #[.int .u8 k, .int .u32 fid, .int .u32 dir, .string nm, .int .u32 tof, .string nm2, .int .u16 md, .string dt, .int .u64 sn] 39)).cell? ⟨w.heap.size, 2, none⟩ = some (.int .u32 dir) := cell_of_row2 h0 2 rfl
 have y3 : (w.alloc (.cells #[.int .u8 k, .int .u32 fid, .int .u32 dir, .string nm, .int .u32 tof, .string nm2, .int .u16 md, .string dt, .int .u64 sn] 39)).cell? ⟨w.heap.size, 3, none⟩ = some (.string nm) := cell_of_row2 h0 3 rfl
 have y4 : (w.alloc (.cells #[.int .u8 k, .int .u32 fid, .int .u32 dir, .string nm, .int .u32 tof, .string nm2, .int .u16 md, .string dt, .int .u64 sn] 39)).cell? ⟨w.heap.size, 4, none⟩ = some (.int .u32 tof) := cell_of_row2 h0 4 rfl
 have y5 : (w.alloc (.cells #[.int .u8 k, .int .u32 fid, .int .u32 dir, .string nm, .int .u32 tof, .string nm2, .int .u16 md, .string dt, .int .u64 sn] 39)).cell? ⟨w.heap.size, 5, none⟩ = some (.string nm2) := cell_of_row2 h0 5 rfl
 have y6 : (w.alloc (.cells #[.int .u8 k, .int .u32 fid, .int .u32 dir, .string nm, .int .u32 tof, .string nm2, .int .u16 md, .string dt, .int .u64 sn] 39)).cell? ⟨w.heap.size, 6, none⟩ = some (.int .u16 md) := cell_of_row2 h0 6 rfl
 have y7 : (w.alloc (.cells #[.int .u8 k, .int .u32 fid, .int .u32 dir, .string nm, .int .u32 tof, .string nm2, .int .u16 md, .string dt, .int .u64 sn] 39)).cell? ⟨w.heap.size, 7, none⟩ = some (.string dt) := cell_of_row2 h0 7 rfl
 have y8 : (w.alloc (.cells #[.int .u8 k, .int .u32 fid, .int .u32 dir, .string nm, .int .u32 tof, .string nm2, .int .u16 md, .string dt, .int .u64 sn] 39)).cell? ⟨w.heap.size, 8, none⟩ = some (.int .u64 sn) := cell_of_row2 h0 8 rfl
 clear h0
 go_enter Tryz.func190, Tryz.ntmps190
 go_wp2_with (go_at_call 70; refine RC.out.mono ?_; rintro _ w1 ⟨rfl, hb1⟩)
 go_ret
 exact ⟨rfl, B0.out.trans (hb1.mono B0.out.size)⟩
set_option maxHeartbeats 2000000 in
theorem ridx1_c (lb cl : Nat) (o : Rec) (w : World) (hlb : w.heap[lb]? = some (.cells #[.int .u8 o.k, .int .u32 o.fid, .int .u32 o.dir, .string o.nm, .int .u32 o.to, .string o.nm2, .int .u16 o.md, .string o.dt, .int .u64 o.sn] 39 (0, 0))) (hw : o.Wf) (hr : rightF o = true) :
   Calls Tryz.prog 69 #[.slice (some ⟨lb, 0, none⟩) 1 cl, .func (.func 190) #[] #[]] w fun e w' => e = .returned (.int .i64 (-1)) ∧ Below w.heap.size w w' := by
 have WC := hid (rwrong_c o w hw hr)
 clear hw hr
 obtain ⟨k, fid, dir, nm, tof, nm2, md, dt, sn⟩ := o
 simp only [Rec.recV] at *
 have y0 : w.cell? ⟨lb, 0, none⟩ = some (.int .u8 k) := cell_of_row2 hlb 0 rfl
 have y1 : w.cell? ⟨lb, 1, none⟩ = some (.int .u32 fid) := cell_of_row2 hlb 1 rfl
 have y2 : w.cell? ⟨lb, 2, none⟩ = some (.int .u32 dir) := cell_of_row2 hlb 2 rfl
 have y3 : w.cell? ⟨lb, 3, none⟩ = some (.string nm) := cell_of_row2 hlb 3 rfl
 have y4 : w.cell? ⟨lb, 4, none⟩ = some (.int .u32 tof) := cell_of_row2 hlb 4 rfl
 have y5 : w.cell? ⟨lb, 5, none⟩ = some (.string nm2) := cell_of_row2 hlb 5 rfl
 have y6 : w.cell? ⟨lb, 6, none⟩ = some (.int .u16 md) := cell_of_row2 hlb 6 rfl
 have y7 : w.cell? ⟨lb, 7, none⟩ = some (.string dt) := cell_of_row2 hlb 7 rfl
 have y8 : w.cell? ⟨lb, 8, none⟩ = some (.int .u64 sn) := cell_of_row2 hlb 8 rfl
 clear hlb
 go_enter Tryz.func69, Tryz.ntmps69
 go_wp2
 refine wp_loop_rounds 2 ?_
 rw [rounds_succ]
 go_wp2_with (go_at_call 190; refine WC.out.mono ?_; rintro _ w1 ⟨rfl, hb1⟩)
 rw [rounds_succ]
 go_wp2
 go_ret
 exact ⟨rfl, hb1⟩
set_option maxHeartbeats 1000000 in
theorem rcon1_c (lb cl : Nat) (o : Rec) (w : World) (hlb : w.heap[lb]? = some (.cells #[.int .u8 o.k, .int .u32 o.fid, .int .u32 o.dir, .string o.nm, .int .u32 o.to, .string o.nm2, .int .u16 o.md, .string o.dt, .int .u64 o.sn] 39 (0, 0))) (hw : o.Wf) (hr : rightF o = true) :
   Calls Tryz.prog 40 #[.slice (some ⟨lb, 0, none⟩) 1 cl, .func (.func 190) #[] #[]] w fun e w' => e = .returned (.bool false) ∧ Below w.heap.size w w' := by
 have IC := hid (ridx1_c lb cl o w hlb hw hr)
 clear hlb hw hr
 go_enter Tryz.func40, Tryz.ntmps40
 go_wp2_with (go_at_call 69; refine IC.out.mono ?_; rintro _ w1 ⟨rfl, hb1⟩)
 go_ret
 exact ⟨rfl, hb1⟩
set_option maxHeartbeats 2000000 in
theorem putRec_c (T base g : Nat) (zs : List Int) (o : Rec) (w : World) (hp : Pile w T base g zs) (hn : zs.length < 400000) (hw : o.Wf) (hs : o.nm.size + o.nm2.size + o.dt.size < 100000) :
   Calls Tryz.prog 216 #[.pointer (some ⟨g, 0, none⟩), o.recV] w fun e w' => e = .returned (.tuple #[]) ∧ Pile w' T base g (zs ++ recB o) ∧ KpT base g w w' := by
 have h0 := heap_alloc_new w (.cells #[.int .u8 o.k, .int .u32 o.fid, .int .u32 o.dir, .string o.nm, .int .u32 o.to, .string o.nm2, .int .u16 o.md, .string o.dt, .int .u64 o.sn] 39)
 have hne : w.heap.size ≠ g := by have := hp.len; omega
 have HX := hid h0
 have K0 : Hid (KpT base g w (w.alloc (.cells #[.int .u8 o.k, .int .u32 o.fid, .int .u32 o.dir, .string o.nm, .int .u32 o.to, .string o.nm2, .int .u16 o.md, .string o.dt, .int .u64 o.sn] 39))) := hid (alloc_kpT _ hp.len.2)
 have NC := hid (num8_c (n := o.sn) (hp.other (w' := w) (.cells #[.int .u8 o.k, .int .u32 o.fid, .int .u32 o.dir, .string o.nm, .int .u32 o.to, .string o.nm2, .int .u16 o.md, .string o.dt, .int .u64 o.sn] 39)) (by omega) hw.2.2.2.2.2.1.1 hw.2.2.2.2.2.1.2)
 have PC := hid (fun W (hq : Pile W T base g (zs ++ beF o.sn 8)) => putOp_c T base g _ o W hq (by rw [List.length_append, beF_len]; omega) hw hs)
 have RB : Hid (zs ++ recB o = zs ++ beF o.sn 8 ++ opB o) := hid (by unfold recB; rw [List.append_assoc])
 rw [RB.out]
 have NU : Hid (NotU8 (.cells #[.int .u8 o.k, .int .u32 o.fid, .int .u32 o.dir, .string o.nm, .int .u32 o.to, .string o.nm2, .int .u16 o.md, .string o.dt, .int .u64 o.sn] 39 (0, 0))) := hid (fun cs fr e => by injection e with e1 e2; cases e2)
 clear hp hw hs
 obtain ⟨q, hq⟩ : ∃ q, q = opB o := ⟨_, rfl⟩
 rw [← hq]
 rw [← hq] at PC
 clear hq RB
 obtain ⟨k, fid, dir, nm, tof, nm2, md, dt, sn⟩ := o
 simp only [Rec.recV, Rec.opV] at *
 have y0 : (w.alloc (.cells #[.int .u8 k, .int .u32 fid, .int .u32 dir, .string nm, .int .u32 tof, .string nm2, .int .u16 md, .string dt, .int .u64 sn] 39)).cell? ⟨w.heap.size, 0, none⟩ = some (.int .u8 k) := cell_of_row2 h0 0 rfl
 have y1 : (w.alloc (.cells #[.int .u8 k, .int .u32 fid, .int .u32 dir, .string nm, .int .u32 tof, .string nm2, .int .u16 md, .string dt, .int .u64 sn] 39)).cell? ⟨w.heap.size, 1, none⟩ = some (.int .u32 fid) := cell_of_row2 h0 1 rfl
 have y2 : (w.alloc (.cells #[.int .u8 k, .int .u32 fid, .int .u32 dir, .string nm, .int .u32 tof, .string nm2, .int .u16 md, .string dt, .int .u64 sn] 39)).cell? ⟨w.heap.size, 2, none⟩ = some (.int .u32 dir) := cell_of_row2 h0 2 rfl
 have y3 : (w.alloc (.cells #[.int .u8 k, .int .u32 fid, .int .u32 dir, .string nm, .int .u32 tof, .string nm2, .int .u16 md, .string dt, .int .u64 sn] 39)).cell? ⟨w.heap.size, 3, none⟩ = some (.string nm) := cell_of_row2 h0 3 rfl
 have y4 : (w.alloc (.cells #[.int .u8 k, .int .u32 fid, .int .u32 dir, .string nm, .int .u32 tof, .string nm2, .int .u16 md, .string dt, .int .u64 sn] 39)).cell? ⟨w.heap.size, 4, none⟩ = some (.int .u32 tof) := cell_of_row2 h0 4 rfl
 have y5 : (w.alloc (.cells #[.int .u8 k, .int .u32 fid, .int .u32 dir, .string nm, .int .u32 tof, .string nm2, .int .u16 md, .string dt, .int .u64 sn] 39)).cell? ⟨w.heap.size, 5, none⟩ = some (.string nm2) := cell_of_row2 h0 5 rfl
 have y6 : (w.alloc (.cells #[.int .u8 k, .int .u32 fid, .int .u32 dir, .string nm, .int .u32 tof, .string nm2, .int .u16 md, .string dt, .int .u64 sn] 39)).cell? ⟨w.heap.size, 6, none⟩ = some (.int .u16 md) := cell_of_row2 h0 6 rfl
 have y7 : (w.alloc (.cells #[.int .u8 k, .int .u32 fid, .int .u32 dir, .string nm, .int .u32 tof, .string nm2, .int .u16 md, .string dt, .int .u64 sn] 39)).cell? ⟨w.heap.size, 7, none⟩ = some (.string dt) := cell_of_row2 h0 7 rfl
 have y8 : (w.alloc (.cells #[.int .u8 k, .int .u32 fid, .int .u32 dir, .string nm, .int .u32 tof, .string nm2, .int .u16 md, .string dt, .int .u64 sn] 39)).cell? ⟨w.heap.size, 8, none⟩ = some (.int .u64 sn) := cell_of_row2 h0 8 rfl
 clear h0
 go_enter Tryz.func216, Tryz.ntmps216
 go_wp2_with (first
   | (go_at_call 231; refine (PC.out _ HP1.out).mono ?_; rintro _ w2 ⟨rfl, hp2, hk2⟩)
   | (go_at_call 169; refine NC.out.mono ?_; rintro _ w1 ⟨rfl, hp1, hk1⟩; have HP1 := hid hp1; have K1 := hid (K0.out.trans hk1); have hx1 := hk1.other _ _ HX.out hne NU.out; clear y0 y1 y2 y3 y4 y5 y6 y7 y8; (have y0 : w1.cell? ⟨w.heap.size, 0, none⟩ = some (.int .u8 k) := cell_of_row2 hx1 0 rfl); (have y1 : w1.cell? ⟨w.heap.size, 1, none⟩ = some (.int .u32 fid) := cell_of_row2 hx1 1 rfl); (have y2 : w1.cell? ⟨w.heap.size, 2, none⟩ = some (.int .u32 dir) := cell_of_row2 hx1 2 rfl); (have y3 : w1.cell? ⟨w.heap.size, 3, none⟩ = some (.string nm) := cell_of_row2 hx1 3 rfl); (have y4 : w1.cell? ⟨w.heap.size, 4, none⟩ = some (.int .u32 tof) := cell_of_row2 hx1 4 rfl); (have y5 : w1.cell? ⟨w.heap.size, 5, none⟩ = some (.string nm2) := cell_of_row2 hx1 5 rfl); (have y6 : w1.cell? ⟨w.heap.size, 6, none⟩ = some (.int .u16 md) := cell_of_row2 hx1 6 rfl); (have y7 : w1.cell? ⟨w.heap.size, 7, none⟩ = some (.string dt) := cell_of_row2 hx1 7 rfl); (have y8 : w1.cell? ⟨w.heap.size, 8, none⟩ = some (.int .u64 sn) := cell_of_row2 hx1 8 rfl); clear hp1 hk1 hx1))
 exact body_end (by kernel_rfl) rfl ⟨rfl, hp2, K1.out.trans hk2⟩
set_option maxHeartbeats 2000000 in
theorem putList1_c (T base g : Nat) (lb cap : Nat) (o : Rec) (w : World) (hp : Pile w T base g []) (hlb : w.heap[lb]? = some (.cells #[.int .u8 o.k, .int .u32 o.fid, .int .u32 o.dir, .string o.nm, .int .u32 o.to, .string o.nm2, .int .u16 o.md, .string o.dt, .int .u64 o.sn] 39 (0, 0))) (hne : lb ≠ g) (hw : o.Wf) (hs : o.nm.size + o.nm2.size + o.dt.size < 100000) :
   Calls Tryz.prog 215 #[.pointer (some ⟨g, 0, none⟩), .slice (some ⟨lb, 0, none⟩) 1 cap, .func (.func 216) #[] #[]] w fun e w' => e = .returned (.tuple #[]) ∧ Pile w' T base g (rec1B o) ∧ KpT base g w w' := by
 have NC := hid (num1_c (n := 1) hp (by simp) (by omega) (by omega))
 have NU : Hid (NotU8 (.cells #[.int .u8 o.k, .int .u32 o.fid, .int .u32 o.dir, .string o.nm, .int .u32 o.to, .string o.nm2, .int .u16 o.md, .string o.dt, .int .u64 o.sn] 39 (0, 0))) := hid (fun cs fr e => by injection e with e1 e2; cases e2)
 have PC := hid (fun W (hq : Pile W T base g ([] ++ beF 1 1)) => putRec_c T base g _ o W hq (by rw [List.length_append, beF_len]; simp) hw hs)
 have RB : Hid (rec1B o = [] ++ beF 1 1 ++ recB o) := hid (by unfold rec1B; simp)
 rw [RB.out]
 have HLB := hid hlb
 have HNE := hid hne
 have HZ := hid hp.len.2
 obtain ⟨q, hq⟩ : ∃ q, q = recB o := ⟨_, rfl⟩
 rw [← hq]
 rw [← hq] at PC
 clear hq RB hp hw hs hne hlb
 obtain ⟨k, fid, dir, nm, tof, nm2, md, dt, sn⟩ := o
 simp only [Rec.recV] at *
 go_enter Tryz.func215, Tryz.ntmps215
 go_upto_region 2 with (go_at_call 169; refine NC.out.mono ?_; rintro _ w1 ⟨rfl, hp1, hk1⟩; have HP1 := hid hp1; have K1 := hid hk1; clear hp1 hk1)
 have hx1 := K1.out.other _ _ HLB.out HNE.out NU.out
 have y0 : w1.cell? ⟨lb, 0, none⟩ = some (.int .u8 k) := cell_of_row2 hx1 0 rfl
 have y1 : w1.cell? ⟨lb, 1, none⟩ = some (.int .u32 fid) := cell_of_row2 hx1 1 rfl
 have y2 : w1.cell? ⟨lb, 2, none⟩ = some (.int .u32 dir) := cell_of_row2 hx1 2 rfl
 have y3 : w1.cell? ⟨lb, 3, none⟩ = some (.string nm) := cell_of_row2 hx1 3 rfl
 have y4 : w1.cell? ⟨lb, 4, none⟩ = some (.int .u32 tof) := cell_of_row2 hx1 4 rfl
 have y5 : w1.cell? ⟨lb, 5, none⟩ = some (.string nm2) := cell_of_row2 hx1 5 rfl
 have y6 : w1.cell? ⟨lb, 6, none⟩ = some (.int .u16 md) := cell_of_row2 hx1 6 rfl
 have y7 : w1.cell? ⟨lb, 7, none⟩ = some (.string dt) := cell_of_row2 hx1 7 rfl
 have y8 : w1.cell? ⟨lb, 8, none⟩ = some (.int .u64 sn) := cell_of_row2 hx1 8 rfl
 clear hx1
 have P2 := hid (HP1.out.other (w' := w1) (.cells #[.int .u8 k, .int .u32 fid, .int .u32 dir, .string nm, .int .u32 tof, .string nm2, .int .u16 md, .string dt, .int .u64 sn] 39))
 have K2 : Hid (KpT base g w (w1.alloc (.cells #[.int .u8 k, .int .u32 fid, .int .u32 dir, .string nm, .int .u32 tof, .string nm2, .int .u16 md, .string dt, .int .u64 sn] 39))) := hid (K1.out.trans (alloc_kpT _ (Nat.le_trans HZ.out K1.out.size)))
 refine wp_loop_rounds 2 ?_
 rw [rounds_succ]
 go_wp2_with (go_at_call 216; refine (PC.out _ P2.out).mono ?_; rintro _ w2 ⟨rfl, hp2, hk2⟩)
 rw [rounds_succ]
 go_wp2
 exact body_end (by kernel_rfl) rfl ⟨rfl, hp2, K2.out.trans hk2⟩
set_option maxHeartbeats 1000000 in
theorem putRecs1_c (T base g : Nat) (lb cap : Nat) (o : Rec) (w : World) (hp : Pile w T base g []) (hlb : w.heap[lb]? = some (.cells #[.int .u8 o.k, .int .u32 o.fid, .int .u32 o.dir, .string o.nm, .int .u32 o.to, .string o.nm2, .int .u16 o.md, .string o.dt, .int .u64 o.sn] 39 (0, 0))) (hne : lb ≠ g) (hw : o.Wf) (hs : o.nm.size + o.nm2.size + o.dt.size < 100000) :
   Calls Tryz.prog 192 #[.pointer (some ⟨g, 0, none⟩), .slice (some ⟨lb, 0, none⟩) 1 cap] w fun e w' => e = .returned (.tuple #[]) ∧ Pile w' T base g (rec1B o) ∧ KpT base g w w' := by
 have PC := hid (putList1_c T base g lb cap o w hp hlb hne hw hs)
 clear hp hlb hne hw hs
 go_enter Tryz.func192, Tryz.ntmps192
 go_wp2_with (go_at_call 215; refine PC.out.mono ?_; rintro _ w1 ⟨rfl, h1, h2⟩)
 exact body_end (by kernel_rfl) rfl ⟨rfl, h1, h2⟩
set_option maxHeartbeats 1000000 in
theorem written1_c (lb cap : Nat) (o : Rec) (w : World) (hlb : w.heap[lb]? = some (.cells #[.int .u8 o.k, .int .u32 o.fid, .int .u32 o.dir, .string o.nm, .int .u32 o.to, .string o.nm2, .int .u16 o.md, .string o.dt, .int .u64 o.sn] 39 (0, 0))) (hw : o.Wf) (hs : o.nm.size + o.nm2.size + o.dt.size < 100000) :
   Calls Tryz.prog 191 #[.slice (some ⟨lb, 0, none⟩) 1 cap, .func (.func 192) #[] #[]] w fun e w' => ∃ v, e = .returned v ∧ w'.ownsRow w.heap.size 5 1 v (rec1B o).length ((rec1B o).map u8V) ∧ Below w.heap.size w w' := by
 have b1 := below_1 w (.cells #[.slice none 0 0] 218)
 have hg2 := heap_alloc_new w (.cells #[.slice none 0 0] 218)
 have hs2 : (w.alloc (.cells #[.slice none 0 0] 218)).heap.size = w.heap.size + 1 := by simp
 have HP : Hid (Pile (w.alloc (.cells #[.slice none 0 0] 218)) 218 (w.heap.size + 1) w.heap.size []) := hid ⟨by omega, by rw [hs2]; omega, _, hg2, World.ownsRow_nil _ _ _ _⟩
 have PC := hid (putRecs1_c 218 (w.heap.size + 1) w.heap.size lb cap o _ HP.out ((b1.block _ (lt_blkR hlb)).trans hlb) (Nat.ne_of_lt (lt_blkR hlb)) hw hs)
 have B1 := hid b1
 clear hlb hg2 hs2 b1 HP hw hs
 go_enter Tryz.func191, Tryz.ntmps191
 go_wp2_with (first | (go_at_call 192; refine PC.out.mono ?_; rintro _ w1 ⟨rfl, ⟨hg, hbase, v, hbox, hown⟩, hk⟩; have hc := cell_box hbox; obtain ⟨va, vn, vc, rfl⟩ := own_sliceY hown))
 go_ret
 exact ⟨_, rfl, own_low hown (by omega), B1.out.trans (hk.below (by omega) (Nat.le_refl _))⟩
set_option maxHeartbeats 1000000 in
theorem records1_c (lb cap : Nat) (o : Rec) (w : World) (hlb : w.heap[lb]? = some (.cells #[.int .u8 o.k, .int .u32 o.fid, .int .u32 o.dir, .string o.nm, .int .u32 o.to, .string o.nm2, .int .u16 o.md, .string o.dt, .int .u64 o.sn] 39 (0, 0))) (hw : o.Wf) (hr : rightF o = true) :
   Calls Tryz.prog 163 #[.slice (some ⟨lb, 0, none⟩) 1 cap] w fun e w' => ∃ v, e = .returned (.tuple #[v, .int .i64 0]) ∧ OwY w' w.heap.size v (rec1B o) ∧ Below w.heap.size w w' := by
 have CC := hid (rcon1_c lb cap o w hlb hw hr)
 have WC := hid (fun W (hW : Below w.heap.size w W) => written1_c lb cap o W ((hW.block _ (lt_blkR hlb)).trans hlb) hw (by have := right_size o hr; omega))
 clear hlb hw hr
 go_enter Tryz.func163, Tryz.ntmps163
 go_wp2_with (first
   | (go_at_call 40; refine CC.out.mono ?_; rintro _ w1 ⟨rfl, hb1⟩; have B1 := hid hb1; clear hb1)
   | (go_at_call 191; refine (WC.out _ B1.out).mono ?_; rintro _ w2 ⟨v, rfl, ho2, hb2⟩; obtain ⟨va, vn, vc, rfl⟩ := own_sliceY ho2; have O2 := hid ho2; have B2 := hid (B1.out.trans (hb2.mono B1.out.size)); clear ho2 hb2))
 go_ret2
 exact ⟨_, rfl, own_low O2.out B1.out.size, B2.out⟩
end Go.Proofs.YtpolbbdaippclaaGreat
