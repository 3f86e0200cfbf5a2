/-
  For every operations and a place: a directory is never put below itself.
-/
import Derived.Test.YtgbdplammniidaaGreatSrAk
import Derived.Test.YtgbdplammniidaaGreatSrBv
namespace Go.Proofs.YtgbdplammniidaaGreat
open Go.RowKit Go.ChangeShapes Go.WideShapes Go.ChangeAt Go.Maps Go.Shelf
open Go.ChangeMaps (open_string shut_string)
set_option linter.unusedVariables false
set_option linter.unusedSimpArgs false
set_option maxRecDepth 20000
theorem loop_go {t : List Nd} (R : Rt t) {d : Int} {s : ByteArray} (hs : Pa.nameB s.data.toList = true) (h : plkE (getF t d) s = 0) {n : Nd} (hn : getF t (plkI (getF t d) s) = some n) (hnk : n.k = 2) {g : Int} {k : Nd} (hk : getF t g = some k) (hkk : k.k = 2) (hb : g = plkI (getF t d) s ∨ ∃ q ∈ n.ks, q.fid = g) : (ApplyL t (mvO d s g)).1 = 10 := by
 cases ha : getF t d with
 | none => rw [ha] at h; simp [plkE] at h
 | some a =>
   rw [ha] at h hn hb
   unfold plkE at h
   simp only at h
   by_cases hak : a.k = 2
   · rw [if_pos hak] at h
     cases hq : kq a.ks s with
     | none => rw [hq] at h; simp at h
     | some q =>
       have e1 : plkI (some a) s = q.fid := by unfold plkI; simp only; rw [if_pos hak, hq]
       have e2 := (kq_some hq).2
       rw [e1] at hn hb
       have e3 : kq a.ks s = some ⟨s, q.fid⟩ := by rw [hq]; cases q; simp only at e2; rw [e2]
       exact loop_all R hs ha hak e3 hn hnk hk hkk hb
   · rw [if_neg hak] at h; omega
set_option maxHeartbeats 8000000 in
theorem treeLoops_walk (a0 : Option Addr) (len0 cap0 : Nat) (ops : List Rec) (lz0 : ops.length = len0) (lc0 : len0 ≤ cap0) (o : Rec) (w : World) (h0 : IsOs w a0 ops) (wq : o.Wf) :
   Calls Tryz.prog 5 #[.slice a0 len0 cap0, o.opV] w fun e w' => e = .returned (.bool true) ∧ Below w.heap.size w w' := by
 obtain ⟨k, fid, dir, nm, tof, nm2, md, dt, sn⟩ := o
 simp only [Rec.opV]
 have b0 := below_1 w (.cells #[.int .u8 k, .int .u32 fid, .int .u32 dir, .string nm, .int .u32 tof, .string nm2, .int .u16 md, .string dt] 32)
 have h1 := heap_alloc_new w (.cells #[.int .u8 k, .int .u32 fid, .int .u32 dir, .string nm, .int .u32 tof, .string nm2, .int .u16 md, .string dt] 32)
 have MC := hid (made_c a0 len0 cap0 ops _ lz0 lc0 (h0.later b0))
 have RT := hid (pm_rt h0.2.1 40)
 have NC := hid (fun W => rname_c nm W wq.2.2.2.2.2.2.1)
 have WM := hid (fun g g0 g1 => mv_wf (g := g) (s := nm) wq.2.2.1.1 wq.2.2.1.2 g0 g1 wq.2.2.2.2.2.2.1)
 have OC : Hid (∀ W, Below (w.alloc (.cells #[.int .u8 k, .int .u32 fid, .int .u32 dir, .string nm, .int .u32 tof, .string nm2, .int .u16 md, .string dt] 32)).heap.size (w.alloc (.cells #[.int .u8 k, .int .u32 fid, .int .u32 dir, .string nm, .int .u32 tof, .string nm2, .int .u16 md, .string dt] 32)) W → W.cell? ⟨w.heap.size, 2, none⟩ = some (.int .u32 dir) ∧ W.cell? ⟨w.heap.size, 3, none⟩ = some (.string nm)) := hid (fun W hW => by
   have oh := (hW.block _ (lt_blkR h1)).trans h1
   exact ⟨cell_of_row2 oh 2 rfl, cell_of_row2 oh 3 rfl⟩)
 have B0 := hid b0
 have LC := hid (fun W => tlive_c W)
 clear b0 h1 h0 wq
 generalize PmL ops 40 = t at *
 have LG : Hid (∀ (hs : Pa.nameB nm.data.toList = true) (h : plkE (getF t dir) nm = 0) (n : Nd) (hn : getF t (plkI (getF t dir) nm) = some n) (hnk : n.k = 2) (g : Int) (kk : Nd), getF t g = some kk → kk.k = 2 → (g = plkI (getF t dir) nm ∨ ∃ q ∈ n.ks, q.fid = g) → (ApplyL t (mvO dir nm g)).1 = 10) := hid (fun hs h n hn hnk g kk a1 a2 a3 => loop_go RT.out hs h hn hnk a1 a2 a3)
 have LK : Hid (∀ (a : Option Addr) (c : Nat) (L : List Nd) (W : World), TrE W a L t → Calls Tryz.prog 13 #[.slice a L.length c, .int .u32 dir, .string nm] W fun e w' => e = .returned (.tuple #[.int .u32 (plkI (getF t dir) nm), .int .i64 (plkE (getF t dir) nm)]) ∧ Below W.heap.size W w') := hid (fun a c L W h => lookE_c c dir nm W h (by have := RT.out.few; omega))
 have AM : Hid (∀ g, 0 ≤ g → g < 4294967296 → (ApplyL t (mvO dir nm g)).1 = 10 → ∀ (a : Option Addr) (c : Nat) (L : List Nd) (W : World), TrE W a L t → Calls Tryz.prog 12 #[.slice a L.length c, .agg #[.int .u8 7, .int .u32 0, .int .u32 dir, .string nm, .int .u32 g, .string ⟨#[105, 110]⟩, .int .u16 0, .string ⟨#[]⟩]] W fun e w' => ∃ a c n, e = .returned (.tuple #[.slice a n c, .int .i64 10]) ∧ Below W.heap.size W w') := hid (fun g g0 g1 h10 a c L W h => by
   refine (apply_c c (mvO dir nm g) W h (by have := RT.out.few; omega) (WM.out g g0 g1)).mono ?_
   rintro e w' ⟨a', c', L', rfl, _, hb⟩
   rw [h10]
   exact ⟨a', c', L'.length, rfl, hb⟩)
 generalize plkI (getF t dir) nm = fx at *
 generalize plkE (getF t dir) nm = ce at *
 generalize Pa.nameB nm.data.toList = bn at *
 go_enter Tryz.func5, Tryz.ntmps5
 go_upto_region 1 with fail
 generalize w.alloc (.cells #[.int .u8 k, .int .u32 fid, .int .u32 dir, .string nm, .int .u32 tof, .string nm2, .int .u16 md, .string dt] 32) = V at *
 go_upto_region 4 with (first
   | (have _q := T2.out; clear _q; go_at_call 11; refine (getE_c c1 fx w2 T2.out (by have := RT.out.few; omega)).mono ?_; rintro _ w3 ⟨uf, uk, um, ul, uda, udc, uzs, uka, ukc, uks, ub, rfl, hn1, hn2, hok, hb3⟩; have N1 := hid hn1; have N2 := hid hn2; have NK := hid hok; have V3 := hid (V2.out.trans (hb3.mono V2.out.size)); have T3 := hid (T2.out.later hb3); clear hn1 hn2 hok hb3)
   | (go_at_call 13; refine (LK.out a1 c1 L1 w1 T1.out).mono ?_; rintro _ w2 ⟨rfl, hb2⟩; have T2 := hid (T1.out.later hb2); have V2 := hid (V1.out.trans (hb2.mono V1.out.size)); clear hb2)
   | (go_at_call 10; refine MC.out.mono ?_; rintro _ w1 ⟨a1, c1, L1, rfl, t1, hb1⟩; have T1 := hid (t1.tre (by have := RT.out.few; omega)); have V1 := hid hb1; obtain ⟨p2, p3⟩ := OC.out w1 hb1; clear t1 hb1))
 have b4 := below_1 w3 (.cells #[.int .u32 uf, .int .u8 uk, .int .u16 um, .int .u16 ul, .slice uda uzs.length udc, .slice uka uks.length ukc] 38)
 have N9 := hid (heap_alloc_new w3 (.cells #[.int .u32 uf, .int .u8 uk, .int .u16 um, .int .u16 ul, .slice uda uzs.length udc, .slice uka uks.length ukc] 38))
 have T4 := hid (T3.out.later b4)
 have V4 := hid (V3.out.trans (b4.mono V3.out.size))
 have NK4 := hid (NK.out.2.2.2.2.2.later b4)
 clear b4 T1 T2 T3 V1 V2 V3 MC p2 p3 LK
 change Code.wp _ _ _ _ (w3.alloc (.cells #[.int .u32 uf, .int .u8 uk, .int .u16 um, .int .u16 ul, .slice uda uzs.length udc, .slice uka uks.length ukc] 38))
 generalize hW4 : w3.alloc (.cells #[.int .u32 uf, .int .u8 uk, .int .u16 um, .int .u16 ul, .slice uda uzs.length udc, .slice uka uks.length ukc] 38) = W4 at *
 clear hW4
 have CL : Hid (∀ W, Below W4.heap.size W4 W → W.cell? ⟨w3.heap.size, 1, none⟩ = some (.int .u8 uk) ∧ W.cell? ⟨w3.heap.size, 5, none⟩ = some (.slice uka uks.length ukc)) := hid (fun W hW => ⟨cell_of_row2 ((hW.block _ (lt_blkR N9.out)).trans N9.out) 1 rfl, cell_of_row2 ((hW.block _ (lt_blkR N9.out)).trans N9.out) 5 rfl⟩)
 obtain ⟨p2, p3⟩ := OC.out W4 V4.out
 obtain ⟨n1, n5⟩ := CL.out W4 (Below.refl _ _)
 have K4 := hid (B0.out.trans (V4.out.mono B0.out.size))
 by_cases he : ce = 0
 · subst he
   by_cases hk : uk = 2
   · subst hk
     cases bn with
     | false =>
       clear LG AM N1 N2
       go_wp2_with (first
         | (go_at_call 14; refine (NC.out _).mono ?_; rintro _ w5 ⟨rfl, hw5⟩; have hw6 := hw5.symm; clear hw5; subst hw6)
         | (go_at_call 7; refine (LC.out _).mono ?_; rintro _ w7 ⟨rfl, hb7⟩; have K7 := hid (K4.out.trans (hb7.mono K4.out.size)); clear hb7))
       go_ret
       exact ⟨by first | rfl | simp, K7.out⟩
     | true =>
       obtain ⟨nn, hg⟩ : ∃ nn, getF t fx = some nn := by
         cases h9 : getF t fx with
         | some y => exact ⟨y, rfl⟩
         | none => have := N2.out h9; omega
       obtain ⟨e1, e2, e3, e4, e5, e6⟩ := N1.out nn hg
       have ef : nn.fid = fx := (getF_mem hg).2
       have hfx : 0 ≤ fx ∧ fx < 4294967296 := by have := NK.out.1; simp only at this; omega
       have LG2 : Hid (∀ (g : Int) (kk : Nd), getF t g = some kk → kk.k = 2 → (g = fx ∨ ∃ q ∈ uks, q.fid = g) → (ApplyL t (mvO dir nm g)).1 = 10) := hid (fun g kk a1 a2 a3 => LG.out rfl rfl nn hg (by omega) g kk a1 a2 (by rw [← e6]; exact a3))
       have AF := hid (AM.out fx hfx.1 hfx.2 (LG2.out fx nn hg (by omega) (.inl rfl)) a1 c1 L1 W4 T4.out)
       have HL : uks.length ≤ 9223372036854775807 := NK4.out.1
       obtain ⟨n, hn⟩ : ∃ n, n = uks.length := ⟨_, rfl⟩
       have HN := hid hn
       rw [← hn] at HL n5
       rw [← hn] at CL
       clear LG N1 N2 e1 e2 e3 e4 e5 e6 ef hg hn hfx
       go_wp2_with (first
         | (go_at_call 14; refine (NC.out _).mono ?_; rintro _ w5 ⟨rfl, hw5⟩; have hw6 := hw5.symm; clear hw5; subst hw6)
         | (go_at_call 12; refine AF.out.mono ?_; rintro _ w6 ⟨a6, c6, n6, rfl, hb6⟩; have Z6 := hid hb6; clear hb6))
       clear AF n1 n5 p2 p3
       go_loopg [12] n (fun gk v wr => ∃ m : Nat, m + gk = n ∧ v = .int .i64 m ∧ Hid (Below W4.heap.size W4 wr))
       case atStart => exact ⟨0, by omega, rfl, Z6⟩
       case round =>
         clear Z6
         obtain ⟨m, hm2, rfl, BX⟩ := hrel
         obtain ⟨n1, n5⟩ := CL.out wr BX.out
         obtain ⟨p2, p3⟩ := OC.out wr (V4.out.trans (BX.out.mono V4.out.size))
         by_cases hlt : m < n
         · have hltI : (m : Int) < n := by omega
           have h1 : m < uks.length := by rw [← HN.out]; exact hlt
           have NKr := NK4.out.later BX.out
           obtain ⟨b, off, rfl, _⟩ := NKr.2.2 (by omega)
           obtain ⟨k0, k1⟩ := NKr.at (i := m) h1
           have QM := hid (getD_mem uks Kd.no h1)
           clear h1 NKr
           generalize uks.getD m Kd.no = y at *
           have TX := hid (T4.out.later BX.out)
           go_upto_region 11 with (go_at_call 11; refine (getE_c c1 y.fid wr TX.out (by have := RT.out.few; omega)).mono ?_; rintro _ w7 ⟨rf, rk, rm, rl, rda, rdc, rzs, rka, rkc, rks, rb, rfl, hn1, hn2, hok, hb7⟩; have R1 := hid hn1; have R2 := hid hn2; have RK := hid hok; have Z7 := hid (BX.out.trans (hb7.mono BX.out.size)); clear hn1 hn2 hok hb7)
           have b8 := below_1 w7 (.cells #[.int .u32 rf, .int .u8 rk, .int .u16 rm, .int .u16 rl, .slice rda rzs.length rdc, .slice rka rks.length rkc] 38)
           have R9 := heap_alloc_new w7 (.cells #[.int .u32 rf, .int .u8 rk, .int .u16 rm, .int .u16 rl, .slice rda rzs.length rdc, .slice rka rks.length rkc] 38)
           have Z8 := hid (Z7.out.trans (b8.mono Z7.out.size))
           clear b8 Z7 TX n1 n5 p2 p3 k0 k1
           change Code.wp _ _ _ _ (w7.alloc (.cells #[.int .u32 rf, .int .u8 rk, .int .u16 rm, .int .u16 rl, .slice rda rzs.length rdc, .slice rka rks.length rkc] 38))
           generalize hW8 : w7.alloc (.cells #[.int .u32 rf, .int .u8 rk, .int .u16 rm, .int .u16 rl, .slice rda rzs.length rdc, .slice rka rks.length rkc] 38) = W8 at *
           clear hW8
           obtain ⟨p2, p3⟩ := OC.out W8 (V4.out.trans (Z8.out.mono V4.out.size))
           have r0 : W8.cell? ⟨w7.heap.size, 0, none⟩ = some (.int .u32 rf) := cell_of_row2 R9 0 rfl
           have r1 : W8.cell? ⟨w7.heap.size, 1, none⟩ = some (.int .u8 rk) := cell_of_row2 R9 1 rfl
           clear R9
           by_cases hk : rk = 2
           · subst hk
             obtain ⟨kk, hg⟩ : ∃ kk, getF t y.fid = some kk := by
               cases h9 : getF t y.fid with
               | some y => exact ⟨y, rfl⟩
               | none => have := R2.out h9; omega
             obtain ⟨e1, e2, e3, e4, e5, e6⟩ := R1.out kk hg
             have ef : kk.fid = y.fid := (getF_mem hg).2
             have ey : y.fid = rf := by omega
             have hrf : 0 ≤ rf ∧ rf < 4294967296 := by have := RK.out.1; simp only at this; omega
             have AG := hid (AM.out rf hrf.1 hrf.2 (LG2.out rf kk (by rw [← ey]; exact hg) (by omega) (.inr ⟨y, QM.out, ey⟩)) a1 c1 L1 W8 (T4.out.later Z8.out))
             clear R1 R2 RK e1 e2 e3 e4 e5 e6 ef hg ey hrf QM
             go_wp2_with (go_at_call 12; refine AG.out.mono ?_; rintro _ w9 ⟨a9, c9, n9, rfl, hb9⟩; have Z9 := hid (Z8.out.trans (hb9.mono Z8.out.size)); clear hb9)
             go_roundg (gk - 1)
             case measure => omega
             case rel => exact ⟨m + 1, by omega, by go_num, Z9⟩
           · have hkb : (rk != 2) = true := by simp [hk]
             clear R1 R2 RK QM AM LG2
             go_wp2
             go_roundg (gk - 1)
             case measure => omega
             case rel => exact ⟨m + 1, by omega, by go_num, Z8⟩
         · have hge : ¬ (m : Int) < n := by omega
           have K5 := hid (K4.out.trans (BX.out.mono K4.out.size))
           clear AM LG2
           go_wp2_with (go_at_call 7; refine (LC.out _).mono ?_; rintro _ w9 ⟨rfl, hb9⟩; have K9 := hid (K5.out.trans (hb9.mono K5.out.size)); clear hb9)
           go_ret
           exact ⟨by first | rfl | simp, K9.out⟩
   · have hkb : (uk != 2) = true := by simp [hk]
     clear LG AM N1 N2
     go_wp2_with (go_at_call 7; refine (LC.out _).mono ?_; rintro _ w7 ⟨rfl, hb7⟩; have K7 := hid (K4.out.trans (hb7.mono K4.out.size)); clear hb7)
     go_ret
     exact ⟨by first | rfl | simp, K7.out⟩
 · have heb : (ce != 0) = true := by simp [he]
   clear LG AM N1 N2
   go_wp2_with (go_at_call 7; refine (LC.out _).mono ?_; rintro _ w7 ⟨rfl, hb7⟩; have K7 := hid (K4.out.trans (hb7.mono K4.out.size)); clear hb7)
   go_ret
   exact ⟨by first | rfl | simp, K7.out⟩
/-! ### The row of TreeLoops -/
theorem treeLoops_own : ownKnob Tryz.prog.godebug = none := by kernel_rfl
theorem treeLoops_laidOut : laidOutB Tryz.prog = true := by kernel_rfl
set_option maxRecDepth 100000 in
theorem treeLoops_lifted (os : Os) (started : os.Started) (H : Type) (enc : TypeId × Value → H) :
   ReturnsInHanded {} Tryz.checked os 5 .any (Rows.treeLoopsSpec.pre6 enc Tryz.prog Tryz.f5 Rows.treeLoopsRow.domain false) (Rows.treeLoopsSpec.post enc Tryz.prog Tryz.f5 false true false false) := by
 refine returnsInHanded_of_change (C := Tryz.checked) treeLoops_own started (by kernel_rfl) Tryz.func5
   (ChangeSpec.witness6 (enc := enc) (C := Tryz.checked) false ⟨#[], #[.slice none 0 0, .agg #[.int .u8 0, .int .u32 0, .int .u32 0, .string ByteArray.empty, .int .u32 0, .string ByteArray.empty, .int .u16 0, .string ByteArray.empty]], []⟩ 8 (by kernel_rfl) (by kernel_rfl) (by kernel_rfl) (by kernel_rfl)) ?_
 intro W base args ds gs before hval0 hW hcnd _
 have hval : ∀ (j : Nat) t v, Tryz.f5.params[j]? = some t → args[j]? = some v → Value.okWide Tryz.prog W .any base t v := hval0
 have hW' := hW
 obtain ⟨p, q, hA0, hV, rfl, hfz, hnd⟩ := hW
 have hA : DataW.TrodAll enc Tryz.prog W 0 (fun _ => true) true Tryz.f5.params.toList args.toList ds p := hA0
 rw [Tryz.params5] at hA hval
 obtain ⟨v0, vs0, d0, ds0, p0, q0, hargs, rfl, rfl, h0, r0⟩ := trodAll_cons hA
 obtain ⟨v1, vs1, d1, ds1, p1, q1, rfl, rfl, rfl, h1, r1⟩ := trodAll_cons r0
 obtain ⟨rfl, rfl, rfl⟩ := trodAll_nil r1
 obtain rfl : args = #[v0, v1] := by cases args; simp_all
 obtain ⟨rfl, rfl⟩ := trodVars_none hV
 have k0 := h0
 have lt0 : ∀ x ∈ p0, x.block < W.heap.size := by obtain ⟨m, hm⟩ := k0; exact DataW.trod_lt m _ _ _ hm
 obtain ⟨a0, len0, cap0, rfl⟩ := okWide_slice Tryz.underlying26 (hval 0 26 v0 rfl rfl)
 obtain ⟨z0, lz0, w0, lc0⟩ := isOs_of Tryz.underlying26 h0
 have k1 := h1
 have lt1 : ∀ x ∈ p1, x.block < W.heap.size := by obtain ⟨m, hm⟩ := k1; exact DataW.trod_lt m _ _ _ hm
 obtain ⟨q1, rfl, wq1⟩ := open_op (hval 1 32 v1 rfl rfl) h1
 clear hA0 hval0
 refine (treeLoops_walk a0 len0 cap0 z0 lz0 lc0 q1 W w0 wq1).mono fun e W' ⟨he, bel⟩ => ?_
 subst he
 exact ⟨_, rfl, _, _, _, [], _, [], hW', trodAll_mk1 (shut_bool Tryz.underlying4 _), (trodAll_cons_mk (Below.trod treeLoops_laidOut (by kernel_rfl) (of_decide_eq_true (by kernel_rfl)) k0 bel lt0) (trodAll_cons_mk (Below.trod treeLoops_laidOut (by kernel_rfl) (of_decide_eq_true (by kernel_rfl)) k1 bel lt1) trodAll_mk0)), rfl, bel.frame _, fun h => by cases h⟩
theorem treeLoops_over : Rows.treeLoopsRow.holds Tryz.pinned (OpenSpec.ofChange Rows.treeLoopsSpec) :=
 OpenClaim.holds_of_wide 5 Tryz.f5 rfl rfl rfl rfl rfl rfl rfl ⟨rfl, rfl, rfl, rfl, rfl⟩ rfl rfl rfl rfl rfl (by kernel_rfl) Tryz.func5 (by kernel_rfl)
   (of_decide_eq_true (by kernel_rfl)) (by unfold Func.isWrapper; first | (rw [if_pos (by decide +kernel)]; kernel_rfl) | (rw [if_neg (by decide +kernel)]; exact ⟨rfl, rfl⟩))
   (fun os started H enc _ => treeLoops_lifted os started H enc)
theorem treeLoops_holds : Rows.TreeLoopsSaid := treeLoops_over
#print axioms treeLoops_holds
end Go.Proofs.YtgbdplammniidaaGreat
