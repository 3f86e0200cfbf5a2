/-
  For every operations, a file, a place and a text: a file with two entries is one file; it goes with its last entry.
-/
import Derived.Test.YtgbdplammniidaaGreatSrBv
namespace Go.Proofs.YtgbdplammniidaaGreat
open Go.RowKit Go.ChangeShapes Go.WideShapes Go.ChangeAt Go.Maps Go.Shelf
open Go.ChangeMaps (open_string shut_string)
set_option linter.unusedVariables false
set_option linter.unusedSimpArgs false
set_option maxRecDepth 20000
set_option maxHeartbeats 8000000 in
theorem treeHard_walk (a0 : Option Addr) (len0 cap0 : Nat) (ops : List Rec) (lz0 : ops.length = len0) (lc0 : len0 ≤ cap0) (f : Int) (wf : (Lit.int .u32 f).wf = true) (o : Rec) (w : World) (h0 : IsOs w a0 ops) (wq : o.Wf) :
   Calls Tryz.prog 4 #[.slice a0 len0 cap0, .int .u32 f, o.opV] w fun e w' => e = .returned (.bool true) ∧ Below w.heap.size w w' := by
 have hf : 0 ≤ f ∧ f < 4294967296 := by simp [Lit.wf, IntKind.min, IntKind.max, IntKind.signed, IntKind.bits] at wf; omega
 obtain ⟨k, fid, dir, nm, tof, nm2, md, dt, sn⟩ := o
 simp only [Rec.opV]
 have b0 := below_1 w (.cells #[.int .u8 k, .int .u32 fid, .int .u32 dir, .string nm, .int .u32 tof, .string nm2, .int .u16 md, .string dt] 32)
 have h1 := heap_alloc_new w (.cells #[.int .u8 k, .int .u32 fid, .int .u32 dir, .string nm, .int .u32 tof, .string nm2, .int .u16 md, .string dt] 32)
 have MC := hid (made_c a0 len0 cap0 ops _ lz0 lc0 (h0.later b0))
 have RT := hid (pm_rt h0.2.1 40)
 have WH := hid (hd_wf (s := nm) hf.1 hf.2 wq.2.2.1.1 wq.2.2.1.2 wq.2.2.2.2.2.2.1)
 have WS := hid (st_wf (s := dt) hf.1 hf.2 wq.2.2.2.2.2.2.2.2)
 have WB := hid (bk_wf WH.out (.inl rfl))
 have HA := hid (hard_all (pm_rt h0.2.1 40) (pm_er h0.2.1 40) WH.out)
 have OC : Hid (∀ W, Below (w.alloc (.cells #[.int .u8 k, .int .u32 fid, .int .u32 dir, .string nm, .int .u32 tof, .string nm2, .int .u16 md, .string dt] 32)).heap.size (w.alloc (.cells #[.int .u8 k, .int .u32 fid, .int .u32 dir, .string nm, .int .u32 tof, .string nm2, .int .u16 md, .string dt] 32)) W → W.cell? ⟨w.heap.size, 2, none⟩ = some (.int .u32 dir) ∧ W.cell? ⟨w.heap.size, 3, none⟩ = some (.string nm) ∧ W.cell? ⟨w.heap.size, 7, none⟩ = some (.string dt)) := hid (fun W hW => by
   have oh := (hW.block _ (lt_blkR h1)).trans h1
   exact ⟨cell_of_row2 oh 2 rfl, cell_of_row2 oh 3 rfl, cell_of_row2 oh 7 rfl⟩)
 have B0 := hid b0
 have LC := hid (fun W => tlive_c W)
 clear b0 h1 h0 wq wf
 generalize PmL ops 40 = t at *
 have XR : Hid ((ApplyL t (hdO f dir nm)).1 = 0 → Rt (ApplyL t (hdO f dir nm)).2) := hid (ApplyL_rt WH.out)
 have NO := hid (ApplyL_no (l := t) (o := hdO f dir nm))
 obtain ⟨⟨ce, X⟩, Hr⟩ : ∃ r, Hid (ApplyL t (hdO f dir nm) = r) := ⟨_, hid rfl⟩
 rw [Hr.out] at HA XR NO
 simp only at HA XR NO
 have AH : Hid (∀ (a : Option Addr) (c : Nat) (L : List Nd) (W : World), TrE W a L t → Calls Tryz.prog 12 #[.slice a L.length c, .agg #[.int .u8 4, .int .u32 f, .int .u32 dir, .string nm, .int .u32 0, .string ⟨#[]⟩, .int .u16 0, .string ⟨#[]⟩]] W (OpP W (ce, X))) := hid (fun a c L W h => by
   have := apply_c c (hdO f dir nm) W h (by have := RT.out.few; omega) WH.out
   rw [Hr.out] at this
   exact this)
 go_enter Tryz.func4, Tryz.ntmps4
 go_upto_region 1 with fail
 generalize w.alloc (.cells #[.int .u8 k, .int .u32 fid, .int .u32 dir, .string nm, .int .u32 tof, .string nm2, .int .u16 md, .string dt] 32) = V at *
 obtain ⟨p2, p3, p7⟩ := OC.out V (Below.refl _ _)
 go_upto_region 4 with (first
   | (go_at_call 11; refine (getE_c c1 f w1 T1.out (by have := RT.out.few; omega)).mono ?_; rintro _ w2 ⟨uf, uk, um, ul, uda, udc, uzs, uka, ukc, uks, ub, rfl, hn1, hn2, hok, hb2⟩; have N1 := hid hn1; have NK := hid hok; have V2 := hid (V1.out.trans (hb2.mono V1.out.size)); have T2 := hid (T1.out.later hb2); clear hn1 hn2 hok hb2)
   | (go_at_call 10; refine MC.out.mono ?_; rintro _ w1 ⟨a1, c1, L1, rfl, t1, hb1⟩; have T1 := hid (t1.tre (by have := RT.out.few; omega)); have V1 := hid hb1; clear t1 hb1))
 have b3 := below_1 w2 (.cells #[.int .u32 uf, .int .u8 uk, .int .u16 um, .int .u16 ul, .slice uda uzs.length udc, .slice uka uks.length ukc] 38)
 have N9 := hid (heap_alloc_new w2 (.cells #[.int .u32 uf, .int .u8 uk, .int .u16 um, .int .u16 ul, .slice uda uzs.length udc, .slice uka uks.length ukc] 38))
 have T3 := hid (T2.out.later b3)
 have V3 := hid (V2.out.trans (b3.mono V2.out.size))
 clear b3 T1 T2 V1 MC p2 p3 p7
 change Code.wp _ _ _ _ (w2.alloc (.cells #[.int .u32 uf, .int .u8 uk, .int .u16 um, .int .u16 ul, .slice uda uzs.length udc, .slice uka uks.length ukc] 38))
 generalize hW3 : w2.alloc (.cells #[.int .u32 uf, .int .u8 uk, .int .u16 um, .int .u16 ul, .slice uda uzs.length udc, .slice uka uks.length ukc] 38) = W3 at *
 clear hW3
 obtain ⟨p2, p3, p7⟩ := OC.out W3 V3.out
 have A1 := hid (AH.out a1 c1 L1 W3 T3.out)
 have K3 := hid (B0.out.trans (V3.out.mono B0.out.size))
 by_cases he : ce = 0
 · subst he
   obtain ⟨nn, NN, g1, g2, g3, g4, g5, g6⟩ := HA.out rfl
   have RX := hid (XR.out rfl)
   obtain ⟨e1, e2, e3, e4, e5, e6⟩ := N1.out nn g1
   have EB := hid e1
   have EL := hid e4
   clear e1 e2 e3 e4 e5 e6
   have SR : Hid ((ApplyL X (stO f dt)).1 = 0 → Rt (ApplyL X (stO f dt)).2) := hid (ApplyL_rt WS.out)
   have SH : Hid ((ApplyL X (stO f dt)).1 = 0 → ∃ n, getF (ApplyL X (stO f dt)).2 f = some n ∧ n.zs = txB dt) := hid (fun h => st_there RX.out h)
   obtain ⟨⟨ci, Y⟩, Hs⟩ : ∃ r, Hid (ApplyL X (stO f dt) = r) := ⟨_, hid rfl⟩
   rw [Hs.out] at SR SH
   simp only at SR SH
   have AS : Hid (∀ (a : Option Addr) (c : Nat) (L : List Nd) (W : World), TrE W a L X → Calls Tryz.prog 12 #[.slice a L.length c, .agg #[.int .u8 8, .int .u32 f, .int .u32 0, .string ⟨#[]⟩, .int .u32 0, .string ⟨#[]⟩, .int .u16 0, .string dt]] W (OpP W (ci, Y))) := hid (fun a c L W h => by
     have := apply_c c (stO f dt) W h (by have := RX.out.few; omega) WS.out
     rw [Hs.out] at this
     exact this)
   have AU : Hid (∀ (a : Option Addr) (c : Nat) (L : List Nd) (W : World), TrE W a L X → Calls Tryz.prog 12 #[.slice a L.length c, .agg #[.int .u8 5, .int .u32 0, .int .u32 dir, .string nm, .int .u32 0, .string ⟨#[]⟩, .int .u16 0, .string ⟨#[]⟩]] W (OpP W (0, t))) := hid (fun a c L W h => by
     have := apply_c c (bkO (hdO f dir nm) 5) W h (by have := RX.out.few; omega) WB.out
     rw [g6] at this
     exact this)
   have G2 := hid g2
   have G3 := hid g3
   clear HA XR NO g1 g2 g3 g6
   go_upto_region 11 with (first
     | (have _q := T7.out; clear _q; go_at_call 12; refine (AU.out a4 c4 L4 _ (T7.out.later (below_1 _ _))).mono ?_; rintro _ w9 ⟨a9, c9, L9, rfl, t9, hb9⟩; have b8 := (below_1 w7 (.cells #[.int .u32 mf, .int .u8 mk, .int .u16 mm, .int .u16 ml, .slice mda mzs.length mdc, .slice mka mks.length mkc] 38)); have b9 := b8.trans (hb9.mono b8.size); have T9 := hid t9; have N17 := hid ((hb9.block _ (lt_blkR (heap_alloc_new w7 (.cells #[.int .u32 mf, .int .u8 mk, .int .u16 mm, .int .u16 ml, .slice mda mzs.length mdc, .slice mka mks.length mkc] 38)))).trans (heap_alloc_new w7 (.cells #[.int .u32 mf, .int .u8 mk, .int .u16 mm, .int .u16 ml, .slice mda mzs.length mdc, .slice mka mks.length mkc] 38))); have Z9 := hid (Z7.out.trans (b9.mono Z7.out.size)); have Y9 := hid (Y7.out.later b9); clear t9 hb9 b8 b9)
     | (have _q := T6.out; clear _q; go_at_call 11; refine (getE_c c4 f w6 T6.out (by have := RX.out.few; omega)).mono ?_; rintro _ w7 ⟨mf, mk, mm, ml, mda, mdc, mzs, mka, mkc, mks, mb, rfl, hm1, hm2, hmk, hb7⟩; obtain ⟨e1, e2, e3, e4, e5, e6⟩ := hm1 NN G2.out; have ML := hid e4; have MK := hid hmk; have T7 := hid (T6.out.later hb7); have Y7 := hid (Y6.out.later hb7); have Z7 := hid (Z6.out.trans (hb7.mono Z6.out.size)); obtain ⟨s2, s3, s7⟩ := OC.out _ (V3.out.trans ((Z7.out.trans ((below_1 w7 (.cells #[.int .u32 mf, .int .u8 mk, .int .u16 mm, .int .u16 ml, .slice mda mzs.length mdc, .slice mka mks.length mkc] 38)).mono Z7.out.size)).mono V3.out.size)); clear e1 e2 e3 e4 e5 e6 hm1 hm2 hmk hb7)
     | (have _q := T5.out; clear _q; go_at_call 12; refine (AS.out a4 c4 L4 w5 T5.out).mono ?_; rintro _ w6 ⟨a6, c6, L6, rfl, t6, hb6⟩; have Y6 := hid t6; have T6 := hid (T5.out.later hb6); have Z6 := hid (Z5.out.trans (hb6.mono Z5.out.size)); clear t6 hb6)
     | (go_at_call 13; refine (lookE_c c4 dir nm w4 T4.out (by have := RX.out.few; omega)).mono ?_; rewrite [g4, g5]; rintro _ w5 ⟨rfl, hb5⟩; have T5 := hid (T4.out.later hb5); have Z5 := hid (Z4.out.trans (hb5.mono Z4.out.size)); clear hb5)
     | (go_at_call 12; refine A1.out.mono ?_; rintro _ w4 ⟨a4, c4, L4, rfl, t4, hb4⟩; have T4 := hid t4; have Z4 := hid hb4; obtain ⟨q2, q3, q7⟩ := OC.out w4 (V3.out.trans (hb4.mono V3.out.size)); clear t4 hb4))
   clear A1 AS AU T4 T5 T6 T7 Z4 Z5 Z6 Z7 Y6 Y7
   have O9 := hid (T3.out.later Z9.out)
   have K9 := hid (K3.out.trans (Z9.out.mono K3.out.size))
   have N9' := hid ((Z9.out.block _ (lt_blkR N9.out)).trans N9.out)
   have FIN : Hid (∀ W, Below w9.heap.size w9 W → Calls Tryz.prog 8 #[.slice a9 L9.length c9, .slice a1 L1.length c1] W fun e w' => e = .returned (.bool true) ∧ Below W.heap.size W w') := hid (fun W hW => (tre_same (ca := c9) (cb := c1) (T9.out.later hW) (O9.out.later hW) (by have := RT.out.few; omega) (by have := RT.out.few; omega)).mono (fun e w' hh => hh.is_t rfl))
   have CL : Hid (∀ W, Below w9.heap.size w9 W → W.cell? ⟨w2.heap.size, 3, none⟩ = some (.int .u16 ul) ∧ W.cell? ⟨w7.heap.size, 3, none⟩ = some (.int .u16 ml)) := hid (fun W hW => ⟨cell_of_row2 ((hW.block _ (lt_blkR N9'.out)).trans N9'.out) 3 rfl, cell_of_row2 ((hW.block _ (lt_blkR N17.out)).trans N17.out) 3 rfl⟩)
   have hml : ml = ul + 1 := by rw [ML.out, G3.out, EL.out]
   have hnl : 0 ≤ ul ∧ ul + 1 < 65536 := by have h7 := NK.out.2.2.2.1; have h8 := MK.out.2.2.2.1; simp only at h7 h8; omega
   have eb := EB.out
   subst eb hml
   clear EB EL G2 G3 ML NK MK N1 T3 V3 p2 p3 p7 OC N9 N9' N17
   by_cases hi : ci = 0
   · subst hi
     obtain ⟨yn, y1, y2⟩ := SH.out rfl
     have RY := hid (SR.out rfl)
     have Y1 := hid y1
     have Y2 := hid y2
     clear SH SR y1 y2
     go_wp2_with (first
       | (go_at_call 8; refine (FIN.out w12 E12.out).mono ?_; rintro _ w13 ⟨rfl, hb13⟩; have K13 := hid (K9.out.trans ((E12.out.trans (hb13.mono E12.out.size)).mono K9.out.size)); clear hb13)
       | (go_at_call 7; refine (LC.out _).mono ?_; rintro _ w12 ⟨rfl, hb12⟩; have E12 := hid (E11.out.trans (hb12.mono E11.out.size)); obtain ⟨x3, x4⟩ := CL.out w12 E12.out; clear hb12)
       | (go_at_call 11; refine (getE_c c6 f w9 Y9.out (by have := RY.out.few; omega)).mono ?_; rintro _ w10 ⟨rf, rk, rm, rl, rda, rdc, rzs, rka, rkc, rks, rb, rfl, hr1, hr2, hrk, hb10⟩; obtain ⟨e1, e2, e3, e4, e5, e6⟩ := hr1 yn Y1.out; have EZ := hid (e5.trans Y2.out); have b11 := (below_1 w10 (.cells #[.int .u32 rf, .int .u8 rk, .int .u16 rm, .int .u16 rl, .slice rda rzs.length rdc, .slice rka rks.length rkc] 38)); have E11 := hid (hb10.trans (b11.mono hb10.size)); have hrb := (hrk.2.2.2.2.1).later b11; (have cv := conv_anyN (pc := rdc) hrb); (have cv2 : (convert 35 9 (.slice rda rzs.length rdc)).run Tryz.prog (w10.alloc (.cells #[.int .u32 rf, .int .u8 rk, .int .u16 rm, .int .u16 rl, .slice rda rzs.length rdc, .slice rka rks.length rkc] 38)) = .ok (.string dt) (w10.alloc (.cells #[.int .u32 rf, .int .u8 rk, .int .u16 rm, .int .u16 rl, .slice rda rzs.length rdc, .slice rka rks.length rkc] 38)) := by rw [cv]; congr 1; rw [EZ.out, tx_txB]); clear e1 e2 e3 e4 e5 e6 hr1 hr2 hrk hb10 b11 hrb cv))
     go_ret
     exact ⟨by first | rfl | simp, K13.out⟩
   · have hib : (ci == 0) = false := by simp [hi]
     clear SH SR
     go_wp2_with (first
       | (go_at_call 8; refine (FIN.out w12 E12.out).mono ?_; rintro _ w13 ⟨rfl, hb13⟩; have K13 := hid (K9.out.trans ((E12.out.trans (hb13.mono E12.out.size)).mono K9.out.size)); clear hb13)
       | (go_at_call 7; refine (LC.out _).mono ?_; rintro _ w12 ⟨rfl, hb12⟩; have E12 := hid hb12; obtain ⟨x3, x4⟩ := CL.out w12 E12.out; clear hb12))
     go_ret
     exact ⟨by first | rfl | simp, K13.out⟩
 · have heb : (ce != 0) = true := by simp [he]
   have LN := hid (NO.out he)
   clear HA XR NO
   go_wp2_with (first
     | (go_at_call 7; refine (LC.out _).mono ?_; rintro _ w7 ⟨rfl, hb7⟩; have K7 := hid (K4.out.trans (hb7.mono K4.out.size)); clear hb7)
     | (go_at_call 12; refine A1.out.mono ?_; rintro _ w4 ⟨a4, c4, L4, rfl, t4, hb4⟩; have hl0 : L4.length = 0 := (by rw [t4.len]; simp only; rw [LN.out]; rfl); have K4 := hid (K3.out.trans (hb4.mono K3.out.size)); clear t4 hb4))
   go_ret
   exact ⟨by first | rfl | simp, K7.out⟩
/-! ### The row of TreeHard -/
theorem treeHard_own : ownKnob Tryz.prog.godebug = none := by kernel_rfl
theorem treeHard_laidOut : laidOutB Tryz.prog = true := by kernel_rfl
set_option maxRecDepth 100000 in
theorem treeHard_lifted (os : Os) (started : os.Started) (H : Type) (enc : TypeId × Value → H) :
   ReturnsInHanded {} Tryz.checked os 4 .any (Rows.treeHardSpec.pre6 enc Tryz.prog Tryz.f4 Rows.treeHardRow.domain false) (Rows.treeHardSpec.post enc Tryz.prog Tryz.f4 false true false false) := by
 refine returnsInHanded_of_change (C := Tryz.checked) treeHard_own started (by kernel_rfl) Tryz.func4
   (ChangeSpec.witness6 (enc := enc) (C := Tryz.checked) false ⟨#[], #[.slice none 0 0, .int .u32 0, .agg #[.int .u8 0, .int .u32 0, .int .u32 0, .string ByteArray.empty, .int .u32 0, .string ByteArray.empty, .int .u16 0, .string ByteArray.empty]], []⟩ 8 (by kernel_rfl) (by kernel_rfl) (by kernel_rfl) (by kernel_rfl)) ?_
 intro W base args ds gs before hval0 hW hcnd _
 have hval : ∀ (j : Nat) t v, Tryz.f4.params[j]? = some t → args[j]? = some v → Value.okWide Tryz.prog W .any base t v := hval0
 have hW' := hW
 obtain ⟨p, q, hA0, hV, rfl, hfz, hnd⟩ := hW
 have hA : DataW.TrodAll enc Tryz.prog W 0 (fun _ => true) true Tryz.f4.params.toList args.toList ds p := hA0
 rw [Tryz.params4] at hA hval
 obtain ⟨v0, vs0, d0, ds0, p0, q0, hargs, rfl, rfl, h0, r0⟩ := trodAll_cons hA
 obtain ⟨v1, vs1, d1, ds1, p1, q1, rfl, rfl, rfl, h1, r1⟩ := trodAll_cons r0
 obtain ⟨v2, vs2, d2, ds2, p2, q2, rfl, rfl, rfl, h2, r2⟩ := trodAll_cons r1
 obtain ⟨rfl, rfl, rfl⟩ := trodAll_nil r2
 obtain rfl : args = #[v0, v1, v2] := by cases args; simp_all
 obtain ⟨rfl, rfl⟩ := trodVars_none hV
 have k0 := h0
 have lt0 : ∀ x ∈ p0, x.block < W.heap.size := by obtain ⟨m, hm⟩ := k0; exact DataW.trod_lt m _ _ _ hm
 obtain ⟨a0, len0, cap0, rfl⟩ := okWide_slice Tryz.underlying26 (hval 0 26 v0 rfl rfl)
 obtain ⟨z0, lz0, w0, lc0⟩ := isOs_of Tryz.underlying26 h0
 obtain ⟨a1, rfl, rfl, rfl, w1⟩ := open_int Tryz.underlying28 (hval 1 28 v1 rfl rfl) h1
 have k2 := h2
 have lt2 : ∀ x ∈ p2, x.block < W.heap.size := by obtain ⟨m, hm⟩ := k2; exact DataW.trod_lt m _ _ _ hm
 obtain ⟨q2, rfl, wq2⟩ := open_op (hval 2 32 v2 rfl rfl) h2
 clear hA0 hval0
 refine (treeHard_walk a0 len0 cap0 z0 lz0 lc0 a1 w1 q2 W w0 wq2).mono fun e W' ⟨he, bel⟩ => ?_
 subst he
 exact ⟨_, rfl, _, _, _, [], _, [], hW', trodAll_mk1 (shut_bool Tryz.underlying4 _), (trodAll_cons_mk (Below.trod treeHard_laidOut (by kernel_rfl) (of_decide_eq_true (by kernel_rfl)) k0 bel lt0) (trodAll_cons_mk (shut_int Tryz.underlying28 w1) (trodAll_cons_mk (Below.trod treeHard_laidOut (by kernel_rfl) (of_decide_eq_true (by kernel_rfl)) k2 bel lt2) trodAll_mk0))), rfl, bel.frame _, fun h => by cases h⟩
theorem treeHard_over : Rows.treeHardRow.holds Tryz.pinned (OpenSpec.ofChange Rows.treeHardSpec) :=
 OpenClaim.holds_of_wide 4 Tryz.f4 rfl rfl rfl rfl rfl rfl rfl ⟨rfl, rfl, rfl, rfl, rfl⟩ rfl rfl rfl rfl rfl (by kernel_rfl) Tryz.func4 (by kernel_rfl)
   (of_decide_eq_true (by kernel_rfl)) (by unfold Func.isWrapper; first | (rw [if_pos (by decide +kernel)]; kernel_rfl) | (rw [if_neg (by decide +kernel)]; exact ⟨rfl, rfl⟩))
   (fun os started H enc _ => treeHard_lifted os started H enc)
theorem treeHard_holds : Rows.TreeHardSaid := treeHard_over
#print axioms treeHard_holds
end Go.Proofs.YtgbdplammniidaaGreat
