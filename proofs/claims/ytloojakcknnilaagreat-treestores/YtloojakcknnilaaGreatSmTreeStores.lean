/-
  For every operations, an object and two texts: what is stored last is what is there; nothing else changes by it.
-/
import Derived.Test.YtloojakcknnilaaGreatSmBq
import Derived.Test.YtloojakcknnilaaGreatSmBp
namespace Go.Proofs.YtloojakcknnilaaGreat
open Go.RowKit Go.ChangeShapes Go.WideShapes Go.ChangeAt Go.Maps Go.Shelf
open Go.ChangeMaps (open_string shut_string)
set_option linter.unusedVariables false
set_option linter.unusedSimpArgs false
set_option maxRecDepth 20000
set_option maxHeartbeats 4000000 in
theorem treeStores_walk (a0 : Option Addr) (len0 cap0 : Nat) (ops : List Rec) (lz0 : ops.length = len0) (lc0 : len0 ≤ cap0) (f : Int) (wf : (Lit.int .u32 f).wf = true) (s0 s1 : ByteArray) (hs0 : s0.size ≤ maxLen) (hs1 : s1.size ≤ maxLen) (w : World) (h0 : IsOs w a0 ops) :
   Calls Tryz.prog 8 #[.slice a0 len0 cap0, .int .u32 f, .agg #[.string s0, .string s1]] w fun e w' => e = .returned (.bool true) ∧ Below w.heap.size w w' := by
 have hf : 0 ≤ f ∧ f < 4294967296 := by simp [Lit.wf, IntKind.min, IntKind.max, IntKind.signed, IntKind.bits] at wf; omega
 have b0 := below_1 w (.cells #[.string s0, .string s1] 53)
 have h1 := heap_alloc_new w (.cells #[.string s0, .string s1] 53)
 have MC := hid (made_c a0 len0 cap0 ops _ lz0 lc0 (h0.later b0))
 have RT := hid (pm_rt h0.2.1 40)
 have W0 := hid (st_wf hf.1 hf.2 hs0)
 have W1 := hid (st_wf hf.1 hf.2 hs1)
 have ST := hid (store_all (pm_rt h0.2.1 40) (s0 := s0) (s1 := s1) hf.1 hf.2 hs0 hs1)
 have BX : Hid (∀ W, Below (w.alloc (.cells #[.string s0, .string s1] 53)).heap.size (w.alloc (.cells #[.string s0, .string s1] 53)) W → W.cell? ⟨w.heap.size, 0, none⟩ = some (.string s0) ∧ W.cell? ⟨w.heap.size, 1, none⟩ = some (.string s1)) := hid (fun W hW => ⟨cell_of_row2 ((hW.block _ (lt_blkR h1)).trans h1) 0 rfl, cell_of_row2 ((hW.block _ (lt_blkR h1)).trans h1) 1 rfl⟩)
 have B0 := hid b0
 have LC := hid (fun W => tlive_c W)
 clear b0 h1 h0 wf hf
 generalize PmL ops 40 = t at *
 have XR0 : Hid ((ApplyL t (stO f s0)).1 = 0 → Rt (ApplyL t (stO f s0)).2) := hid (ApplyL_rt W0.out)
 have XR1 : Hid ((ApplyL t (stO f s1)).1 = 0 → Rt (ApplyL t (stO f s1)).2) := hid (ApplyL_rt W1.out)
 have NO := hid (ApplyL_no (l := t) (o := stO f s0))
 obtain ⟨⟨ce, A⟩, H0⟩ : ∃ r, Hid (ApplyL t (stO f s0) = r) := ⟨_, hid rfl⟩
 obtain ⟨⟨cg, B⟩, H1⟩ : ∃ r, Hid (ApplyL t (stO f s1) = r) := ⟨_, hid rfl⟩
 rw [H0.out, H1.out] at ST
 rw [H0.out] at XR0 NO
 rw [H1.out] at XR1
 simp only at ST XR0 XR1 NO
 have AC0 : Hid (∀ (a : Option Addr) (c : Nat) (L : List Nd) (W : World), TrE W a L t → Calls Tryz.prog 10 #[.slice a L.length c, .agg #[.int .u8 8, .int .u32 f, .int .u32 0, .string ⟨#[]⟩, .int .u32 0, .string ⟨#[]⟩, .int .u16 0, .string s0]] W (OpP W (ce, A))) := hid (fun a c L W h => by
   have := apply_c c (stO f s0) W h (by have := RT.out.few; omega) W0.out
   rw [H0.out] at this
   exact this)
 have AC1 : Hid (∀ (a : Option Addr) (c : Nat) (L : List Nd) (W : World), TrE W a L t → Calls Tryz.prog 10 #[.slice a L.length c, .agg #[.int .u8 8, .int .u32 f, .int .u32 0, .string ⟨#[]⟩, .int .u32 0, .string ⟨#[]⟩, .int .u16 0, .string s1]] W (OpP W (cg, B))) := hid (fun a c L W h => by
   have := apply_c c (stO f s1) W h (by have := RT.out.few; omega) W1.out
   rw [H1.out] at this
   exact this)
 go_enter Tryz.func8, Tryz.ntmps8
 go_upto_region 1 with fail
 generalize w.alloc (.cells #[.string s0, .string s1] 53) = V at *
 go_upto_region 4 with (first
   | (have _q := T2.out; clear _q; go_at_call 10; refine (AC1.out a1 c1 L1 w2 (T1.out.later Z2.out)).mono ?_; rintro _ w3 ⟨a3, c3, L3, rfl, t3, hb3⟩; have T3 := hid t3; have V3 := hid (V2.out.trans (hb3.mono V2.out.size)); have Y3 := hid (T2.out.later hb3); have O3 := hid (T1.out.later (Z2.out.trans (hb3.mono Z2.out.size))); obtain ⟨u0, u1⟩ := BX.out w3 V3.out; clear t3 hb3 v0 v1)
   | (have _q := T1.out; clear _q; go_at_call 10; refine (AC0.out a1 c1 L1 w1 T1.out).mono ?_; rintro _ w2 ⟨a2, c2, L2, rfl, t2, hb2⟩; have T2 := hid t2; have V2 := hid (V1.out.trans (hb2.mono V1.out.size)); have Z2 := hid hb2; obtain ⟨v0, v1⟩ := BX.out w2 V2.out; clear t2 hb2 x0 x1)
   | (go_at_call 26; refine MC.out.mono ?_; rintro _ w1 ⟨a1, c1, L1, rfl, t1, hb1⟩; have T1 := hid (t1.tre (by have := RT.out.few; omega)); have V1 := hid hb1; obtain ⟨x0, x1⟩ := BX.out w1 hb1; clear t1 hb1))
 have K3 := hid (B0.out.trans (V3.out.mono B0.out.size))
 clear MC AC0 T1 T2 V1 V2 Z2
 by_cases he : ce = 0
 · subst he
   by_cases hg : cg = 0
   · subst hg
     obtain ⟨s1', ⟨n, n1, n2⟩, s3⟩ := ST.out rfl rfl
     have RA := hid (XR0.out rfl)
     have RB := hid (XR1.out rfl)
     have AC2 : Hid (∀ (a : Option Addr) (c : Nat) (L : List Nd) (W : World), TrE W a L A → Calls Tryz.prog 10 #[.slice a L.length c, .agg #[.int .u8 8, .int .u32 f, .int .u32 0, .string ⟨#[]⟩, .int .u32 0, .string ⟨#[]⟩, .int .u16 0, .string s1]] W (OpP W (0, B))) := hid (fun a c L W h => by
       have := apply_c c (stO f s1) W h (by have := RA.out.few; omega) W1.out
       rw [s1'] at this
       exact this)
     have GC : Hid (∀ (a : Option Addr) (c : Nat) (L : List Nd) (W : World), TrE W a L B → Calls Tryz.prog 28 #[.slice a L.length c, .int .u32 f] W fun e w' => (∃ z : Nd, e = .returned (.tuple #[z.val, .bool true]) ∧ z.zs = txB s1 ∧ NdP w' z) ∧ Below W.heap.size W w') := hid (fun a c L W h => by
       have hh := tGet_c a c L f W h.1 (by rw [h.len]; have := RB.out.few; omega)
       have e1 := getF_er L f
       rw [h.2, n1] at e1
       cases q : getF L f with
       | none => rw [q] at e1; cases e1
       | some y =>
         rw [q] at e1 hh
         have e2 : n = y.er := Option.some.inj e1
         refine hh.mono ?_
         rintro e w' ⟨⟨z, rfl, ez, hz⟩, hb⟩
         refine ⟨⟨z, rfl, ?_, hz⟩, hb⟩
         have e3 : z.er.zs = y.er.zs := by rw [ez]
         rw [← e2, n2] at e3
         exact e3)
     have LN := hid s3
     clear ST XR0 XR1 NO s1' n1 n2 s3 H0 H1 AC1
     go_wp2_with (first
       | (go_at_call 25; refine S1.out.mono ?_; intro _ w8 h8; obtain ⟨rfl, hb8⟩ := h8.is_t (by first | rfl | trivial); have K8 := hid (K7.out.trans (hb8.mono K7.out.size)); have hxn := (Q7.out.block _ (lt_blkR N6.out)).trans N6.out; have hxn8 := (hb8.block _ (lt_blkR hxn)).trans hxn; (have z4 := (nd_cells (x := ⟨zf, zk, zm, zl, zda, zdc, zzs, zka, zkc, zks⟩) hxn8).2.2.2.2.1); dsimp only at z4; have zb := ((NP6.out.later Q7.out).later hb8).1.2.2.2.2.1; have cv := conv_anyN (pc := zdc) zb; (have cv2 : (convert 55 9 (.slice zda zzs.length zdc)).run Tryz.prog w8 = .ok (.string s1) w8 := by rw [cv]; congr 1; rw [EZ.out, tx_txB]); obtain ⟨y0, y1⟩ := BX.out w8 (V7.out.trans (hb8.mono V7.out.size)); have hcl : L4.length = L1.length := (by rw [T4.out.len, O3.out.len]; exact LN.out); clear h8 hb8 hxn hxn8 zb cv)
       | (go_at_call 12; refine (LC.out _).mono ?_; rintro _ w7 ⟨rfl, hb7⟩; have K7 := hid (K6.out.trans (hb7.mono K6.out.size)); have Q7 := hid hb7; have V7 := hid (V6.out.trans (hb7.mono V6.out.size)); have S1 := hid (tre_same (ca := c3) (cb := c4) (Y6.out.later hb7) (X6.out.later hb7) (by have := RB.out.few; omega) (by have := RB.out.few; omega)); clear hb7)
       | (go_at_call 28; refine (GC.out a4 c4 L4 w4 T4.out).mono ?_; rintro _ w5 ⟨⟨z, rfl, ez, hz⟩, hb5⟩; obtain ⟨zf, zk, zm, zl, zda, zdc, zzs, zka, zkc, zks⟩ := z; simp only [Nd.val] at *; have EZ := hid ez; have b6 := (below_1 w5 (.cells #[.int .u32 zf, .int .u8 zk, .int .u16 zm, .int .u16 zl, .slice zda zzs.length zdc, .slice zka zks.length zkc] 58)); have N6 := hid (heap_alloc_new w5 (.cells #[.int .u32 zf, .int .u8 zk, .int .u16 zm, .int .u16 zl, .slice zda zzs.length zdc, .slice zka zks.length zkc] 58)); have q6 := hb5.trans (b6.mono hb5.size); have K6 := hid (K4.out.trans (q6.mono K4.out.size)); have V6 := hid (V4.out.trans (q6.mono V4.out.size)); have Y6 := hid (Y4.out.later q6); have X6 := hid (T4.out.later q6); have NP6 := hid (hz.later b6); clear ez hz hb5 b6 q6)
       | (go_at_call 10; refine (AC2.out a2 c2 L2 w3 Y3.out).mono ?_; rintro _ w4 ⟨a4, c4, L4, rfl, t4, hb4⟩; have T4 := hid t4; have K4 := hid (K3.out.trans (hb4.mono K3.out.size)); have V4 := hid (V3.out.trans (hb4.mono V3.out.size)); have Y4 := hid (T3.out.later hb4); clear t4 hb4 u0 u1))
     go_ret
     exact ⟨by first | rfl | simp, K8.out⟩
   · have hgb : (cg != 0) = true := by simp [hg]
     clear ST XR0 XR1 NO
     go_wp2_with (go_at_call 12; refine (LC.out _).mono ?_; rintro _ w7 ⟨rfl, hb7⟩; have K7 := hid (K3.out.trans (hb7.mono K3.out.size)); clear hb7)
     go_ret
     exact ⟨by first | rfl | simp, K7.out⟩
 · have heb : (ce != 0) = true := by simp [he]
   have heb2 : (ce == 0) = false := by simp [he]
   have hl0 : L2.length = 0 := by rw [Y3.out.len]; rw [NO.out he]; rfl
   clear ST XR0 XR1 NO
   go_wp2_with (go_at_call 12; refine (LC.out _).mono ?_; rintro _ w7 ⟨rfl, hb7⟩; have K7 := hid (K3.out.trans (hb7.mono K3.out.size)); clear hb7)
   go_ret
   exact ⟨by first | rfl | simp, K7.out⟩
/-! ### The row of TreeStores -/
theorem treeStores_own : ownKnob Tryz.prog.godebug = none := by kernel_rfl
theorem treeStores_laidOut : laidOutB Tryz.prog = true := by kernel_rfl
set_option maxRecDepth 100000 in
theorem treeStores_lifted (os : Os) (started : os.Started) (H : Type) (enc : TypeId × Value → H) :
   ReturnsInHanded {} Tryz.checked os 8 .any (Rows.treeStoresSpec.pre6 enc Tryz.prog Tryz.f8 Rows.treeStoresRow.domain false) (Rows.treeStoresSpec.post enc Tryz.prog Tryz.f8 false true false false) := by
 refine returnsInHanded_of_change (C := Tryz.checked) treeStores_own started (by kernel_rfl) Tryz.func8
   (ChangeSpec.witness6 (enc := enc) (C := Tryz.checked) false ⟨#[], #[.slice none 0 0, .int .u32 0, .agg #[.string ByteArray.empty, .string ByteArray.empty]], []⟩ 8 (by kernel_rfl) (by kernel_rfl) (by kernel_rfl) (by kernel_rfl)) ?_
 intro W base args ds gs before hval0 hW hcnd _
 have hval : ∀ (j : Nat) t v, Tryz.f8.params[j]? = some t → args[j]? = some v → Value.okWide Tryz.prog W .any base t v := hval0
 have hW' := hW
 obtain ⟨p, q, hA0, hV, rfl, hfz, hnd⟩ := hW
 have hA : DataW.TrodAll enc Tryz.prog W 0 (fun _ => true) true Tryz.f8.params.toList args.toList ds p := hA0
 rw [Tryz.params8] at hA hval
 obtain ⟨v0, vs0, d0, ds0, p0, q0, hargs, rfl, rfl, h0, r0⟩ := trodAll_cons hA
 obtain ⟨v1, vs1, d1, ds1, p1, q1, rfl, rfl, rfl, h1, r1⟩ := trodAll_cons r0
 obtain ⟨v2, vs2, d2, ds2, p2, q2, rfl, rfl, rfl, h2, r2⟩ := trodAll_cons r1
 obtain ⟨rfl, rfl, rfl⟩ := trodAll_nil r2
 obtain rfl : args = #[v0, v1, v2] := by cases args; simp_all
 obtain ⟨rfl, rfl⟩ := trodVars_none hV
 have k0 := h0
 have lt0 : ∀ x ∈ p0, x.block < W.heap.size := by obtain ⟨m, hm⟩ := k0; exact DataW.trod_lt m _ _ _ hm
 obtain ⟨a0, len0, cap0, rfl⟩ := okWide_slice Tryz.underlying41 (hval 0 41 v0 rfl rfl)
 obtain ⟨z0, lz0, w0, lc0⟩ := isOs_of Tryz.underlying41 h0
 obtain ⟨a1, rfl, rfl, rfl, w1⟩ := open_int Tryz.underlying25 (hval 1 25 v1 rfl rfl) h1
 have k2 := h2
 have lt2 : ∀ x ∈ p2, x.block < W.heap.size := by obtain ⟨m, hm⟩ := k2; exact DataW.trod_lt m _ _ _ hm
 obtain ⟨x2, y2, rfl, wx2, wy2⟩ := open_pairT Tryz.underlying53 Tryz.underlying9 (by kernel_rfl) (by kernel_rfl) (hval 2 53 v2 rfl rfl) h2
 clear hA0 hval0
 refine (treeStores_walk a0 len0 cap0 z0 lz0 lc0 a1 w1 x2 y2 wx2 wy2 W w0).mono fun e W' ⟨he, bel⟩ => ?_
 subst he
 exact ⟨_, rfl, _, _, _, [], _, [], hW', trodAll_mk1 (shut_bool Tryz.underlying4 _), (trodAll_cons_mk (Below.trod treeStores_laidOut (by kernel_rfl) (of_decide_eq_true (by kernel_rfl)) k0 bel lt0) (trodAll_cons_mk (shut_int Tryz.underlying25 w1) (trodAll_cons_mk (Below.trod treeStores_laidOut (by kernel_rfl) (of_decide_eq_true (by kernel_rfl)) k2 bel lt2) trodAll_mk0))), rfl, bel.frame _, fun h => by cases h⟩
theorem treeStores_over : Rows.treeStoresRow.holds Tryz.pinned (OpenSpec.ofChange Rows.treeStoresSpec) :=
 OpenClaim.holds_of_wide 8 Tryz.f8 rfl rfl rfl rfl rfl rfl rfl ⟨rfl, rfl, rfl, rfl, rfl⟩ rfl rfl rfl rfl rfl (by kernel_rfl) Tryz.func8 (by kernel_rfl)
   (of_decide_eq_true (by kernel_rfl)) (by unfold Func.isWrapper; first | (rw [if_pos (by decide +kernel)]; kernel_rfl) | (rw [if_neg (by decide +kernel)]; exact ⟨rfl, rfl⟩))
   (fun os started H enc _ => treeStores_lifted os started H enc)
theorem treeStores_holds : Rows.TreeStoresSaid := treeStores_over
#print axioms treeStores_holds
end Go.Proofs.YtloojakcknnilaaGreat
