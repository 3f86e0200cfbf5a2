/-
  For every two numbers: a file that was made, written and removed leaves no record, whatever stands between.
-/
import Derived.Test.YtihgiemgcmpmmaaGreatShBz
namespace Go.Proofs.YtihgiemgcmpmmaaGreat
open Go.RowKit Go.ChangeShapes Go.WideShapes Go.ChangeAt Go.Maps Go.Shelf
set_option linter.unusedVariables false
set_option linter.unusedSimpArgs false
set_option maxRecDepth 20000 in
set_option maxHeartbeats 8000000 in
theorem topCancels_walk (d0 : Int) (w0 : (Lit.int .u8 d0).wf = true) (t0 : Int) (w1 : (Lit.int .u8 t0).wf = true) (w : World) :
   Calls Tryz.prog 4 #[.int .u8 d0, .int .u8 t0] w fun e w' => e = .returned (.bool true) ∧ Below w.heap.size w w' := by
 obtain ⟨i0, hi, hz0, hz1, hz2⟩ := info_rec
 have hd : 0 ≤ d0 ∧ d0 < 256 := by simp [Lit.wf, IntKind.min, IntKind.max, IntKind.signed, IntKind.bits] at w0; omega
 have ht : 0 ≤ t0 ∧ t0 < 256 := by simp [Lit.wf, IntKind.min, IntKind.max, IntKind.signed, IntKind.bits] at w1; omega
 clear w0 w1
 obtain ⟨A, hA⟩ : ∃ A : Nat, (A : Int) = d0 % 6 := ⟨(d0 % 6).toNat, by omega⟩
 obtain ⟨B, hB⟩ : ∃ B : Nat, (B : Int) = t0 % 6 := ⟨(t0 % 6).toNat, by omega⟩
 have A6 : A < 6 := by omega
 have B6 : B < 6 := by omega
 have EA := hid hA
 have EB := hid hB
 clear hA hB
 have O1 := hid (own_oneR w caC)
 have B1 := hid (below_1 w (.cells caC.cells.toArray 37))
 go_enter Tryz.func4, Tryz.ntmps4
 go_wp2
 go_loopg [5, 6] A (fun gk v5 v6 wr => ∃ m : Nat, m + gk = A ∧ v6 = .int .i64 m ∧ Hid (wr.ownsRow w.heap.size 37 9 v5 (caW m).length (rcells (caW m))) ∧ Hid (Below w.heap.size w wr))
 case atStart => exact ⟨0, by omega, rfl, O1, B1⟩
 case round =>
   clear O1 B1
   obtain ⟨m, hm, rfl, OE, HB⟩ := hrel
   obtain ⟨va, vc, rfl⟩ := own_shapeR OE.out
   by_cases hlt : m < A
   · have hltI : (m : Int) < d0 % 6 := by have := EA.out; omega
     have hl := caW_len m
     have b3 : Below wr.heap.size wr (wr.alloc (.cells #[.int .u8 (m : Int)] 5)) := (Below.refl _ _).alloc (Nat.le_refl _) _
     have hcv := conv_byte wr _ rfl (m : Int)
     have O3 := own_latR OE.out b3
     have B3 := HB.out.trans (b3.mono HB.out.size)
     have b4 : Below (wr.alloc (.cells #[.int .u8 (m : Int)] 5)).heap.size (wr.alloc (.cells #[.int .u8 (m : Int)] 5)) ((wr.alloc (.cells #[.int .u8 (m : Int)] 5)).alloc (.cells ((caS m).cells ++ (caH m).cells).toArray 37)) := (Below.refl _ _).alloc (Nat.le_refl _) _
     have O4 := hid (own_latR O3 b4)
     have C4 := hid (B3.trans (b4.mono B3.size))
     have N4 := hid (heap_alloc_new (wr.alloc (.cells #[.int .u8 (m : Int)] 5)) (.cells ((caS m).cells ++ (caH m).cells).toArray 37))
     have Z3 : (wr.alloc (.cells #[.int .u8 (m : Int)] 5)).heap.size = wr.heap.size + 1 := by simp
     rw [Z3] at N4
     clear b3 b4 O3 B3 Z3 OE HB
     go_upto_region 4 with (at_builtin; refine wpList_append_own _ rfl _ _ 25 rfl w.heap.size 37 i0 Rec.no.val 9 88 Tryz.underlying25 hi hz0 hz1 hz2 (by rfl) (by decide) _ _ _ rfl O4.out ⟨wr.heap.size + 1, 0, none⟩ 2 2 ((caS m).cells ++ (caH m).cells) rfl rfl (cells_news N4.out) (rec_two _ _) (by unfold maxLen; omega) (by omega) C4.out.size ?_; intro v9 w9 hown9 hgrow9 hnil9)
     have HB9 := hid (below_grownR C4.out O4.out (Nat.le_refl _) C4.out.size hgrow9)
     have HO9 : Hid (w9.ownsRow w.heap.size 37 9 v9 (caW (m + 1)).length (rcells (caW (m + 1)))) := hid (by
       unfold caW
       rw [rcells_two]
       simp only [List.length_append, List.length_cons, List.length_nil]
       exact hown9)
     obtain ⟨a9, c9, rfl⟩ := own_shapeR HO9.out
     clear hown9 hgrow9 hnil9
     go_wp2
     go_roundg (gk - 1)
     case measure => omega
     case rel => exact ⟨m + 1, by omega, by go_num, HO9, HB9⟩
   · have hge : ¬ (m : Int) < d0 % 6 := by have := EA.out; omega
     obtain rfl : m = A := by omega
     go_wp2
     go_loopg [5, 7] B (fun gk v5 v6 wr => ∃ k : Nat, k + gk = B ∧ v6 = .int .i64 k ∧ Hid (wr.ownsRow w.heap.size 37 9 v5 (caO m k).length (rcells (caO m k))) ∧ Hid (Below w.heap.size w wr))
     case atStart => exact ⟨0, by omega, rfl, OE, HB⟩
     case round =>
       clear OE HB
       rename_i hrel'
       obtain ⟨k, hk, rfl, OE, HB⟩ := hrel
       obtain ⟨va, vc, rfl⟩ := own_shapeR OE.out
       have hl := caO_len m k
       by_cases hlt : k < B
       · have hltI : (k : Int) < t0 % 6 := by have := EB.out; omega
         have b3 : Below wr.heap.size wr (wr.alloc (.cells #[.int .u8 (109 + (k : Int))] 5)) := (Below.refl _ _).alloc (Nat.le_refl _) _
         have hcv := conv_byte wr _ rfl (109 + (k : Int))
         have O3 := own_latR OE.out b3
         have B3 := HB.out.trans (b3.mono HB.out.size)
         have b4 : Below (wr.alloc (.cells #[.int .u8 (109 + (k : Int))] 5)).heap.size (wr.alloc (.cells #[.int .u8 (109 + (k : Int))] 5)) ((wr.alloc (.cells #[.int .u8 (109 + (k : Int))] 5)).alloc (.cells (caM k).cells.toArray 37)) := (Below.refl _ _).alloc (Nat.le_refl _) _
         have O4 := hid (own_latR O3 b4)
         have C4 := hid (B3.trans (b4.mono B3.size))
         have N4 := hid (heap_alloc_new (wr.alloc (.cells #[.int .u8 (109 + (k : Int))] 5)) (.cells (caM k).cells.toArray 37))
         have Z3 : (wr.alloc (.cells #[.int .u8 (109 + (k : Int))] 5)).heap.size = wr.heap.size + 1 := by simp
         rw [Z3] at N4
         clear b3 b4 O3 B3 Z3 OE HB
         go_upto_region 8 with (at_builtin; refine wpList_append_own _ rfl _ _ 25 rfl w.heap.size 37 i0 Rec.no.val 9 88 Tryz.underlying25 hi hz0 hz1 hz2 (by rfl) (by decide) _ _ _ rfl O4.out ⟨wr.heap.size + 1, 0, none⟩ 1 1 (caM k).cells rfl rfl (rec_news N4.out) (rec_one _) (by unfold maxLen; omega) (by omega) C4.out.size ?_; intro v9 w9 hown9 hgrow9 hnil9)
         have HB9 := hid (below_grownR C4.out O4.out (Nat.le_refl _) C4.out.size hgrow9)
         have HO9 : Hid (w9.ownsRow w.heap.size 37 9 v9 (caO m (k + 1)).length (rcells (caO m (k + 1)))) := hid (by
           unfold caO
           rw [rcells_snoc]
           simp only [List.length_append, List.length_cons, List.length_nil]
           exact hown9)
         obtain ⟨a9, c9, rfl⟩ := own_shapeR HO9.out
         clear hown9 hgrow9 hnil9
         go_wp2
         go_roundg (gk - 1)
         case measure => omega
         case rel => exact ⟨k + 1, by omega, by go_num, HO9, HB9⟩
       · have hge : ¬ (k : Int) < t0 % 6 := by have := EB.out; omega
         obtain rfl : k = B := by omega
         have b4 : Below wr.heap.size wr (wr.alloc (.cells caU.cells.toArray 37)) := (Below.refl _ _).alloc (Nat.le_refl _) _
         have O4 := hid (own_latR OE.out b4)
         have C4 := hid (HB.out.trans (b4.mono HB.out.size))
         have N4 := hid (heap_alloc_new wr (.cells caU.cells.toArray 37))
         clear b4 OE HB
         go_upto_region 11 with (at_builtin; refine wpList_append_own _ rfl _ _ 25 rfl w.heap.size 37 i0 Rec.no.val 9 88 Tryz.underlying25 hi hz0 hz1 hz2 (by rfl) (by decide) _ _ _ rfl O4.out ⟨wr.heap.size, 0, none⟩ 1 1 caU.cells rfl rfl (rec_news N4.out) (rec_one _) (by unfold maxLen; omega) (by omega) C4.out.size ?_; intro v9 w9 hown9 hgrow9 hnil9)
         have B0 := hid (below_grownR C4.out O4.out (Nat.le_refl _) C4.out.size hgrow9)
         have HO9 : w9.ownsRow w.heap.size 37 9 v9 (caL m k).length (rcells (caL m k)) := by
           unfold caL
           rw [rcells_snoc]
           simp only [List.length_append, List.length_cons, List.length_nil]
           exact hown9
         have hLl : (caL m k).length ≤ 100 := by unfold caL; rw [List.length_append, hl]; simp only [List.length_cons, List.length_nil]; omega
         obtain ⟨a9, c9, rfl, i9, _, _⟩ := isL_own HO9 (caL_wf (by omega) (by omega))
         have PC := hid (optimise_c a9 c9 (caL m k) w9 i9 (by omega))
         rw [ca_opt m k (by omega) (by omega)] at PC
         have hSl := caT_len k
         have HSW := hid (caT_wf (b := k) (by omega))
         have RC : Hid (∀ (a : Option Addr) (c : Nat) (W : World), IsL W a (caT k) → Calls Tryz.prog 7 #[.slice a (caT k).length c] W fun e w' => (∃ v, e = .returned (.tuple #[v, .int .i64 0]) ∧ w'.ownsRow W.heap.size 5 1 v (recsA (caT k)).length ((recsA (caT k)).map u8V)) ∧ Below W.heap.size W w') := hid (fun a c W h => by have := records_c a c (caT k) W h (by omega); rw [ca_ok k (by omega)] at this; simp only [if_true] at this; exact this)
         have ZI := hid (recsA_in (caT k))
         have ZP : (0 : Int) < ((recsA (caT k)).length : Int) := by have := recsA_pos (caT k); omega
         have OC := hid (fun (a : Option Addr) (c : Nat) (W : World) (h : IsL W a (caT k)) => ops_c a c (caT k) W h (by omega))
         obtain ⟨Tn, hTn⟩ : ∃ Tn, Tn = (FoldL newL (caT k)).1 := ⟨_, rfl⟩
         have hTl : Tn.length = k + 1 := by rw [hTn]; exact ca_tree k (by omega)
         have hFo : FoldL newL (caT k) = (Tn, List.replicate k 0) := Prod.ext hTn.symm (ca_errs k (by omega))
         have FC : Hid (∀ (a : Option Addr) (ca : Nat) (b : Option Addr) (cb : Nat) (W : World), Tr W a newL → IsOs W b (caT k) → Calls Tryz.prog 10 #[.slice a 1 ca, .slice b (caT k).length cb] W (FoP W (Tn, List.replicate k 0))) := hid (fun a ca b cb W hT hO => by have := tFold_c a b ca cb newL (caT k) W hT hO (by decide) (by omega); rw [newEr, hFo] at this; exact this)
         have HTO := hid (fun (i : Nat) (hi : i < k) => ca_tou i (by omega))
         have HAT := hid (fun (i : Nat) (hi : i < k) => caT_at k hi)
         clear hFo hTn HO9 i9 hown9 hgrow9 hnil9 O4 C4 N4 hl
         have hSl9 := hid hSl
         clear hSl
         generalize caL m k = LL at *
         generalize recsA (caT k) = zs at *
         generalize caT k = S at *
         go_upto_region 12 with (go_at_call 8; refine PC.out.mono ?_; rintro _ w2 ⟨v2, rfl, hO2, hb2⟩; obtain ⟨a2, c2, rfl, i2, _, _⟩ := isL_own hO2 HSW.out; have K2 := hid (B0.out.trans (hb2.mono B0.out.size)); have I2 := hid i2; have CV := hid (RC.out a2 c2 w2 i2); clear hO2 i2 hb2 PC)
         go_upto_region 13 with (go_at_call 7; refine CV.out.mono ?_; rintro _ w3 ⟨⟨v3, rfl, hO3⟩, hb3⟩; obtain ⟨az, cz, rfl, _, _, _⟩ := isB_ownR hO3 ZI.out; have K3 := hid (K2.out.trans (hb3.mono K2.out.size)); have I3 := hid (I2.out.later hb3); clear hO3 hb3 CV)
         go_upto_region 14 with (first
           | (go_at_call 10; refine FV.out.mono ?_; intro e6 w6 h6; obtain ⟨a6, c6, Y, b6, d6, rfl, tY, eY, zY, hb6⟩ := h6; have EY := hid eY; have ZY := hid zY; have K6 := hid (K5.out.trans (hb6.mono K5.out.size)); have I6 := hid (I5.out.later hb6); clear tY eY zY hb6 FV)
           | (go_at_call 11; refine (OC.out a2 c2 w4 I4.out).mono ?_; intro e5 w5 h5; obtain ⟨v5, rfl, hO5, hb5⟩ := h5; obtain ⟨a5, c5, rfl, i5⟩ := isOs_own hO5 HSW.out; have K5 := hid (K4.out.trans (hb5.mono K4.out.size)); have I5 := hid (I4.out.later hb5); have FV := hid (FC.out a4 c4 a5 c5 w5 (T4.out.later hb5) i5); clear hO5 i5 hb5)
           | (go_at_call 5; refine (tNew_c w3).mono ?_; rintro _ w4 ⟨a4, c4, rfl, ht4, hb4⟩; have T4 := hid ht4; have K4 := hid (K3.out.trans (hb4.mono K3.out.size)); have I4 := hid (I3.out.later hb4); clear ht4 hb4))
         go_wp2
         have hYl : Hid (Y.length = k + 1) := hid (by have := congrArg List.length EY.out; rw [List.length_map] at this; (try simp only at this); omega)
         have hSm : Hid (∀ j, j < k → j < S.length) := hid (fun j h => by have := hSl9.out; omega)
         go_loopg [13] k (fun gk v wr2 => ∃ j : Nat, j + gk = k ∧ v = .int .i64 j ∧ Hid (Below w6.heap.size w6 wr2))
         case atStart => exact ⟨0, by omega, rfl, hid (Below.refl _ _)⟩
         case round =>
           rename_i hrel2
           obtain ⟨j, hj, rfl, HJ⟩ := hrel
           by_cases hlj : j < k
           · have hlS := hSm.out j hlj
             have hljI : (j : Int) < (S.length : Int) := by omega
             obtain ⟨b', off, rfl, hc0⟩ := I6.out.2.2 (by omega)
             have hc := (hc0 j hlS).later HJ.out
             rw [HAT.out j hlj] at hc
             clear hc0
             have TC := hid (touches_c (caM j) 5 wr)
             rw [HTO.out j hlj] at TC
             obtain ⟨g, off2, rfl, hz⟩ := es_zero ZY.out (by omega)
             have z0 := cell_later HJ.out (hz j hlj)
             clear hz
             generalize caM j = x at *
             have k0 : wr.cell? ⟨b', off + j * 9, none⟩ = some (.int .u8 x.k) := hc 0 _ rfl
             have k1 : wr.cell? ⟨b', off + j * 9 + 1, none⟩ = some (.int .u32 x.fid) := hc 1 _ rfl
             have k2 : wr.cell? ⟨b', off + j * 9 + 2, none⟩ = some (.int .u32 x.dir) := hc 2 _ rfl
             have k3 : wr.cell? ⟨b', off + j * 9 + 3, none⟩ = some (.string x.nm) := hc 3 _ rfl
             have k4 : wr.cell? ⟨b', off + j * 9 + 4, none⟩ = some (.int .u32 x.to) := hc 4 _ rfl
             have k5 : wr.cell? ⟨b', off + j * 9 + 5, none⟩ = some (.string x.nm2) := hc 5 _ rfl
             have k6 : wr.cell? ⟨b', off + j * 9 + 6, none⟩ = some (.int .u16 x.md) := hc 6 _ rfl
             have k7 : wr.cell? ⟨b', off + j * 9 + 7, none⟩ = some (.string x.dt) := hc 7 _ rfl
             have k8 : wr.cell? ⟨b', off + j * 9 + 8, none⟩ = some (.int .u64 x.sn) := hc 8 _ rfl
             clear hc
             simp only [Rec.val] at TC
             go_wp2_with (go_at_call 13; refine TC.out.mono ?_; rintro _ w7 ⟨rfl, hb7⟩; have z1 := cell_later hb7 z0; have B7 := hid (HJ.out.trans (hb7.mono HJ.out.size)); clear hb7)
             go_roundg (gk - 1)
             case measure => omega
             case rel => exact ⟨j + 1, by omega, by go_num, B7⟩
           · have hgj : ¬ (j : Int) < (S.length : Int) := by have := hSl9.out; omega
             have e1 : ((S.length : Int) == t0 % 6) = true := by have := EB.out; have := hSl9.out; rw [beq_iff_eq]; omega
             have e2 : ((Y.length : Int) == t0 % 6 + 1) = true := by have := EB.out; have := hYl.out; rw [beq_iff_eq]; omega
             go_wp2
             go_ret
             exact ⟨by first | rfl | simp, K6.out.trans (HJ.out.mono K6.out.size)⟩
/-! ### The row of TopCancels -/
theorem topCancels_own : ownKnob Tryz.prog.godebug = none := by kernel_rfl
theorem topCancels_laidOut : laidOutB Tryz.prog = true := by kernel_rfl
set_option maxRecDepth 100000 in
theorem topCancels_lifted (os : Os) (started : os.Started) (H : Type) (enc : TypeId × Value → H) :
   ReturnsInHanded {} Tryz.checked os 4 .any (Rows.topCancelsSpec.pre6 enc Tryz.prog Tryz.f4 Rows.topCancelsRow.domain false) (Rows.topCancelsSpec.post enc Tryz.prog Tryz.f4 false true false false) := by
 refine returnsInHanded_of_change (C := Tryz.checked) topCancels_own started (by kernel_rfl) Tryz.func4
   (ChangeSpec.witness6 (enc := enc) (C := Tryz.checked) false ⟨#[], #[.int .u8 0, .int .u8 0], []⟩ 8 (by kernel_rfl) (by kernel_rfl) (by kernel_rfl) (by kernel_rfl)) ?_
 intro W base args ds gs before hval0 hW hcnd _
 have hval : ∀ (j : Nat) t v, Tryz.f4.params[j]? = some t → args[j]? = some v → Value.okWide Tryz.prog W .any base t v := hval0
 have hW' := hW
 obtain ⟨p, q, hA0, hV, rfl, hfz, hnd⟩ := hW
 have hA : DataW.TrodAll enc Tryz.prog W 0 (fun _ => true) true Tryz.f4.params.toList args.toList ds p := hA0
 rw [Tryz.params4] at hA hval
 obtain ⟨v0, vs0, d0, ds0, p0, q0, hargs, rfl, rfl, h0, r0⟩ := trodAll_cons hA
 obtain ⟨v1, vs1, d1, ds1, p1, q1, rfl, rfl, rfl, h1, r1⟩ := trodAll_cons r0
 obtain ⟨rfl, rfl, rfl⟩ := trodAll_nil r1
 obtain rfl : args = #[v0, v1] := by cases args; simp_all
 obtain ⟨rfl, rfl⟩ := trodVars_none hV
 obtain ⟨a0, rfl, rfl, rfl, w0⟩ := open_int Tryz.underlying5 (hval 0 5 v0 rfl rfl) h0
 obtain ⟨a1, rfl, rfl, rfl, w1⟩ := open_int Tryz.underlying5 (hval 1 5 v1 rfl rfl) h1
 clear hA0 hval0
 refine (topCancels_walk a0 w0 a1 w1 W).mono fun e W' ⟨he, bel⟩ => ?_
 subst he
 exact ⟨_, rfl, _, _, _, [], _, [], hW', trodAll_mk1 (shut_bool Tryz.underlying4 _), (trodAll_cons_mk (shut_int Tryz.underlying5 w0) (trodAll_cons_mk (shut_int Tryz.underlying5 w1) trodAll_mk0)), rfl, bel.frame _, fun h => by cases h⟩
theorem topCancels_over : Rows.topCancelsRow.holds Tryz.pinned (OpenSpec.ofChange Rows.topCancelsSpec) :=
 OpenClaim.holds_of_wide 4 Tryz.f4 rfl rfl rfl rfl rfl rfl rfl ⟨rfl, rfl, rfl, rfl, rfl⟩ rfl rfl rfl rfl rfl (by kernel_rfl) Tryz.func4 (by kernel_rfl)
   (of_decide_eq_true (by kernel_rfl)) (by unfold Func.isWrapper; first | (rw [if_pos (by decide +kernel)]; kernel_rfl) | (rw [if_neg (by decide +kernel)]; exact ⟨rfl, rfl⟩))
   (fun os started H enc _ => topCancels_lifted os started H enc)
theorem topCancels_holds : Rows.TopCancelsSaid := topCancels_over
#print axioms topCancels_holds
end Go.Proofs.YtihgiemgcmpmmaaGreat
