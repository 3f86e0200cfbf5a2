/-
  A store of what another client has changed meanwhile is refused, and kept aside; one of what nobody changed is done.
-/
import Derived.Test.YtpolbbdaippclaaGreatNsCa
namespace Go.Proofs.YtpolbbdaippclaaGreat
open Go.ChangeShapes Go.WideShapes Go.ChangeAt Go.RowKit Go.Maps
open Go.ChangeMaps (open_string shut_string)
set_option linter.unusedVariables false
set_option linter.unusedSimpArgs false
set_option maxRecDepth 100000
theorem tx_bs (s : ByteArray) : Fr.tx (txB s) = s := Fr.tx_bs s
set_option maxHeartbeats 8000000 in
theorem stale_in (a b : ByteArray) (ha : a.size ≤ 64) (hb : b.size ≤ 64) (ch : Bool) (w : World) :
   Calls Tryz.prog 3 #[.string a, .string b, .bool ch] w fun e w' => e = .returned (.bool true) ∧ Below w.heap.size w w' := by
 have l1 : ¬ (64 : Int) < (a.size : Int) := by omega
 have l2 : ¬ (64 : Int) < (b.size : Int) := by omega
 have NC0 := new_c 300 w (by omega) (by omega)
 have NC := hid (show Calls Tryz.prog 8 #[.int .i64 300] w _ from NC0)
 clear NC0
 go_enter Tryz.func3, Tryz.ntmps3
 go_upto_region 4 with (first
   | (go_at_call 7; refine OC.out.mono ?_; rintro _ w2 ⟨p, rfl, hsv, hb2⟩; have SV := hid hsv.g; have B2 := hid (B1.out.trans (hb2.mono B1.out.size)); clear hsv hb2)
   | (go_at_call 8; refine NC.out.mono ?_; rintro _ w1 ⟨rfl, hd1, hb1, hz1⟩; have OC := hid (sopenI_c hd1 (by omega)); have B1 := hid hb1; clear hd1 hb1 hz1))
 clear l1 l2
 have BZ := hid B1.out.size
 generalize w1.heap.size = base at *
 have b3 := below_1 w2 (.cells #[.int .u8 1, .int .u32 16777217, .int .u32 1, .string ⟨#[102]⟩, .int .u32 0, .string ⟨#[]⟩, .int .u16 0, .string ⟨#[]⟩, .int .u64 0] 39)
 have g3 := heap_alloc_new w2 (.cells #[.int .u8 1, .int .u32 16777217, .int .u32 1, .string ⟨#[102]⟩, .int .u32 0, .string ⟨#[]⟩, .int .u16 0, .string ⟨#[]⟩, .int .u64 0] 39)
 have S1 := hid (shipC_c (SV.out.later b3) w2.heap.size 1 g3 (by decide))
 have B3 := hid (B2.out.trans (b3.mono B2.out.size))
 clear b3 g3
 go_upto_region 5 with (go_at_call 9; refine S1.out.mono ?_; rintro _ w4 ⟨v4, rfl, ho4, hs4, hk4, hb4⟩; obtain ⟨g4, c4, rfl, hg4, hc4⟩ := ho4.one; have SG4 := hid hs4; have B4 := hid (B3.out.trans (hb4.mono BZ.out)); clear ho4 hs4 hk4 hb4 hg4 hc4)
 clear S1 SV
 have SS := hid (snapZ_c SG4.out)
 go_upto_region 6 with (go_at_call 10; refine SS.out.mono ?_; rintro _ w5 ⟨g5, c5, h5, d5, L5, rfl, hn5, he5, hv5, hp5, hb5⟩; have fs := field_snapV (some ⟨g5, 0, none⟩) 2 c5 (some ⟨h5, 0, none⟩) 2 d5; have SG5 := hid (SG4.out.later hb5); have B5 := hid (B4.out.trans (hb5.mono B4.out.size)); have V5 := hid hv5; have HP5 := hid hp5; clear hn5 he5 hv5 hp5 hb5)
 clear fs SS SG4
 go_upto_region 8 with fail
 have v5 := V5.out
 cases ch
 · skip
   have SG7 := SG5
   have B7 := B5
   have v7 := v5
   clear v5
   obtain ⟨w7, hw7⟩ : ∃ w7, w7 = w5 := ⟨_, rfl⟩
   rw [← hw7] at SG7 B7 v7
   rw [← hw7]
   clear hw7
   have HPW : Hid (p < w7.heap.size) := hid (by obtain ⟨_, _, _, _, _, _, _, _, _, _, _, hr, _⟩ := SG7.out; exact lt_blkR hr)
   go_upto_region 11 with fail
   have b8 := below_1 w7 (.cells #[.int .u8 8, .int .u32 16777217, .int .u32 0, .string ⟨#[]⟩, .int .u32 0, .string ⟨#[]⟩, .int .u16 0, .string b, .int .u64 2] 39)
   have g8 := hid (heap_alloc_new w7 (.cells #[.int .u8 8, .int .u32 16777217, .int .u32 0, .string ⟨#[]⟩, .int .u32 0, .string ⟨#[]⟩, .int .u16 0, .string b, .int .u64 2] 39))
   have SG8 := hid (SG7.out.later b8)
   have B8 := hid (B7.out.trans (b8.mono B7.out.size))
   clear b8 v7 SG7
   generalize (w7.alloc (.cells #[.int .u8 8, .int .u32 16777217, .int .u32 0, .string ⟨#[]⟩, .int .u32 0, .string ⟨#[]⟩, .int .u16 0, .string b, .int .u64 2] 39)) = V8 at *
   have y0 : V8.cell? ⟨w7.heap.size, 0, none⟩ = some (.int .u8 8) := cell_of_row2 g8.out 0 rfl
   have y1 : V8.cell? ⟨w7.heap.size, 1, none⟩ = some (.int .u32 16777217) := cell_of_row2 g8.out 1 rfl
   have y2 : V8.cell? ⟨w7.heap.size, 2, none⟩ = some (.int .u32 0) := cell_of_row2 g8.out 2 rfl
   have y3 : V8.cell? ⟨w7.heap.size, 3, none⟩ = some (.string ⟨#[]⟩) := cell_of_row2 g8.out 3 rfl
   have y4 : V8.cell? ⟨w7.heap.size, 4, none⟩ = some (.int .u32 0) := cell_of_row2 g8.out 4 rfl
   have y5 : V8.cell? ⟨w7.heap.size, 5, none⟩ = some (.string ⟨#[]⟩) := cell_of_row2 g8.out 5 rfl
   have y6 : V8.cell? ⟨w7.heap.size, 6, none⟩ = some (.int .u16 0) := cell_of_row2 g8.out 6 rfl
   have y7 : V8.cell? ⟨w7.heap.size, 7, none⟩ = some (.string b) := cell_of_row2 g8.out 7 rfl
   have y8 : V8.cell? ⟨w7.heap.size, 8, none⟩ = some (.int .u64 2) := cell_of_row2 g8.out 8 rfl
   have b9 := below_1 V8 (.cells #[.int .u8 8, .int .u32 16777217, .int .u32 0, .string ⟨#[]⟩, .int .u32 0, .string ⟨#[]⟩, .int .u16 0, .string b, .int .u64 2] 39)
   have g9 := heap_alloc_new V8 (.cells #[.int .u8 8, .int .u32 16777217, .int .u32 0, .string ⟨#[]⟩, .int .u32 0, .string ⟨#[]⟩, .int .u16 0, .string b, .int .u64 2] 39)
   have B9 := hid (B8.out.trans (b9.mono B8.out.size))
   have x9 := hid ((b9.block _ (lt_blkR g8.out)).trans g8.out)
   have SB := hid (shipA_c (SG8.out.later b9) V8.heap.size 1 b hb 2 1 0 (.inl ⟨rfl, rfl, rfl⟩) g9 (by decide))
   clear b9 g9
   go_upto_region 12 with (go_at_call 9; refine SB.out.mono ?_; rintro _ w10 ⟨v10, rfl, ho10, hs10, hk10, hb10⟩; obtain ⟨g10, c10, rfl, hg10, hc10⟩ := ho10.one; have SG10 := hid hs10; have B10 := hid (B9.out.trans (hb10.mono BZ.out)); have x10 := hid (hk10 _ _ _ _ (by have := HPW.out; omega) x9.out); have C10 := hid hc10; clear ho10 hs10 hk10 hb10 hc10 hg10)
   clear SB y0 y1 y2 y3 y4 y5 y6 y7 y8 SG8
   have SS2 := hid (snapZ_c SG10.out)
   go_upto_region 13 with (first
     | (go_at_call 11; refine GT.out.mono ?_; rintro _ w12 ⟨da, dc, ka, kc, rfl, hi12, hb12⟩; have I12 := hid hi12; have B12 := hid (B11.out.trans (hb12.mono B11.out.size)); have SG12 := hid (SG11.out.later hb12); have C12 := hid (cell_later hb12 C11.out); have x12 := hid ((hb12.block _ (lt_blkR x11.out)).trans x11.out); clear hi12 hb12)
     | (go_at_call 10; refine SS2.out.mono ?_; rintro _ w11 ⟨g11, c11, h11, d11, L11, rfl, hn11, he11, _, _, hb11⟩; have fs2 := field_snap (some ⟨g11, 0, none⟩) 2 c11 (some ⟨h11, 0, none⟩) 2 d11; have GT := hid (getZ_c (some ⟨g11, 0, none⟩) c11 L11 (txB b) w11 hn11 he11); have B11 := hid (B10.out.trans (hb11.mono B10.out.size)); have SG11 := hid (SG10.out.later hb11); have C11 := hid (cell_later hb11 C10.out); have x11 := hid ((hb11.block _ (lt_blkR x10.out)).trans x10.out); clear hn11 he11 hb11))
   clear SS2 GT fs2
   have b13 := below_1 w12 (.cells #[.int .u32 16777217, .int .u8 1, .int .u16 0, .int .u16 1, .slice da (txB b).length dc, .slice ka 0 kc] 52)
   have g13 := hid (heap_alloc_new w12 (.cells #[.int .u32 16777217, .int .u8 1, .int .u16 0, .int .u16 1, .slice da (txB b).length dc, .slice ka 0 kc] 52))
   have SG13 := hid (SG12.out.later b13)
   have B13 := hid (B12.out.trans (b13.mono B12.out.size))
   have C13 := hid (cell_later b13 C12.out)
   have x13 := hid ((b13.block _ (lt_blkR x12.out)).trans x12.out)
   have I13 := hid (I12.out.later b13)
   clear b13
   generalize (w12.alloc (.cells #[.int .u32 16777217, .int .u8 1, .int .u16 0, .int .u16 1, .slice da (txB b).length dc, .slice ka 0 kc] 52)) = V13 at *
   have RJ := hid (rejG_c SG13.out)
   go_upto_region 14 with (go_at_call 12; refine RJ.out.mono ?_; rintro _ w14 ⟨v14, rfl, ho14, hb14⟩; obtain rfl : v14 = .slice none 0 0 := (by rcases ho14 with ⟨_, q⟩ | ⟨_, q, _⟩ <;> first | exact q | cases q); have B14 := hid (B13.out.trans (hb14.mono B13.out.size)); have C14 := hid (cell_later hb14 C13.out); have g14 := hid ((hb14.block _ (lt_blkR g13.out)).trans g13.out); have I14 := hid (I13.out.later hb14); clear ho14 hb14)
   clear RJ
   have n4 : w14.cell? ⟨w12.heap.size, 4, none⟩ = some (.slice da (txB b).length dc) := cell_of_row2 g14.out 4 rfl
   have l0 : w14.cell? ⟨g10, 0, none⟩ = some (.int .i64 0) := C14.out
   have CVH := hid (fun (W : World) (hW : Below w14.heap.size w14 W) => (by
     have h := conv_anyN (pc := dc) (I14.out.later hW)
     rw [tx_bs] at h
     exact h : (convert 49 9 (.slice da (txB b).length dc)).run Tryz.prog W = .ok (.string b) W))
   generalize (txB b).length = ZL at *
   have N4 := hid n4
   have L0 := hid l0
   clear n4 l0
   go_wp2_with (go_at_call 6; refine (live12g_c w14).mono ?_; rintro _ w15 ⟨rfl, hb15⟩; have n4 := cell_later hb15 N4.out; have l0 := cell_later hb15 L0.out; have CV := CVH.out w15 hb15; have B15 := hid (B14.out.trans (hb15.mono B14.out.size)); clear hb15)
   go_ret
   exact ⟨by first | rfl | exact ret_bool (by simp), B15.out⟩
 · skip
   have b6 := below_1 w5 (.cells #[.int .u8 8, .int .u32 16777217, .int .u32 0, .string ⟨#[]⟩, .int .u32 0, .string ⟨#[]⟩, .int .u16 0, .string a, .int .u64 2] 39)
   have g6 := heap_alloc_new w5 (.cells #[.int .u8 8, .int .u32 16777217, .int .u32 0, .string ⟨#[]⟩, .int .u32 0, .string ⟨#[]⟩, .int .u16 0, .string a, .int .u64 2] 39)
   have SA := hid (shipA_c (SG5.out.later b6) w5.heap.size 1 a ha 3 0 1 (.inr ⟨rfl, rfl, rfl⟩) g6 (by decide))
   have BB6 := hid (B5.out.trans (b6.mono B5.out.size))
   have v6 := hid (cell_later b6 v5)
   clear b6 g6
   go_upto_region 10 with (go_at_call 9; refine SA.out.mono ?_; rintro _ w7 ⟨v7, rfl, ho7, hs7, hk7, hb7⟩; obtain ⟨g7, c7, rfl, hg7, hc7⟩ := ho7.one; have SG7 := hid hs7; have B7 := hid (BB6.out.trans (hb7.mono BZ.out)); have u7 := hid (hk7.cellK HP5.out v6.out); clear ho7 hs7 hk7 hb7 hc7 hg7)
   clear v5 SA
   have v7 := u7.out
   have HPW : Hid (p < w7.heap.size) := hid (by obtain ⟨_, _, _, _, _, _, _, _, _, _, _, hr, _⟩ := SG7.out; exact lt_blkR hr)
   go_upto_region 11 with fail
   have b8 := below_1 w7 (.cells #[.int .u8 8, .int .u32 16777217, .int .u32 0, .string ⟨#[]⟩, .int .u32 0, .string ⟨#[]⟩, .int .u16 0, .string b, .int .u64 2] 39)
   have g8 := hid (heap_alloc_new w7 (.cells #[.int .u8 8, .int .u32 16777217, .int .u32 0, .string ⟨#[]⟩, .int .u32 0, .string ⟨#[]⟩, .int .u16 0, .string b, .int .u64 2] 39))
   have SG8 := hid (SG7.out.later b8)
   have B8 := hid (B7.out.trans (b8.mono B7.out.size))
   clear b8 v7 SG7
   generalize (w7.alloc (.cells #[.int .u8 8, .int .u32 16777217, .int .u32 0, .string ⟨#[]⟩, .int .u32 0, .string ⟨#[]⟩, .int .u16 0, .string b, .int .u64 2] 39)) = V8 at *
   have y0 : V8.cell? ⟨w7.heap.size, 0, none⟩ = some (.int .u8 8) := cell_of_row2 g8.out 0 rfl
   have y1 : V8.cell? ⟨w7.heap.size, 1, none⟩ = some (.int .u32 16777217) := cell_of_row2 g8.out 1 rfl
   have y2 : V8.cell? ⟨w7.heap.size, 2, none⟩ = some (.int .u32 0) := cell_of_row2 g8.out 2 rfl
   have y3 : V8.cell? ⟨w7.heap.size, 3, none⟩ = some (.string ⟨#[]⟩) := cell_of_row2 g8.out 3 rfl
   have y4 : V8.cell? ⟨w7.heap.size, 4, none⟩ = some (.int .u32 0) := cell_of_row2 g8.out 4 rfl
   have y5 : V8.cell? ⟨w7.heap.size, 5, none⟩ = some (.string ⟨#[]⟩) := cell_of_row2 g8.out 5 rfl
   have y6 : V8.cell? ⟨w7.heap.size, 6, none⟩ = some (.int .u16 0) := cell_of_row2 g8.out 6 rfl
   have y7 : V8.cell? ⟨w7.heap.size, 7, none⟩ = some (.string b) := cell_of_row2 g8.out 7 rfl
   have y8 : V8.cell? ⟨w7.heap.size, 8, none⟩ = some (.int .u64 2) := cell_of_row2 g8.out 8 rfl
   have b9 := below_1 V8 (.cells #[.int .u8 8, .int .u32 16777217, .int .u32 0, .string ⟨#[]⟩, .int .u32 0, .string ⟨#[]⟩, .int .u16 0, .string b, .int .u64 2] 39)
   have g9 := heap_alloc_new V8 (.cells #[.int .u8 8, .int .u32 16777217, .int .u32 0, .string ⟨#[]⟩, .int .u32 0, .string ⟨#[]⟩, .int .u16 0, .string b, .int .u64 2] 39)
   have B9 := hid (B8.out.trans (b9.mono B8.out.size))
   have x9 := hid ((b9.block _ (lt_blkR g8.out)).trans g8.out)
   have SB := hid (shipB_c a ha (SG8.out.later b9) V8.heap.size 1 b hb g9 (by decide))
   clear b9 g9
   go_upto_region 12 with (go_at_call 9; refine SB.out.mono ?_; rintro _ w10 ⟨v10, rfl, ho10, hs10, hk10, hb10⟩; obtain ⟨g10, c10, rfl, hg10, hc10⟩ := ho10.one; have SG10 := hid hs10; have B10 := hid (B9.out.trans (hb10.mono BZ.out)); have x10 := hid (hk10 _ _ _ _ (by have := HPW.out; omega) x9.out); have C10 := hid hc10; clear ho10 hs10 hk10 hb10 hc10 hg10)
   clear SB y0 y1 y2 y3 y4 y5 y6 y7 y8 SG8
   have SS2 := hid (snapZ_c SG10.out)
   go_upto_region 13 with (first
     | (go_at_call 11; refine GT.out.mono ?_; rintro _ w12 ⟨da, dc, ka, kc, rfl, hi12, hb12⟩; have I12 := hid hi12; have B12 := hid (B11.out.trans (hb12.mono B11.out.size)); have SG12 := hid (SG11.out.later hb12); have C12 := hid (cell_later hb12 C11.out); have x12 := hid ((hb12.block _ (lt_blkR x11.out)).trans x11.out); clear hi12 hb12)
     | (go_at_call 10; refine SS2.out.mono ?_; rintro _ w11 ⟨g11, c11, h11, d11, L11, rfl, hn11, he11, _, _, hb11⟩; have fs2 := field_snap (some ⟨g11, 0, none⟩) 2 c11 (some ⟨h11, 0, none⟩) 2 d11; have GT := hid (getZ_c (some ⟨g11, 0, none⟩) c11 L11 (txB a) w11 hn11 he11); have B11 := hid (B10.out.trans (hb11.mono B10.out.size)); have SG11 := hid (SG10.out.later hb11); have C11 := hid (cell_later hb11 C10.out); have x11 := hid ((hb11.block _ (lt_blkR x10.out)).trans x10.out); clear hn11 he11 hb11))
   clear SS2 GT fs2
   have b13 := below_1 w12 (.cells #[.int .u32 16777217, .int .u8 1, .int .u16 0, .int .u16 1, .slice da (txB a).length dc, .slice ka 0 kc] 52)
   have g13 := hid (heap_alloc_new w12 (.cells #[.int .u32 16777217, .int .u8 1, .int .u16 0, .int .u16 1, .slice da (txB a).length dc, .slice ka 0 kc] 52))
   have SG13 := hid (SG12.out.later b13)
   have B13 := hid (B12.out.trans (b13.mono B12.out.size))
   have C13 := hid (cell_later b13 C12.out)
   have x13 := hid ((b13.block _ (lt_blkR x12.out)).trans x12.out)
   have I13 := hid (I12.out.later b13)
   clear b13
   generalize (w12.alloc (.cells #[.int .u32 16777217, .int .u8 1, .int .u16 0, .int .u16 1, .slice da (txB a).length dc, .slice ka 0 kc] 52)) = V13 at *
   have RJ := hid (rejG_c SG13.out)
   go_upto_region 14 with (go_at_call 12; refine RJ.out.mono ?_; rintro _ w14 ⟨v14, rfl, ho14, hb14⟩; obtain ⟨z14, hz14, ho15⟩ : ∃ z, [(⟨2, 1, 12, zS b 2⟩ : Vd)] = [z] ∧ OwV w14 V13.heap.size v14 z := (by rcases ho14 with ⟨q, _⟩ | q <;> first | exact q | cases q); cases hz14; obtain ⟨gr, cr, cur, rfl, _, _, hgr, hxr⟩ := ho15.one; have B14 := hid (B13.out.trans (hb14.mono B13.out.size)); have C14 := hid (cell_later hb14 C13.out); have x14 := hid ((hb14.block _ (lt_blkR x13.out)).trans x13.out); have g14 := hid ((hb14.block _ (lt_blkR g13.out)).trans g13.out); have I14 := hid (I13.out.later hb14); have GR := hid hgr; have XR := hid hxr; clear ho14 ho15 hb14 hgr hxr)
   clear RJ
   have r0 : w14.cell? ⟨gr, 0, none⟩ = some (.int .u8 2) := by rw [cell_of_row w14 gr 0 cur _ (0, 0) GR.out]; exact XR.out 0 _ rfl
   have r1 : w14.cell? ⟨gr, 1, none⟩ = some (.int .u32 1) := by rw [cell_of_row w14 gr 1 cur _ (0, 0) GR.out]; exact XR.out 1 _ rfl
   have r2 : w14.cell? ⟨gr, 2, none⟩ = some (.int .i64 12) := by rw [cell_of_row w14 gr 2 cur _ (0, 0) GR.out]; exact XR.out 2 _ rfl
   have r3 : w14.cell? ⟨gr, 3, none⟩ = some (.int .u8 8) := by rw [cell_of_row w14 gr 3 cur _ (0, 0) GR.out]; exact XR.out 3 _ rfl
   have r4 : w14.cell? ⟨gr, 4, none⟩ = some (.int .u32 16777217) := by rw [cell_of_row w14 gr 4 cur _ (0, 0) GR.out]; exact XR.out 4 _ rfl
   have r5 : w14.cell? ⟨gr, 5, none⟩ = some (.int .u32 0) := by rw [cell_of_row w14 gr 5 cur _ (0, 0) GR.out]; exact XR.out 5 _ rfl
   have r6 : w14.cell? ⟨gr, 6, none⟩ = some (.string ⟨#[]⟩) := by rw [cell_of_row w14 gr 6 cur _ (0, 0) GR.out]; exact XR.out 6 _ rfl
   have r7 : w14.cell? ⟨gr, 7, none⟩ = some (.int .u32 0) := by rw [cell_of_row w14 gr 7 cur _ (0, 0) GR.out]; exact XR.out 7 _ rfl
   have r8 : w14.cell? ⟨gr, 8, none⟩ = some (.string ⟨#[]⟩) := by rw [cell_of_row w14 gr 8 cur _ (0, 0) GR.out]; exact XR.out 8 _ rfl
   have r9 : w14.cell? ⟨gr, 9, none⟩ = some (.int .u16 0) := by rw [cell_of_row w14 gr 9 cur _ (0, 0) GR.out]; exact XR.out 9 _ rfl
   have r10 : w14.cell? ⟨gr, 10, none⟩ = some (.string b) := by rw [cell_of_row w14 gr 10 cur _ (0, 0) GR.out]; exact XR.out 10 _ rfl
   have r11 : w14.cell? ⟨gr, 11, none⟩ = some (.int .u64 2) := by rw [cell_of_row w14 gr 11 cur _ (0, 0) GR.out]; exact XR.out 11 _ rfl
   have y0 : w14.cell? ⟨w7.heap.size, 0, none⟩ = some (.int .u8 8) := cell_of_row2 x14.out 0 rfl
   have y1 : w14.cell? ⟨w7.heap.size, 1, none⟩ = some (.int .u32 16777217) := cell_of_row2 x14.out 1 rfl
   have y2 : w14.cell? ⟨w7.heap.size, 2, none⟩ = some (.int .u32 0) := cell_of_row2 x14.out 2 rfl
   have y3 : w14.cell? ⟨w7.heap.size, 3, none⟩ = some (.string ⟨#[]⟩) := cell_of_row2 x14.out 3 rfl
   have y4 : w14.cell? ⟨w7.heap.size, 4, none⟩ = some (.int .u32 0) := cell_of_row2 x14.out 4 rfl
   have y5 : w14.cell? ⟨w7.heap.size, 5, none⟩ = some (.string ⟨#[]⟩) := cell_of_row2 x14.out 5 rfl
   have y6 : w14.cell? ⟨w7.heap.size, 6, none⟩ = some (.int .u16 0) := cell_of_row2 x14.out 6 rfl
   have y7 : w14.cell? ⟨w7.heap.size, 7, none⟩ = some (.string b) := cell_of_row2 x14.out 7 rfl
   have y8 : w14.cell? ⟨w7.heap.size, 8, none⟩ = some (.int .u64 2) := cell_of_row2 x14.out 8 rfl
   have n4 : w14.cell? ⟨w12.heap.size, 4, none⟩ = some (.slice da (txB a).length dc) := cell_of_row2 g14.out 4 rfl
   have l0 : w14.cell? ⟨g10, 0, none⟩ = some (.int .i64 12) := C14.out
   have CV := conv_anyN (pc := dc) (I14.out.later (Below.drew (Below.refl _ w14)))
   rw [tx_bs] at CV
   generalize (txB a).length = ZL at *
   have EQ := fun (W : World) => rec_same W (zS_wf hb (sn := 2) (by omega))
   simp only [Rec.recV, zS] at EQ
   go_wp2
   go_region
   go_wp2
   go_ret
   first
     | exact ⟨by first | rfl | exact ret_bool (by simp), B14.out.drew⟩
     | exact ⟨by first | rfl | exact ret_bool (by simp), B14.out⟩
     | exact ⟨by first | rfl | exact ret_bool (by simp), B14.out.drew.drew⟩
theorem serverStale_walk (a : ByteArray) (wa : a.size ≤ maxLen) (b : ByteArray) (wb : b.size ≤ maxLen) (ch : Bool) (w : World) :
   Calls Tryz.prog 3 #[.string a, .string b, .bool ch] w fun e w' => e = .returned (.bool true) ∧ Below w.heap.size w w' := by
 by_cases ha : a.size ≤ 64
 · by_cases hb : b.size ≤ 64
   · exact stale_in a b ha hb ch w
   · have l1 : ¬ (64 : Int) < (a.size : Int) := by omega
     have l2 : (64 : Int) < (b.size : Int) := by omega
     go_enter Tryz.func3, Tryz.ntmps3
     go_wp2_with (go_at_call 6; refine (live12g_c w).mono ?_; rintro _ w1 ⟨rfl, hb1⟩)
     go_ret
     exact ⟨rfl, hb1⟩
 · have l1 : (64 : Int) < (a.size : Int) := by omega
   go_enter Tryz.func3, Tryz.ntmps3
   go_wp2_with (go_at_call 6; refine (live12g_c w).mono ?_; rintro _ w1 ⟨rfl, hb1⟩)
   go_ret
   exact ⟨rfl, hb1⟩
/-! ### The row of ServerStale -/
theorem serverStale_own : ownKnob Tryz.prog.godebug = none := by kernel_rfl
theorem serverStale_laidOut : laidOutB Tryz.prog = true := by kernel_rfl
set_option maxRecDepth 100000 in
theorem serverStale_lifted (os : Os) (started : os.Started) (H : Type) (enc : TypeId × Value → H) :
   ReturnsInHanded {} Tryz.checked os 3 .any (Rows.serverStaleSpec.pre6 enc Tryz.prog Tryz.f3 Rows.serverStaleRow.domain false) (Rows.serverStaleSpec.post enc Tryz.prog Tryz.f3 false true false false) := by
 refine returnsInHanded_of_change (C := Tryz.checked) serverStale_own started (by kernel_rfl) Tryz.func3
   (ChangeSpec.witness6 (enc := enc) (C := Tryz.checked) false ⟨#[], #[.string ByteArray.empty, .string ByteArray.empty, .bool false], []⟩ 8 (by kernel_rfl) (by kernel_rfl) (by kernel_rfl) (by kernel_rfl)) ?_
 intro W base args ds gs before hval0 hW hcnd _
 have hval : ∀ (j : Nat) t v, Tryz.f3.params[j]? = some t → args[j]? = some v → Value.okWide Tryz.prog W .any base t v := hval0
 have hW' := hW
 obtain ⟨p, q, hA0, hV, rfl, hfz, hnd⟩ := hW
 have hA : DataW.TrodAll enc Tryz.prog W 0 (fun _ => true) true Tryz.f3.params.toList args.toList ds p := hA0
 rw [Tryz.params3] at hA hval
 obtain ⟨v0, vs0, d0, ds0, p0, q0, hargs, rfl, rfl, h0, r0⟩ := trodAll_cons hA
 obtain ⟨v1, vs1, d1, ds1, p1, q1, rfl, rfl, rfl, h1, r1⟩ := trodAll_cons r0
 obtain ⟨v2, vs2, d2, ds2, p2, q2, rfl, rfl, rfl, h2, r2⟩ := trodAll_cons r1
 obtain ⟨rfl, rfl, rfl⟩ := trodAll_nil r2
 obtain rfl : args = #[v0, v1, v2] := by cases args; simp_all
 obtain ⟨rfl, rfl⟩ := trodVars_none hV
 obtain ⟨a0, rfl, rfl, rfl, w0⟩ := open_string Tryz.underlying9 (hval 0 9 v0 rfl rfl) h0
 obtain ⟨a1, rfl, rfl, rfl, w1⟩ := open_string Tryz.underlying9 (hval 1 9 v1 rfl rfl) h1
 obtain ⟨a2, rfl, rfl, rfl⟩ := open_bool Tryz.underlying4 (hval 2 4 v2 rfl rfl) h2
 clear hA0 hval0
 refine (serverStale_walk a0 w0 a1 w1 a2 W).mono fun e W' ⟨he, bel⟩ => ?_
 subst he
 exact ⟨_, rfl, _, _, _, [], _, [], hW', trodAll_mk1 (shut_bool Tryz.underlying4 _), (trodAll_cons_mk (shut_string Tryz.underlying9 w0) (trodAll_cons_mk (shut_string Tryz.underlying9 w1) (trodAll_cons_mk (shut_bool Tryz.underlying4 _) trodAll_mk0))), rfl, bel.frame _, fun h => by cases h⟩
theorem serverStale_over : Rows.serverStaleRow.holds Tryz.pinned (OpenSpec.ofChange Rows.serverStaleSpec) :=
 OpenClaim.holds_of_wide 3 Tryz.f3 rfl rfl rfl rfl rfl rfl rfl ⟨rfl, rfl, rfl, rfl, rfl⟩ rfl rfl rfl rfl rfl (by kernel_rfl) Tryz.func3 (by kernel_rfl)
   (of_decide_eq_true (by kernel_rfl)) (by unfold Func.isWrapper; first | (rw [if_pos (by decide +kernel)]; kernel_rfl) | (rw [if_neg (by decide +kernel)]; exact ⟨rfl, rfl⟩))
   (fun os started H enc _ => serverStale_lifted os started H enc)
theorem serverStale_holds : Rows.ServerStaleSaid := serverStale_over
#print axioms serverStale_holds
end Go.Proofs.YtpolbbdaippclaaGreat
