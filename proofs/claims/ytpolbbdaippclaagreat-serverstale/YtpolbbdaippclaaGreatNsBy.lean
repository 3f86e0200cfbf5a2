/-
  
-/
import Derived.Test.YtpolbbdaippclaaGreatNsBe
namespace Go.Proofs.YtpolbbdaippclaaGreat
open Go.RowKit Go.ChangeShapes Go.WideShapes Go.ChangeAt Go.Maps Go.Shelf
set_option linter.unusedVariables false
set_option linter.unusedSimpArgs false
set_option maxRecDepth 100000
set_option maxHeartbeats 4000000 in
theorem do2_s {b base : Nat} {w : World} (o : Rec) (num : Int) (ad bd : Addr) (ca cb : Nat) (l : List Nd) (ss : List St) (ver d0 d1 d2 : Int) (ve : Value) (L : List Nd)
   (hrow : w.heap[b]? = some (.cells #[.slice (some ad) l.length ca, .slice (some bd) ss.length cb, .int .u64 ver, .int .u32 d0, .int .u32 d1, .int .u32 d2, ve] 76 (0, 0))) (h : NsO w base (.slice (some ad) l.length ca) l) (hs : OwT w base (.slice (some bd) ss.length cb) ss) (hsw : ∀ s ∈ ss, s.Wf) (hll : ss.length = l.length) (hl0 : 0 < l.length) (hm : l.length ≤ 900) (hv0 : 0 ≤ ver) (hv1 : ver + 1 < 18446744073709551616) (ho : o.Wf)
   (CH : ∀ W, Calls Tryz.prog 110 #[.int .u8 o.k] W fun e w' => e = .returned (.bool true) ∧ w' = W)
   (ST : ∀ W, W.heap[b]? = some (.cells #[.slice (some ad) l.length ca, .slice (some bd) ss.length cb, .int .u64 ver, .int .u32 d0, .int .u32 num, .int .u32 d2, ve] 76 (0, 0)) → IsNs W (some ad) l → IsSs W (some bd) ss → Calls Tryz.prog 107 #[.pointer (some ⟨b, 0, none⟩), .int .u8 2, o.recV] W fun e w' => e = .returned (.bool false) ∧ Below W.heap.size W w')
   (AP : ∀ W, Tr W (some ad) l → Calls Tryz.prog 108 #[.slice (some ad) l.length ca, o.opV] W (ResO W (0, L)))
   (hL0 : 0 < L.length) (hL : L.length ≤ 900) (hp : 0 ≤ plI L o.fid) :
   Calls Tryz.prog 43 #[.pointer (some ⟨b, 0, none⟩), .int .u8 2, .int .u32 num, o.recV] w fun e w' => e = .returned (.int .i64 0) ∧ ∃ g cap g2 cap2 L', w'.heap[b]? = some (.cells #[.slice (some ⟨g, 0, none⟩) L'.length cap, .slice (some ⟨g2, 0, none⟩) (stampsS l ss L' o.fid (ver + 1) 2).length cap2, .int .u64 (ver + 1), .int .u32 d0, .int .u32 num, .int .u32 d2, ve] 76 (0, 0)) ∧ NsO w' w.heap.size (.slice (some ⟨g, 0, none⟩) L'.length cap) L' ∧ L'.map Nd.er = L ∧ OwT w' w.heap.size (.slice (some ⟨g2, 0, none⟩) (stampsS l ss L' o.fid (ver + 1) 2).length cap2) (stampsS l ss L' o.fid (ver + 1) 2) ∧ Ou (fun k => k = b) w w' := by
 have b0 := below_1 w (.cells #[.int .u8 o.k, .int .u32 o.fid, .int .u32 o.dir, .string o.nm, .int .u32 o.to, .string o.nm2, .int .u16 o.md, .string o.dt, .int .u64 o.sn] 39)
 have h0 := heap_alloc_new w (.cells #[.int .u8 o.k, .int .u32 o.fid, .int .u32 o.dir, .string o.nm, .int .u32 o.to, .string o.nm2, .int .u16 o.md, .string o.dt, .int .u64 o.sn] 39)
 have hr0 := (b0.block _ (lt_blkR hrow)).trans hrow
 have hbl : b < w.heap.size := lt_blkR hrow
 have hw1 := heap_setCell_same (w.alloc (.cells #[.int .u8 o.k, .int .u32 o.fid, .int .u32 o.dir, .string o.nm, .int .u32 o.to, .string o.nm2, .int .u16 o.md, .string o.dt, .int .u64 o.sn] 39)) b 4 _ _ (.int .u32 num) hr0
 have hx1 : ((w.alloc (.cells #[.int .u8 o.k, .int .u32 o.fid, .int .u32 o.dir, .string o.nm, .int .u32 o.to, .string o.nm2, .int .u16 o.md, .string o.dt, .int .u64 o.sn] 39)).setCell ⟨b, 4, none⟩ (.int .u32 num)).heap[w.heap.size]? = _ := (heap_setCell_other _ ⟨b, 4, none⟩ w.heap.size _ (by show w.heap.size ≠ b; omega)).trans h0
 have N1 := (h.later b0).setS (q := ⟨b, 4, none⟩) hr0 (by decide) (by decide) (by decide) (.int .u32 num)
 have T1 := (hs.later b0).setS (q := ⟨b, 4, none⟩) hr0 (by decide) (.int .u32 num)
 have U1 : Hid (Ou (fun k => k = b) w ((w.alloc (.cells #[.int .u8 o.k, .int .u32 o.fid, .int .u32 o.dir, .string o.nm, .int .u32 o.to, .string o.nm2, .int .u16 o.md, .string o.dt, .int .u64 o.sn] 39)).setCell ⟨b, 4, none⟩ (.int .u32 num))) := hid ((Ou.of b0).set (g := b) (o := 4) (v := .int .u32 num) rfl)
 have hz1 : Hid (w.heap.size ≤ ((w.alloc (.cells #[.int .u8 o.k, .int .u32 o.fid, .int .u32 o.dir, .string o.nm, .int .u32 o.to, .string o.nm2, .int .u16 o.md, .string o.dt, .int .u64 o.sn] 39)).setCell ⟨b, 4, none⟩ (.int .u32 num)).heap.size) := hid (by simp)
 have k3 : (w.alloc (.cells #[.int .u8 o.k, .int .u32 o.fid, .int .u32 o.dir, .string o.nm, .int .u32 o.to, .string o.nm2, .int .u16 o.md, .string o.dt, .int .u64 o.sn] 39)).cell? ⟨b, 4, none⟩ = some (.int .u32 d1) := cell_of_row2 hr0 4 rfl
 have kz : ∀ i, (w.alloc (.cells #[.int .u8 o.k, .int .u32 o.fid, .int .u32 o.dir, .string o.nm, .int .u32 o.to, .string o.nm2, .int .u16 o.md, .string o.dt, .int .u64 o.sn] 39)).frozen? ⟨b, i, none⟩ = false := fun i => by simp only [World.frozen?, hr0]; simp
 obtain ⟨aN, cN, eN, hTr⟩ := h.tr (by omega)
 have TRY := fun (W : World) (hW1 : W.heap[b]? = some (.cells #[.slice (some ad) l.length ca, .slice (some bd) ss.length cb, .int .u64 ver, .int .u32 d0, .int .u32 num, .int .u32 d2, ve] 76 (0, 0))) (hW2 : NsO W base (.slice (some ad) l.length ca) l) (hW3 : OwT W base (.slice (some bd) ss.length cb) ss) => (by
   obtain ⟨g1, c1, e1, _, t1⟩ := OwN.trN hW2.1 (fun x hx => hW2.2 x hx) hl0 (by omega)
   obtain ⟨g2, c2, e2, _, t2⟩ := OwT.is hW3 hsw (by omega) (by omega)
   have q1 : ad = ⟨g1, 0, none⟩ := by simp only [Value.slice.injEq, Option.some.injEq] at e1; exact e1.1
   have q2 : bd = ⟨g2, 0, none⟩ := by simp only [Value.slice.injEq, Option.some.injEq] at e2; exact e2.1
   rw [← q1] at t1
   rw [← q2] at t2
   exact try_c o 2 ad bd ca cb l ss ver d0 num d2 ve L hW1 t1.1 t2 hll hm hv0 hv1 (by decide) ho CH (fun X hX => ST X ((hX.block _ (lt_blkR hW1)).trans hW1) (t1.1.later hX) (t2.later hX)) (fun X hX => AP X (t1.later hX)) hL0 hL hp : Calls Tryz.prog 71 #[.pointer (some ⟨b, 0, none⟩), .int .u8 2, o.recV] W _)
 have TRYH := hid (TRY _ hw1 N1 T1)
 have HX1 := hid hx1
 clear TRY hTr eN h hs hsw hll ST AP CH N1 T1 hrow hr0 hw1 h0 b0 ho hp
 obtain ⟨k, fid, dir, nm, tof, nm2, md, dt, sn⟩ := o
 simp only [Rec.recV] at *
 go_enter Tryz.func43, Tryz.ntmps43
 go_upto_region 1 with fail
 generalize (w.alloc (.cells #[.int .u8 k, .int .u32 fid, .int .u32 dir, .string nm, .int .u32 tof, .string nm2, .int .u16 md, .string dt, .int .u64 sn] 39)) = V0 at *
 go_upto_region 2 with fail
 clear k3 kz
 generalize (V0.setCell ⟨b, 4, none⟩ (.int .u32 num)) = V at *
 have c0 : V.cell? ⟨w.heap.size, 0, none⟩ = some (.int .u8 k) := cell_of_row2 HX1.out 0 rfl
 have c1 : V.cell? ⟨w.heap.size, 1, none⟩ = some (.int .u32 fid) := cell_of_row2 HX1.out 1 rfl
 have c2 : V.cell? ⟨w.heap.size, 2, none⟩ = some (.int .u32 dir) := cell_of_row2 HX1.out 2 rfl
 have c3 : V.cell? ⟨w.heap.size, 3, none⟩ = some (.string nm) := cell_of_row2 HX1.out 3 rfl
 have c4 : V.cell? ⟨w.heap.size, 4, none⟩ = some (.int .u32 tof) := cell_of_row2 HX1.out 4 rfl
 have c5 : V.cell? ⟨w.heap.size, 5, none⟩ = some (.string nm2) := cell_of_row2 HX1.out 5 rfl
 have c6 : V.cell? ⟨w.heap.size, 6, none⟩ = some (.int .u16 md) := cell_of_row2 HX1.out 6 rfl
 have c7 : V.cell? ⟨w.heap.size, 7, none⟩ = some (.string dt) := cell_of_row2 HX1.out 7 rfl
 have c8 : V.cell? ⟨w.heap.size, 8, none⟩ = some (.int .u64 sn) := cell_of_row2 HX1.out 8 rfl
 go_wp2_with (go_at_call 71; refine TRYH.out.mono ?_; rintro _ w1 ⟨rfl, g, cap, g2, cap2, L', hr, hn, he, ht, hu⟩)
 go_ret
 exact ⟨rfl, g, cap, g2, cap2, L', hr, hn.low hz1.out, he, own_low ht hz1.out, U1.out.trans hu⟩
set_option maxHeartbeats 4000000 in
theorem do3_s {b base : Nat} {w : World} (o : Rec) (num : Int) (ad bd : Addr) (ca cb : Nat) (l : List Nd) (ss : List St) (ver d0 d1 d2 : Int) (ve : Value) (L : List Nd)
   (hrow : w.heap[b]? = some (.cells #[.slice (some ad) l.length ca, .slice (some bd) ss.length cb, .int .u64 ver, .int .u32 d0, .int .u32 d1, .int .u32 d2, ve] 76 (0, 0))) (h : NsO w base (.slice (some ad) l.length ca) l) (hs : OwT w base (.slice (some bd) ss.length cb) ss) (hsw : ∀ s ∈ ss, s.Wf) (hll : ss.length = l.length) (hl0 : 0 < l.length) (hm : l.length ≤ 900) (hv0 : 0 ≤ ver) (hv1 : ver + 1 < 18446744073709551616) (ho : o.Wf)
   (CH : ∀ W, Calls Tryz.prog 110 #[.int .u8 o.k] W fun e w' => e = .returned (.bool true) ∧ w' = W)
   (ST : ∀ W, W.heap[b]? = some (.cells #[.slice (some ad) l.length ca, .slice (some bd) ss.length cb, .int .u64 ver, .int .u32 d0, .int .u32 d1, .int .u32 num, ve] 76 (0, 0)) → IsNs W (some ad) l → IsSs W (some bd) ss → Calls Tryz.prog 107 #[.pointer (some ⟨b, 0, none⟩), .int .u8 3, o.recV] W fun e w' => e = .returned (.bool false) ∧ Below W.heap.size W w')
   (AP : ∀ W, Tr W (some ad) l → Calls Tryz.prog 108 #[.slice (some ad) l.length ca, o.opV] W (ResO W (0, L)))
   (hL0 : 0 < L.length) (hL : L.length ≤ 900) (hp : 0 ≤ plI L o.fid) :
   Calls Tryz.prog 43 #[.pointer (some ⟨b, 0, none⟩), .int .u8 3, .int .u32 num, o.recV] w fun e w' => e = .returned (.int .i64 0) ∧ ∃ g cap g2 cap2 L', w'.heap[b]? = some (.cells #[.slice (some ⟨g, 0, none⟩) L'.length cap, .slice (some ⟨g2, 0, none⟩) (stampsS l ss L' o.fid (ver + 1) 3).length cap2, .int .u64 (ver + 1), .int .u32 d0, .int .u32 d1, .int .u32 num, ve] 76 (0, 0)) ∧ NsO w' w.heap.size (.slice (some ⟨g, 0, none⟩) L'.length cap) L' ∧ L'.map Nd.er = L ∧ OwT w' w.heap.size (.slice (some ⟨g2, 0, none⟩) (stampsS l ss L' o.fid (ver + 1) 3).length cap2) (stampsS l ss L' o.fid (ver + 1) 3) ∧ Ou (fun k => k = b) w w' := by
 have b0 := below_1 w (.cells #[.int .u8 o.k, .int .u32 o.fid, .int .u32 o.dir, .string o.nm, .int .u32 o.to, .string o.nm2, .int .u16 o.md, .string o.dt, .int .u64 o.sn] 39)
 have h0 := heap_alloc_new w (.cells #[.int .u8 o.k, .int .u32 o.fid, .int .u32 o.dir, .string o.nm, .int .u32 o.to, .string o.nm2, .int .u16 o.md, .string o.dt, .int .u64 o.sn] 39)
 have hr0 := (b0.block _ (lt_blkR hrow)).trans hrow
 have hbl : b < w.heap.size := lt_blkR hrow
 have hw1 := heap_setCell_same (w.alloc (.cells #[.int .u8 o.k, .int .u32 o.fid, .int .u32 o.dir, .string o.nm, .int .u32 o.to, .string o.nm2, .int .u16 o.md, .string o.dt, .int .u64 o.sn] 39)) b 5 _ _ (.int .u32 num) hr0
 have hx1 : ((w.alloc (.cells #[.int .u8 o.k, .int .u32 o.fid, .int .u32 o.dir, .string o.nm, .int .u32 o.to, .string o.nm2, .int .u16 o.md, .string o.dt, .int .u64 o.sn] 39)).setCell ⟨b, 5, none⟩ (.int .u32 num)).heap[w.heap.size]? = _ := (heap_setCell_other _ ⟨b, 5, none⟩ w.heap.size _ (by show w.heap.size ≠ b; omega)).trans h0
 have N1 := (h.later b0).setS (q := ⟨b, 5, none⟩) hr0 (by decide) (by decide) (by decide) (.int .u32 num)
 have T1 := (hs.later b0).setS (q := ⟨b, 5, none⟩) hr0 (by decide) (.int .u32 num)
 have U1 : Hid (Ou (fun k => k = b) w ((w.alloc (.cells #[.int .u8 o.k, .int .u32 o.fid, .int .u32 o.dir, .string o.nm, .int .u32 o.to, .string o.nm2, .int .u16 o.md, .string o.dt, .int .u64 o.sn] 39)).setCell ⟨b, 5, none⟩ (.int .u32 num))) := hid ((Ou.of b0).set (g := b) (o := 5) (v := .int .u32 num) rfl)
 have hz1 : Hid (w.heap.size ≤ ((w.alloc (.cells #[.int .u8 o.k, .int .u32 o.fid, .int .u32 o.dir, .string o.nm, .int .u32 o.to, .string o.nm2, .int .u16 o.md, .string o.dt, .int .u64 o.sn] 39)).setCell ⟨b, 5, none⟩ (.int .u32 num)).heap.size) := hid (by simp)
 have k3 : (w.alloc (.cells #[.int .u8 o.k, .int .u32 o.fid, .int .u32 o.dir, .string o.nm, .int .u32 o.to, .string o.nm2, .int .u16 o.md, .string o.dt, .int .u64 o.sn] 39)).cell? ⟨b, 5, none⟩ = some (.int .u32 d2) := cell_of_row2 hr0 5 rfl
 have kz : ∀ i, (w.alloc (.cells #[.int .u8 o.k, .int .u32 o.fid, .int .u32 o.dir, .string o.nm, .int .u32 o.to, .string o.nm2, .int .u16 o.md, .string o.dt, .int .u64 o.sn] 39)).frozen? ⟨b, i, none⟩ = false := fun i => by simp only [World.frozen?, hr0]; simp
 obtain ⟨aN, cN, eN, hTr⟩ := h.tr (by omega)
 have TRY := fun (W : World) (hW1 : W.heap[b]? = some (.cells #[.slice (some ad) l.length ca, .slice (some bd) ss.length cb, .int .u64 ver, .int .u32 d0, .int .u32 d1, .int .u32 num, ve] 76 (0, 0))) (hW2 : NsO W base (.slice (some ad) l.length ca) l) (hW3 : OwT W base (.slice (some bd) ss.length cb) ss) => (by
   obtain ⟨g1, c1, e1, _, t1⟩ := OwN.trN hW2.1 (fun x hx => hW2.2 x hx) hl0 (by omega)
   obtain ⟨g2, c2, e2, _, t2⟩ := OwT.is hW3 hsw (by omega) (by omega)
   have q1 : ad = ⟨g1, 0, none⟩ := by simp only [Value.slice.injEq, Option.some.injEq] at e1; exact e1.1
   have q2 : bd = ⟨g2, 0, none⟩ := by simp only [Value.slice.injEq, Option.some.injEq] at e2; exact e2.1
   rw [← q1] at t1
   rw [← q2] at t2
   exact try_c o 3 ad bd ca cb l ss ver d0 d1 num ve L hW1 t1.1 t2 hll hm hv0 hv1 (by decide) ho CH (fun X hX => ST X ((hX.block _ (lt_blkR hW1)).trans hW1) (t1.1.later hX) (t2.later hX)) (fun X hX => AP X (t1.later hX)) hL0 hL hp : Calls Tryz.prog 71 #[.pointer (some ⟨b, 0, none⟩), .int .u8 3, o.recV] W _)
 have TRYH := hid (TRY _ hw1 N1 T1)
 have HX1 := hid hx1
 clear TRY hTr eN h hs hsw hll ST AP CH N1 T1 hrow hr0 hw1 h0 b0 ho hp
 obtain ⟨k, fid, dir, nm, tof, nm2, md, dt, sn⟩ := o
 simp only [Rec.recV] at *
 go_enter Tryz.func43, Tryz.ntmps43
 go_upto_region 1 with fail
 generalize (w.alloc (.cells #[.int .u8 k, .int .u32 fid, .int .u32 dir, .string nm, .int .u32 tof, .string nm2, .int .u16 md, .string dt, .int .u64 sn] 39)) = V0 at *
 go_upto_region 2 with fail
 clear k3 kz
 generalize (V0.setCell ⟨b, 5, none⟩ (.int .u32 num)) = V at *
 have c0 : V.cell? ⟨w.heap.size, 0, none⟩ = some (.int .u8 k) := cell_of_row2 HX1.out 0 rfl
 have c1 : V.cell? ⟨w.heap.size, 1, none⟩ = some (.int .u32 fid) := cell_of_row2 HX1.out 1 rfl
 have c2 : V.cell? ⟨w.heap.size, 2, none⟩ = some (.int .u32 dir) := cell_of_row2 HX1.out 2 rfl
 have c3 : V.cell? ⟨w.heap.size, 3, none⟩ = some (.string nm) := cell_of_row2 HX1.out 3 rfl
 have c4 : V.cell? ⟨w.heap.size, 4, none⟩ = some (.int .u32 tof) := cell_of_row2 HX1.out 4 rfl
 have c5 : V.cell? ⟨w.heap.size, 5, none⟩ = some (.string nm2) := cell_of_row2 HX1.out 5 rfl
 have c6 : V.cell? ⟨w.heap.size, 6, none⟩ = some (.int .u16 md) := cell_of_row2 HX1.out 6 rfl
 have c7 : V.cell? ⟨w.heap.size, 7, none⟩ = some (.string dt) := cell_of_row2 HX1.out 7 rfl
 have c8 : V.cell? ⟨w.heap.size, 8, none⟩ = some (.int .u64 sn) := cell_of_row2 HX1.out 8 rfl
 go_wp2_with (go_at_call 71; refine TRYH.out.mono ?_; rintro _ w1 ⟨rfl, g, cap, g2, cap2, L', hr, hn, he, ht, hu⟩)
 go_ret
 exact ⟨rfl, g, cap, g2, cap2, L', hr, hn.low hz1.out, he, own_low ht hz1.out, U1.out.trans hu⟩
end Go.Proofs.YtpolbbdaippclaaGreat
