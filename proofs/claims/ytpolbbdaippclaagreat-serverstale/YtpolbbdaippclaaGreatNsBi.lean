/-
  
-/
import Derived.Test.YtpolbbdaippclaaGreatNsBe
import Derived.Test.YtpolbbdaippclaaGreatNsBf
import Derived.Test.YtpolbbdaippclaaGreatNsBg
namespace Go.Proofs.YtpolbbdaippclaaGreat
open Go.RowKit Go.ChangeShapes Go.WideShapes Go.ChangeAt Go.Maps Go.Shelf
set_option linter.unusedVariables false
set_option linter.unusedSimpArgs false
set_option maxRecDepth 100000
set_option maxHeartbeats 4000000 in
theorem do1_s {b base : Nat} {w : World} (o : Rec) (num : Int) (ad bd : Addr) (ca cb : Nat) (l : List Nd) (ss : List St) (ver d0 d1 d2 : Int) (ve : Value) (L : List Nd)
   (hrow : w.heap[b]? = some (.cells #[.slice (some ad) l.length ca, .slice (some bd) ss.length cb, .int .u64 ver, .int .u32 d0, .int .u32 d1, .int .u32 d2, ve] 76 (0, 0))) (h : NsO w base (.slice (some ad) l.length ca) l) (hs : OwT w base (.slice (some bd) ss.length cb) ss) (hsw : ∀ s ∈ ss, s.Wf) (hll : ss.length = l.length) (hl0 : 0 < l.length) (hm : l.length ≤ 900) (hv0 : 0 ≤ ver) (hv1 : ver + 1 < 18446744073709551616) (ho : o.Wf)
   (CH : ∀ W, Calls Tryz.prog 110 #[.int .u8 o.k] W fun e w' => e = .returned (.bool true) ∧ w' = W)
   (ST : ∀ W, W.heap[b]? = some (.cells #[.slice (some ad) l.length ca, .slice (some bd) ss.length cb, .int .u64 ver, .int .u32 num, .int .u32 d1, .int .u32 d2, ve] 76 (0, 0)) → IsNs W (some ad) l → IsSs W (some bd) ss → Calls Tryz.prog 107 #[.pointer (some ⟨b, 0, none⟩), .int .u8 1, o.recV] W fun e w' => e = .returned (.bool false) ∧ Below W.heap.size W w')
   (AP : ∀ W, Tr W (some ad) l → Calls Tryz.prog 108 #[.slice (some ad) l.length ca, o.opV] W (ResO W (0, L)))
   (hL0 : 0 < L.length) (hL : L.length ≤ 900) (hp : 0 ≤ plI L o.fid) :
   Calls Tryz.prog 43 #[.pointer (some ⟨b, 0, none⟩), .int .u8 1, .int .u32 num, o.recV] w fun e w' => e = .returned (.int .i64 0) ∧ ∃ g cap g2 cap2 L', w'.heap[b]? = some (.cells #[.slice (some ⟨g, 0, none⟩) L'.length cap, .slice (some ⟨g2, 0, none⟩) (stampsS l ss L' o.fid (ver + 1) 1).length cap2, .int .u64 (ver + 1), .int .u32 num, .int .u32 d1, .int .u32 d2, ve] 76 (0, 0)) ∧ NsO w' w.heap.size (.slice (some ⟨g, 0, none⟩) L'.length cap) L' ∧ L'.map Nd.er = L ∧ OwT w' w.heap.size (.slice (some ⟨g2, 0, none⟩) (stampsS l ss L' o.fid (ver + 1) 1).length cap2) (stampsS l ss L' o.fid (ver + 1) 1) ∧ Ou (fun k => k = b) w w' := by
 have b0 := below_1 w (.cells #[.int .u8 o.k, .int .u32 o.fid, .int .u32 o.dir, .string o.nm, .int .u32 o.to, .string o.nm2, .int .u16 o.md, .string o.dt, .int .u64 o.sn] 39)
 have h0 := heap_alloc_new w (.cells #[.int .u8 o.k, .int .u32 o.fid, .int .u32 o.dir, .string o.nm, .int .u32 o.to, .string o.nm2, .int .u16 o.md, .string o.dt, .int .u64 o.sn] 39)
 have hr0 := (b0.block _ (lt_blkR hrow)).trans hrow
 have hbl : b < w.heap.size := lt_blkR hrow
 have hw1 := heap_setCell_same (w.alloc (.cells #[.int .u8 o.k, .int .u32 o.fid, .int .u32 o.dir, .string o.nm, .int .u32 o.to, .string o.nm2, .int .u16 o.md, .string o.dt, .int .u64 o.sn] 39)) b 3 _ _ (.int .u32 num) hr0
 have hx1 : ((w.alloc (.cells #[.int .u8 o.k, .int .u32 o.fid, .int .u32 o.dir, .string o.nm, .int .u32 o.to, .string o.nm2, .int .u16 o.md, .string o.dt, .int .u64 o.sn] 39)).setCell ⟨b, 3, none⟩ (.int .u32 num)).heap[w.heap.size]? = _ := (heap_setCell_other _ ⟨b, 3, none⟩ w.heap.size _ (by show w.heap.size ≠ b; omega)).trans h0
 have N1 := (h.later b0).setS (q := ⟨b, 3, none⟩) hr0 (by decide) (by decide) (by decide) (.int .u32 num)
 have T1 := (hs.later b0).setS (q := ⟨b, 3, none⟩) hr0 (by decide) (.int .u32 num)
 have U1 : Hid (Ou (fun k => k = b) w ((w.alloc (.cells #[.int .u8 o.k, .int .u32 o.fid, .int .u32 o.dir, .string o.nm, .int .u32 o.to, .string o.nm2, .int .u16 o.md, .string o.dt, .int .u64 o.sn] 39)).setCell ⟨b, 3, none⟩ (.int .u32 num))) := hid ((Ou.of b0).set (g := b) (o := 3) (v := .int .u32 num) rfl)
 have hz1 : Hid (w.heap.size ≤ ((w.alloc (.cells #[.int .u8 o.k, .int .u32 o.fid, .int .u32 o.dir, .string o.nm, .int .u32 o.to, .string o.nm2, .int .u16 o.md, .string o.dt, .int .u64 o.sn] 39)).setCell ⟨b, 3, none⟩ (.int .u32 num)).heap.size) := hid (by simp)
 have k3 : (w.alloc (.cells #[.int .u8 o.k, .int .u32 o.fid, .int .u32 o.dir, .string o.nm, .int .u32 o.to, .string o.nm2, .int .u16 o.md, .string o.dt, .int .u64 o.sn] 39)).cell? ⟨b, 3, none⟩ = some (.int .u32 d0) := cell_of_row2 hr0 3 rfl
 have kz : ∀ i, (w.alloc (.cells #[.int .u8 o.k, .int .u32 o.fid, .int .u32 o.dir, .string o.nm, .int .u32 o.to, .string o.nm2, .int .u16 o.md, .string o.dt, .int .u64 o.sn] 39)).frozen? ⟨b, i, none⟩ = false := fun i => by simp only [World.frozen?, hr0]; simp
 obtain ⟨aN, cN, eN, hTr⟩ := h.tr (by omega)
 have TRY := fun (W : World) (hW1 : W.heap[b]? = some (.cells #[.slice (some ad) l.length ca, .slice (some bd) ss.length cb, .int .u64 ver, .int .u32 num, .int .u32 d1, .int .u32 d2, ve] 76 (0, 0))) (hW2 : NsO W base (.slice (some ad) l.length ca) l) (hW3 : OwT W base (.slice (some bd) ss.length cb) ss) => (by
   obtain ⟨g1, c1, e1, _, t1⟩ := OwN.trN hW2.1 (fun x hx => hW2.2 x hx) hl0 (by omega)
   obtain ⟨g2, c2, e2, _, t2⟩ := OwT.is hW3 hsw (by omega) (by omega)
   have q1 : ad = ⟨g1, 0, none⟩ := by simp only [Value.slice.injEq, Option.some.injEq] at e1; exact e1.1
   have q2 : bd = ⟨g2, 0, none⟩ := by simp only [Value.slice.injEq, Option.some.injEq] at e2; exact e2.1
   rw [← q1] at t1
   rw [← q2] at t2
   exact try_c o 1 ad bd ca cb l ss ver num d1 d2 ve L hW1 t1.1 t2 hll hm hv0 hv1 (by decide) ho CH (fun X hX => ST X ((hX.block _ (lt_blkR hW1)).trans hW1) (t1.1.later hX) (t2.later hX)) (fun X hX => AP X (t1.later hX)) hL0 hL hp : Calls Tryz.prog 71 #[.pointer (some ⟨b, 0, none⟩), .int .u8 1, o.recV] W _)
 have TRYH := hid (TRY _ hw1 N1 T1)
 have HX1 := hid hx1
 clear TRY hTr eN h hs hsw hll ST AP CH N1 T1 hrow hr0 hw1 h0 b0 ho hp
 obtain ⟨k, fid, dir, nm, tof, nm2, md, dt, sn⟩ := o
 simp only [Rec.recV] at *
 go_enter Tryz.func43, Tryz.ntmps43
 go_upto_region 1 with fail
 generalize (w.alloc (.cells #[.int .u8 k, .int .u32 fid, .int .u32 dir, .string nm, .int .u32 tof, .string nm2, .int .u16 md, .string dt, .int .u64 sn] 39)) = V0 at *
 go_upto_region 2 with fail
 clear k3 kz
 generalize (V0.setCell ⟨b, 3, none⟩ (.int .u32 num)) = V at *
 have c0 : V.cell? ⟨w.heap.size, 0, none⟩ = some (.int .u8 k) := cell_of_row2 HX1.out 0 rfl
 have c1 : V.cell? ⟨w.heap.size, 1, none⟩ = some (.int .u32 fid) := cell_of_row2 HX1.out 1 rfl
 have c2 : V.cell? ⟨w.heap.size, 2, none⟩ = some (.int .u32 dir) := cell_of_row2 HX1.out 2 rfl
 have c3 : V.cell? ⟨w.heap.size, 3, none⟩ = some (.string nm) := cell_of_row2 HX1.out 3 rfl
 have c4 : V.cell? ⟨w.heap.size, 4, none⟩ = some (.int .u32 tof) := cell_of_row2 HX1.out 4 rfl
 have c5 : V.cell? ⟨w.heap.size, 5, none⟩ = some (.string nm2) := cell_of_row2 HX1.out 5 rfl
 have c6 : V.cell? ⟨w.heap.size, 6, none⟩ = some (.int .u16 md) := cell_of_row2 HX1.out 6 rfl
 have c7 : V.cell? ⟨w.heap.size, 7, none⟩ = some (.string dt) := cell_of_row2 HX1.out 7 rfl
 have c8 : V.cell? ⟨w.heap.size, 8, none⟩ = some (.int .u64 sn) := cell_of_row2 HX1.out 8 rfl
 go_wp2_with (go_at_call 71; refine TRYH.out.mono ?_; rintro _ w1 ⟨rfl, g, cap, g2, cap2, L', hr, hn, he, ht, hu⟩)
 go_ret
 exact ⟨rfl, g, cap, g2, cap2, L', hr, hn.low hz1.out, he, own_low ht hz1.out, U1.out.trans hu⟩
set_option maxHeartbeats 8000000 in
theorem behind1_old (p j lb cl : Nat) (o : Rec) (num : Int) (ad bd : Addr) (ca cb : Nat) (l : List Nd) (ss : List St) (ver d0 d1 d2 : Int) (w : World)
   (hrow : w.heap[p]? = some (.cells #[pB j, .slice (some ad) l.length ca, .slice (some bd) ss.length cb, .int .u64 ver, .int .u32 d0, .int .u32 d1, .int .u32 d2, .slice none 0 0] 79 (0, 0))) (hlb : w.heap[lb]? = some (.cells #[.int .u8 o.k, .int .u32 o.fid, .int .u32 o.dir, .string o.nm, .int .u32 o.to, .string o.nm2, .int .u16 o.md, .string o.dt, .int .u64 o.sn] 39 (0, 0))) (h : Tr w (some ad) l) (hs : IsSs w (some bd) ss) (hl0 : 0 < l.length) (hm : l.length ≤ 900) (hll : ss.length = l.length) (hn0 : 0 ≤ num ∧ num < 4294967296) (hnd : num ≤ d0) :
   Calls Tryz.prog 21 #[.pointer (some ⟨p, 1, none⟩), .int .u8 1, .int .u32 num, .slice (some ⟨lb, 0, none⟩) 1 cl] w fun e w' => ∃ ag ng cg ah nh ch ve, e = .returned (.tuple #[.agg #[.slice ag ng cg, .slice ah nh ch, .int .u64 ver, .int .u32 d0, .int .u32 d1, .int .u32 d2, .slice none 0 0], ve]) ∧ OwE w' (w.heap.size + 1) ve [0] ∧ Below w.heap.size w w' := by
 have HROW := hid hrow
 have HLB := hid hlb
 have HT := hid h
 have HS := hid hs
 have HLL := hid hll
 have HSW := hid hs.2.1
 have hss0 : 0 < ss.length := by omega
 have hssm : ss.length ≤ 900 := by omega
 have b1 := below_1 w (.cells #[.slice none 0 0, .slice none 0 0, .int .u64 0, .int .u32 0, .int .u32 0, .int .u32 0, .slice none 0 0] 76)
 have g1 := heap_alloc_new w (.cells #[.slice none 0 0, .slice none 0 0, .int .u64 0, .int .u32 0, .int .u32 0, .int .u32 0, .slice none 0 0] 76)
 have B1 := hid b1
 have HZ := hid g1
 have LV : Hid ((w.alloc (.cells #[.slice none 0 0, .slice none 0 0, .int .u64 0, .int .u32 0, .int .u32 0, .int .u32 0, .slice none 0 0] 76)).heap.size = w.heap.size + 1) := hid (by simp)
 have wn : IntKind.u32.wrap (num + 0) = num := by rw [IntKind.wrap_u32]; omega
 have wn2 : IntKind.u32.wrap num = num := by rw [IntKind.wrap_u32]; omega
 have CC := hid (copied_c p j ad bd ca cb l ss ver d0 d1 d2 _ ((b1.block _ (lt_blkR hrow)).trans hrow) (h.later b1) (hs.later b1) hm hssm)
 clear b1 g1 h hs hrow hlb hll
 go_enter Tryz.func21, Tryz.ntmps21
 go_upto_region 1 with fail
 generalize (w.alloc (.cells #[.slice none 0 0, .slice none 0 0, .int .u64 0, .int .u32 0, .int .u32 0, .int .u32 0, .slice none 0 0] 76)) = V at *
 go_upto_region 2 with (go_at_call 34; refine CC.out.mono ?_; rintro _ w1 ⟨v1, u1, L, rfl, ho1, he1, hn1, ht1, hb1⟩; have hLl : L.length = l.length := (by have := congrArg List.length he1; simpa using this); obtain ⟨g, cap, rfl, hgb, htr⟩ := OwN.trN ho1 hn1 (by omega) (by omega); obtain ⟨g2, cap2, rfl, hgb2, hst⟩ := OwT.is ht1 HSW.out hss0 (by omega); have O1 : Hid (NsO w1 V.heap.size (.slice (some ⟨g, 0, none⟩) L.length cap) L) := hid ⟨ho1, hn1⟩; have E1 := hid he1; have T1 := hid ht1; have D1 := hid hb1; have LL := hid hLl; clear ho1 he1 hn1 ht1 hb1 hLl htr hst hgb hgb2)
 have b2 := below_1 w1 (.cells #[.slice (some ⟨g, 0, none⟩) L.length cap, .slice (some ⟨g2, 0, none⟩) ss.length cap2, .int .u64 ver, .int .u32 d0, .int .u32 d1, .int .u32 d2, .slice none 0 0] 76)
 have g3 := heap_alloc_new w1 (.cells #[.slice (some ⟨g, 0, none⟩) L.length cap, .slice (some ⟨g2, 0, none⟩) ss.length cap2, .int .u64 ver, .int .u32 d0, .int .u32 d1, .int .u32 d2, .slice none 0 0] 76)
 have B2 := hid ((B1.out.trans (D1.out.mono B1.out.size)).trans (b2.mono (Nat.le_trans B1.out.size D1.out.size)))
 have O2 := hid (O1.out.later b2)
 have T2 := hid (T1.out.later b2)
 have Z2 : Hid ((w1.alloc (.cells #[.slice (some ⟨g, 0, none⟩) L.length cap, .slice (some ⟨g2, 0, none⟩) ss.length cap2, .int .u64 ver, .int .u32 d0, .int .u32 d1, .int .u32 d2, .slice none 0 0] 76)).heap[w.heap.size]? = some (.cells #[.slice none 0 0, .slice none 0 0, .int .u64 0, .int .u32 0, .int .u32 0, .int .u32 0, .slice none 0 0] 76 (0, 0))) := hid ((b2.block _ (Nat.lt_of_lt_of_le (lt_blkR HZ.out) D1.out.size)).trans ((D1.out.block _ (lt_blkR HZ.out)).trans HZ.out))
 have GB : Hid (w.heap.size < w1.heap.size) := hid (Nat.lt_of_lt_of_le (lt_blkR HZ.out) D1.out.size)
 have SZ2 : Hid ((w1.alloc (.cells #[.slice (some ⟨g, 0, none⟩) L.length cap, .slice (some ⟨g2, 0, none⟩) ss.length cap2, .int .u64 ver, .int .u32 d0, .int .u32 d1, .int .u32 d2, .slice none 0 0] 76)).heap.size = w1.heap.size + 1) := hid (by simp)
 clear b2
 generalize (w1.alloc (.cells #[.slice (some ⟨g, 0, none⟩) L.length cap, .slice (some ⟨g2, 0, none⟩) ss.length cap2, .int .u64 ver, .int .u32 d0, .int .u32 d1, .int .u32 d2, .slice none 0 0] 76)) = V2 at *
 obtain ⟨nb, hnb⟩ : ∃ nb, nb = w1.heap.size := ⟨_, rfl⟩
 rw [← hnb] at g3 GB SZ2
 rw [← hnb]
 clear hnb
 have HR2 := hid g3
 clear g3
 have hlb2 := (B2.out.block _ (lt_blkR HLB.out)).trans HLB.out
 go_upto_region 4 with fail
 obtain ⟨k, fid, dir, nm, tof, nm2, md, dt, sn⟩ := o
 simp only [Rec.recV, Rec.opV] at *
 have y0 : V2.cell? ⟨lb, 0, none⟩ = some (.int .u8 k) := cell_of_row2 hlb2 0 rfl
 have y1 : V2.cell? ⟨lb, 1, none⟩ = some (.int .u32 fid) := cell_of_row2 hlb2 1 rfl
 have y2 : V2.cell? ⟨lb, 2, none⟩ = some (.int .u32 dir) := cell_of_row2 hlb2 2 rfl
 have y3 : V2.cell? ⟨lb, 3, none⟩ = some (.string nm) := cell_of_row2 hlb2 3 rfl
 have y4 : V2.cell? ⟨lb, 4, none⟩ = some (.int .u32 tof) := cell_of_row2 hlb2 4 rfl
 have y5 : V2.cell? ⟨lb, 5, none⟩ = some (.string nm2) := cell_of_row2 hlb2 5 rfl
 have y6 : V2.cell? ⟨lb, 6, none⟩ = some (.int .u16 md) := cell_of_row2 hlb2 6 rfl
 have y7 : V2.cell? ⟨lb, 7, none⟩ = some (.string dt) := cell_of_row2 hlb2 7 rfl
 have y8 : V2.cell? ⟨lb, 8, none⟩ = some (.int .u64 sn) := cell_of_row2 hlb2 8 rfl
 clear hlb2
 refine wp_loop_rounds 2 ?_
 rw [rounds_succ]
 go_upto_region 6 with fail
 have b3 := below_1 V2 (.cells #[.int .u8 k, .int .u32 fid, .int .u32 dir, .string nm, .int .u32 tof, .string nm2, .int .u16 md, .string dt, .int .u64 sn] 39)
 have g4 := heap_alloc_new V2 (.cells #[.int .u8 k, .int .u32 fid, .int .u32 dir, .string nm, .int .u32 tof, .string nm2, .int .u16 md, .string dt, .int .u64 sn] 39)
 have B3 := hid (B2.out.trans (b3.mono B2.out.size))
 have O3 := hid (O2.out.later b3)
 have T3 := hid (T2.out.later b3)
 have Z3 := hid ((b3.block _ (lt_blkR Z2.out)).trans Z2.out)
 have R3 := (b3.block _ (lt_blkR HR2.out)).trans HR2.out
 have SZ3 : Hid ((V2.alloc (.cells #[.int .u8 k, .int .u32 fid, .int .u32 dir, .string nm, .int .u32 tof, .string nm2, .int .u16 md, .string dt, .int .u64 sn] 39)).heap.size = V2.heap.size + 1) := hid (by simp)
 clear b3 y0 y1 y2 y3 y4 y5 y6 y7 y8
 generalize (V2.alloc (.cells #[.int .u8 k, .int .u32 fid, .int .u32 dir, .string nm, .int .u32 tof, .string nm2, .int .u16 md, .string dt, .int .u64 sn] 39)) = V3 at *
 obtain ⟨rb, hrb⟩ : ∃ rb, rb = V2.heap.size := ⟨_, rfl⟩
 rw [← hrb] at g4 SZ2 SZ3
 rw [← hrb]
 clear hrb
 have n3 : V3.cell? ⟨nb, 3, none⟩ = some (.int .u32 d0) := cell_of_row2 R3 3 rfl
 clear g4
 have hN : num ≤ d0 := hnd
 have n6 : V3.cell? ⟨nb, 6, none⟩ = some (.slice none 0 0) := cell_of_row2 R3 6 rfl
 have HR3 := hid R3
 have SZ4 : Hid (w.heap.size + 1 ≤ V3.heap.size) := hid (by have h2 := GB.out; have h3 := SZ2.out; have h4 := SZ3.out; omega)
 clear R3
 go_upto_region 10 with (first
   | (at_builtin; refine wpList_appE1 _ rfl _ _ rfl (w.heap.size + 1) rfl V3.heap.size 0 rfl (heap_alloc_new V3 _) (by have := SZ4.out; simp; omega) ?_; intro v5 w5 ho5 hg5; have O5 := hid ho5; have D5 := hid ((below_1 V3 (.cells #[.int .i64 0] 28)).grown hg5 (below_1 V3 (.cells #[.int .i64 0] 28)).size (fun k hk => by cases hk)); clear ho5 hg5)
   | (go_at_call 42; refine (verdictOn_none nb 1 num _ n6).mono ?_; rintro _ wz ⟨rfl, hwz⟩; rw [hwz]; clear hwz))
 have R5 := (D5.out.block _ (lt_blkR HR3.out)).trans HR3.out
 have Z5 : Hid (w5.heap[w.heap.size]? = some (.cells #[.slice none 0 0, .slice none 0 0, .int .u64 0, .int .u32 0, .int .u32 0, .int .u32 0, .slice none 0 0] 76 (0, 0))) := hid ((D5.out.block _ (lt_blkR Z3.out)).trans Z3.out)
 have B5 : Hid (Below w.heap.size w w5) := hid (B3.out.trans (D5.out.mono (by have := SZ4.out; omega)))
 obtain ⟨va5, vn5, vc5, hve⟩ := own_sliceY O5.out
 subst hve
 have O5' := hid O5.out
 clear n3 n6
 have q0 : w5.cell? ⟨nb, 0, none⟩ = some (.slice (some ⟨g, 0, none⟩) L.length cap) := cell_of_row2 R5 0 rfl
 have q1 : w5.cell? ⟨nb, 1, none⟩ = some (.slice (some ⟨g2, 0, none⟩) ss.length cap2) := cell_of_row2 R5 1 rfl
 have q2 : w5.cell? ⟨nb, 2, none⟩ = some (.int .u64 ver) := cell_of_row2 R5 2 rfl
 have q3 : w5.cell? ⟨nb, 3, none⟩ = some (.int .u32 d0) := cell_of_row2 R5 3 rfl
 have q4 : w5.cell? ⟨nb, 4, none⟩ = some (.int .u32 d1) := cell_of_row2 R5 4 rfl
 have q5 : w5.cell? ⟨nb, 5, none⟩ = some (.int .u32 d2) := cell_of_row2 R5 5 rfl
 have q6 : w5.cell? ⟨nb, 6, none⟩ = some (.slice none 0 0) := cell_of_row2 R5 6 rfl
 have r0 : w5.cell? ⟨w.heap.size, 0, none⟩ = some (.slice none 0 0) := cell_of_row2 Z5.out 0 rfl
 have r1 : w5.cell? ⟨w.heap.size, 1, none⟩ = some (.slice none 0 0) := cell_of_row2 Z5.out 1 rfl
 have r2 : w5.cell? ⟨w.heap.size, 2, none⟩ = some (.int .u64 0) := cell_of_row2 Z5.out 2 rfl
 have r3 : w5.cell? ⟨w.heap.size, 3, none⟩ = some (.int .u32 0) := cell_of_row2 Z5.out 3 rfl
 have r4 : w5.cell? ⟨w.heap.size, 4, none⟩ = some (.int .u32 0) := cell_of_row2 Z5.out 4 rfl
 have r5 : w5.cell? ⟨w.heap.size, 5, none⟩ = some (.int .u32 0) := cell_of_row2 Z5.out 5 rfl
 have r6 : w5.cell? ⟨w.heap.size, 6, none⟩ = some (.slice none 0 0) := cell_of_row2 Z5.out 6 rfl
 have fz : ∀ i, w5.frozen? ⟨w.heap.size, i, none⟩ = false := fun i => by simp only [World.frozen?, Z5.out]; simp
 go_wp2
 rw [rounds_succ]
 go_wp2
 have Q9 := seven_cells Z5.out (.slice (some ⟨g, 0, none⟩) L.length cap) (.slice (some ⟨g2, 0, none⟩) ss.length cap2) (.int .u64 ver) (.int .u32 d0) (.int .u32 d1) (.int .u32 d2) (.slice none 0 0)
 have B9 := hid (((((((B5.out.setCell (p := ⟨w.heap.size, 0, none⟩) (Nat.le_refl _) (.slice (some ⟨g, 0, none⟩) L.length cap)).setCell (p := ⟨w.heap.size, 1, none⟩) (Nat.le_refl _) (.slice (some ⟨g2, 0, none⟩) ss.length cap2)).setCell (p := ⟨w.heap.size, 2, none⟩) (Nat.le_refl _) (.int .u64 ver)).setCell (p := ⟨w.heap.size, 3, none⟩) (Nat.le_refl _) (.int .u32 d0)).setCell (p := ⟨w.heap.size, 4, none⟩) (Nat.le_refl _) (.int .u32 d1)).setCell (p := ⟨w.heap.size, 5, none⟩) (Nat.le_refl _) (.int .u32 d2)).setCell (p := ⟨w.heap.size, 6, none⟩) (Nat.le_refl _) (.slice none 0 0))
 have K9 : Hid (KeepB (w.heap.size + 1) w5 (((((((w5.setCell ⟨w.heap.size, 0, none⟩ (.slice (some ⟨g, 0, none⟩) L.length cap)).setCell ⟨w.heap.size, 1, none⟩ (.slice (some ⟨g2, 0, none⟩) ss.length cap2)).setCell ⟨w.heap.size, 2, none⟩ (.int .u64 ver)).setCell ⟨w.heap.size, 3, none⟩ (.int .u32 d0)).setCell ⟨w.heap.size, 4, none⟩ (.int .u32 d1)).setCell ⟨w.heap.size, 5, none⟩ (.int .u32 d2)).setCell ⟨w.heap.size, 6, none⟩ (.slice none 0 0))) := hid ((((((((KeepB.stay (Stay.refl w5)).set (o := 0) (v := .slice (some ⟨g, 0, none⟩) L.length cap) (Nat.lt_succ_self _)).set (o := 1) (v := .slice (some ⟨g2, 0, none⟩) ss.length cap2) (Nat.lt_succ_self _)).set (o := 2) (v := .int .u64 ver) (Nat.lt_succ_self _)).set (o := 3) (v := .int .u32 d0) (Nat.lt_succ_self _)).set (o := 4) (v := .int .u32 d1) (Nat.lt_succ_self _)).set (o := 5) (v := .int .u32 d2) (Nat.lt_succ_self _)).set (o := 6) (v := .slice none 0 0) (Nat.lt_succ_self _))
 clear q0 q1 q2 q3 q4 q5 q6 r0 r1 r2 r3 r4 r5 r6 fz R5
 generalize (((((((w5.setCell ⟨w.heap.size, 0, none⟩ (.slice (some ⟨g, 0, none⟩) L.length cap)).setCell ⟨w.heap.size, 1, none⟩ (.slice (some ⟨g2, 0, none⟩) ss.length cap2)).setCell ⟨w.heap.size, 2, none⟩ (.int .u64 ver)).setCell ⟨w.heap.size, 3, none⟩ (.int .u32 d0)).setCell ⟨w.heap.size, 4, none⟩ (.int .u32 d1)).setCell ⟨w.heap.size, 5, none⟩ (.int .u32 d2)).setCell ⟨w.heap.size, 6, none⟩ (.slice none 0 0)) = W9 at *
 have r0 : W9.cell? ⟨w.heap.size, 0, none⟩ = some (.slice (some ⟨g, 0, none⟩) L.length cap) := cell_of_row2 Q9 0 rfl
 have r1 : W9.cell? ⟨w.heap.size, 1, none⟩ = some (.slice (some ⟨g2, 0, none⟩) ss.length cap2) := cell_of_row2 Q9 1 rfl
 have r2 : W9.cell? ⟨w.heap.size, 2, none⟩ = some (.int .u64 ver) := cell_of_row2 Q9 2 rfl
 have r3 : W9.cell? ⟨w.heap.size, 3, none⟩ = some (.int .u32 d0) := cell_of_row2 Q9 3 rfl
 have r4 : W9.cell? ⟨w.heap.size, 4, none⟩ = some (.int .u32 d1) := cell_of_row2 Q9 4 rfl
 have r5 : W9.cell? ⟨w.heap.size, 5, none⟩ = some (.int .u32 d2) := cell_of_row2 Q9 5 rfl
 have r6 : W9.cell? ⟨w.heap.size, 6, none⟩ = some (.slice none 0 0) := cell_of_row2 Q9 6 rfl
 have OF : Hid (OwE W9 (w.heap.size + 1) (.slice va5 vn5 vc5) [0]) := hid (own_kbS O5'.out K9.out)
 refine bodyPost_ret (v := .tuple #[.agg #[.slice (some ⟨g, 0, none⟩) L.length cap, .slice (some ⟨g2, 0, none⟩) ss.length cap2, .int .u64 ver, .int .u32 d0, .int .u32 d1, .int .u32 d2, .slice none 0 0], .slice va5 vn5 vc5]) (by simp [results, Tryz.results21, go_sem, r0, r1, r2, r3, r4, r5, r6]) rfl ⟨_, _, _, _, _, _, _, rfl, OF.out, B9.out⟩
end Go.Proofs.YtpolbbdaippclaaGreat
