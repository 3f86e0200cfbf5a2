/-
  A record of client 1 is done (do), where it can be.
  What became of a record that was done, with no verdicts (verdictOn); append of one error.
  The state behind one record of client 1 (behind): it is new, or was done already.
-/
import Derived.Test.YtpolbbdaippclaaGreatNnBg
import Derived.Test.YtpolbbdaippclaaGreatNnAq
import Derived.Test.YtpolbbdaippclaaGreatNnAu
import Derived.Test.YtpolbbdaippclaaGreatNnBi
namespace Go.Proofs.YtpolbbdaippclaaGreat
open Go.RowKit Go.ChangeShapes Go.WideShapes Go.ChangeAt Go.Maps Go.Shelf
set_option linter.unusedVariables false
set_option linter.unusedSimpArgs false
set_option maxRecDepth 100000
set_option maxHeartbeats 4000000 in
theorem do1_s {b base : Nat} {w : World} (o : Rec) (num : Int) (ad bd : Addr) (ca cb : Nat) (l : List Nd) (ss : List St) (ver d0 d1 d2 : Int) (ve : Value) (L : List Nd)
   (hrow : w.heap[b]? = some (.cells #[.slice (some ad) l.length ca, .slice (some bd) ss.length cb, .int .u64 ver, .int .u32 d0, .int .u32 d1, .int .u32 d2, ve] 76 (0, 0))) (h : NsO w base (.slice (some ad) l.length ca) l) (hs : OwT w base (.slice (some bd) ss.length cb) ss) (hsw : ∀ s ∈ ss, s.Wf) (hll : ss.length = l.length) (hl0 : 0 < l.length) (hm : l.length ≤ 900) (hv0 : 0 ≤ ver) (hv1 : ver + 1 < 18446744073709551616) (ho : o.Wf)
   (CH : ∀ W, Calls Tryz.prog 110 #[.int .u8 o.k] W fun e w' => e = .returned (.bool true) ∧ w' = W)
   (ST : ∀ W, W.heap[b]? = some (.cells #[.slice (some ad) l.length ca, .slice (some bd) ss.length cb, .int .u64 ver, .int .u32 num, .int .u32 d1, .int .u32 d2, ve] 76 (0, 0)) → IsNs W (some ad) l → IsSs W (some bd) ss → Calls Tryz.prog 107 #[.pointer (some ⟨b, 0, none⟩), .int .u8 1, o.recV] W fun e w' => e = .returned (.bool false) ∧ Below W.heap.size W w')
   (AP : ∀ W, Tr W (some ad) l → Calls Tryz.prog 108 #[.slice (some ad) l.length ca, o.opV] W (ResO W (0, L)))
   (hL0 : 0 < L.length) (hL : L.length ≤ 900) (hp : 0 ≤ plI L o.fid) :
   Calls Tryz.prog 43 #[.pointer (some ⟨b, 0, none⟩), .int .u8 1, .int .u32 num, o.recV] w fun e w' => e = .returned (.int .i64 0) ∧ ∃ g cap g2 cap2 L', w'.heap[b]? = some (.cells #[.slice (some ⟨g, 0, none⟩) L'.length cap, .slice (some ⟨g2, 0, none⟩) (stampsS l ss L' o.fid (ver + 1) 1).length cap2, .int .u64 (ver + 1), .int .u32 num, .int .u32 d1, .int .u32 d2, ve] 76 (0, 0)) ∧ NsO w' w.heap.size (.slice (some ⟨g, 0, none⟩) L'.length cap) L' ∧ L'.map Nd.er = L ∧ OwT w' w.heap.size (.slice (some ⟨g2, 0, none⟩) (stampsS l ss L' o.fid (ver + 1) 1).length cap2) (stampsS l ss L' o.fid (ver + 1) 1) ∧ Ou (fun k => k = b) w w' := by
 have b0 := below_1 w (.cells #[.int .u8 o.k, .int .u32 o.fid, .int .u32 o.dir, .string o.nm, .int .u32 o.to, .string o.nm2, .int .u16 o.md, .string o.dt, .int .u64 o.sn] 39)
 have h0 := heap_alloc_new w (.cells #[.int .u8 o.k, .int .u32 o.fid, .int .u32 o.dir, .string o.nm, .int .u32 o.to, .string o.nm2, .int .u16 o.md, .string o.dt, .int .u64 o.sn] 39)
 have hr0 := (b0.block _ (lt_blkR hrow)).trans hrow
 have hbl : b < w.heap.size := lt_blkR hrow
 have hw1 := heap_setCell_same (w.alloc (.cells #[.int .u8 o.k, .int .u32 o.fid, .int .u32 o.dir, .string o.nm, .int .u32 o.to, .string o.nm2, .int .u16 o.md, .string o.dt, .int .u64 o.sn] 39)) b 3 _ _ (.int .u32 num) hr0
 have hx1 : ((w.alloc (.cells #[.int .u8 o.k, .int .u32 o.fid, .int .u32 o.dir, .string o.nm, .int .u32 o.to, .string o.nm2, .int .u16 o.md, .string o.dt, .int .u64 o.sn] 39)).setCell ⟨b, 3, none⟩ (.int .u32 num)).heap[w.heap.size]? = _ := (heap_setCell_other _ ⟨b, 3, none⟩ w.heap.size _ (by show w.heap.size ≠ b; omega)).trans h0
 have N1 := (h.later b0).setS (q := ⟨b, 3, none⟩) hr0 (by decide) (by decide) (by decide) (.int .u32 num)
 have T1 := (hs.later b0).setS (q := ⟨b, 3, none⟩) hr0 (by decide) (.int .u32 num)
 have U1 : Hid (Ou (fun k => k = b) w ((w.alloc (.cells #[.int .u8 o.k, .int .u32 o.fid, .int .u32 o.dir, .string o.nm, .int .u32 o.to, .string o.nm2, .int .u16 o.md, .string o.dt, .int .u64 o.sn] 39)).setCell ⟨b, 3, none⟩ (.int .u32 num))) := hid ((Ou.of b0).set (g := b) (o := 3) (v := .int .u32 num) rfl)
 have hz1 : Hid (w.heap.size ≤ ((w.alloc (.cells #[.int .u8 o.k, .int .u32 o.fid, .int .u32 o.dir, .string o.nm, .int .u32 o.to, .string o.nm2, .int .u16 o.md, .string o.dt, .int .u64 o.sn] 39)).setCell ⟨b, 3, none⟩ (.int .u32 num)).heap.size) := hid (by simp)
 have k3 : (w.alloc (.cells #[.int .u8 o.k, .int .u32 o.fid, .int .u32 o.dir, .string o.nm, .int .u32 o.to, .string o.nm2, .int .u16 o.md, .string o.dt, .int .u64 o.sn] 39)).cell? ⟨b, 3, none⟩ = some (.int .u32 d0) := cell_of_row2 hr0 3 rfl
 have kz : ∀ i, (w.alloc (.cells #[.int .u8 o.k, .int .u32 o.fid, .int .u32 o.dir, .string o.nm, .int .u32 o.to, .string o.nm2, .int .u16 o.md, .string o.dt, .int .u64 o.sn] 39)).frozen? ⟨b, i, none⟩ = false := fun i => by simp only [World.frozen?, hr0]; simp
 obtain ⟨aN, cN, eN, hTr⟩ := h.tr (by omega)
 have TRY := fun (W : World) (hW1 : W.heap[b]? = some (.cells #[.slice (some ad) l.length ca, .slice (some bd) ss.length cb, .int .u64 ver, .int .u32 num, .int .u32 d1, .int .u32 d2, ve] 76 (0, 0))) (hW2 : NsO W base (.slice (some ad) l.length ca) l) (hW3 : OwT W base (.slice (some bd) ss.length cb) ss) => (by
   obtain ⟨g1, c1, e1, _, t1⟩ := OwN.trN hW2.1 (fun x hx => hW2.2 x hx) hl0 (by omega)
   obtain ⟨g2, c2, e2, _, t2⟩ := OwT.is hW3 hsw (by omega) (by omega)
   have q1 : ad = ⟨g1, 0, none⟩ := by simp only [Value.slice.injEq, Option.some.injEq] at e1; exact e1.1
   have q2 : bd = ⟨g2, 0, none⟩ := by simp only [Value.slice.injEq, Option.some.injEq] at e2; exact e2.1
   rw [← q1] at t1
   rw [← q2] at t2
   exact try_c o 1 ad bd ca cb l ss ver num d1 d2 ve L hW1 t1.1 t2 hll hm hv0 hv1 (by decide) ho CH (fun X hX => ST X ((hX.block _ (lt_blkR hW1)).trans hW1) (t1.1.later hX) (t2.later hX)) (fun X hX => AP X (t1.later hX)) hL0 hL hp : Calls Tryz.prog 71 #[.pointer (some ⟨b, 0, none⟩), .int .u8 1, o.recV] W _)
 have TRYH := hid (TRY _ hw1 N1 T1)
 have HX1 := hid hx1
 clear TRY hTr eN h hs hsw hll ST AP CH N1 T1 hrow hr0 hw1 h0 b0 ho hp
 obtain ⟨k, fid, dir, nm, tof, nm2, md, dt, sn⟩ := o
 simp only [Rec.recV] at *
 go_enter Tryz.func43, Tryz.ntmps43
 go_upto_region 1 with fail
 generalize (w.alloc (.cells #[.int .u8 k, .int .u32 fid, .int .u32 dir, .string nm, .int .u32 tof, .string nm2, .int .u16 md, .string dt, .int .u64 sn] 39)) = V0 at *
 go_upto_region 2 with fail
 clear k3 kz
 generalize (V0.setCell ⟨b, 3, none⟩ (.int .u32 num)) = V at *
 have c0 : V.cell? ⟨w.heap.size, 0, none⟩ = some (.int .u8 k) := cell_of_row2 HX1.out 0 rfl
 have c1 : V.cell? ⟨w.heap.size, 1, none⟩ = some (.int .u32 fid) := cell_of_row2 HX1.out 1 rfl
 have c2 : V.cell? ⟨w.heap.size, 2, none⟩ = some (.int .u32 dir) := cell_of_row2 HX1.out 2 rfl
 have c3 : V.cell? ⟨w.heap.size, 3, none⟩ = some (.string nm) := cell_of_row2 HX1.out 3 rfl
 have c4 : V.cell? ⟨w.heap.size, 4, none⟩ = some (.int .u32 tof) := cell_of_row2 HX1.out 4 rfl
 have c5 : V.cell? ⟨w.heap.size, 5, none⟩ = some (.string nm2) := cell_of_row2 HX1.out 5 rfl
 have c6 : V.cell? ⟨w.heap.size, 6, none⟩ = some (.int .u16 md) := cell_of_row2 HX1.out 6 rfl
 have c7 : V.cell? ⟨w.heap.size, 7, none⟩ = some (.string dt) := cell_of_row2 HX1.out 7 rfl
 have c8 : V.cell? ⟨w.heap.size, 8, none⟩ = some (.int .u64 sn) := cell_of_row2 HX1.out 8 rfl
 go_wp2_with (go_at_call 71; refine TRYH.out.mono ?_; rintro _ w1 ⟨rfl, g, cap, g2, cap2, L', hr, hn, he, ht, hu⟩)
 go_ret
 exact ⟨rfl, g, cap, g2, cap2, L', hr, hn.low hz1.out, he, own_low ht hz1.out, U1.out.trans hu⟩
theorem info_er : ∃ i : TypeInfo, Tryz.prog.info? 28 = some i ∧ i.zero = some (.int .i64 0) ∧ i.size = 1 ∧ i.bytes = 8 := by
 have h : (Tryz.prog.info? 28).map (fun i => (i.zero, i.size, i.bytes)) = some (some (.int .i64 0), 1, 8) := by kernel_rfl
 cases hi : Tryz.prog.info? 28 with
 | none => rw [hi] at h; cases h
 | some i => rw [hi] at h; simp at h; exact ⟨i, rfl, h.1, h.2.1, h.2.2⟩
theorem wpList_appE1 (w : World) {ops : Array Oper} {rest : List Oper} {o : Oper} {a : Act} {Q : Exit → Act → World → Prop} (hgd : o.guard = none) (s x : Operand)
   (ho : o.op = .call { callee := .builtin .append, args := #[s, x], argTypes := #[27, 27] }) (base : Nat) (hs : a.eval s = .slice none 0 0)
   (g : Nat) (er : Int) (hx : a.eval x = .slice (some ⟨g, 0, none⟩) 1 1) (hg : w.heap[g]? = some (.cells #[.int .i64 er] 28 (0, 0))) (hb : base ≤ w.heap.size)
   (h : ∀ v' w', OwE w' base v' [er] → w.grownBy w' none → wpList Tryz.prog ops Q rest (a.put o.dst v') w') : wpList Tryz.prog ops Q (o :: rest) a w := by
 obtain ⟨i0, hi, hz0, hz1, hz2⟩ := info_er
 refine wpList_append_own w hgd s x 27 ho base 28 i0 (.int .i64 0) 1 8 Tryz.underlying27 hi hz0 hz1 hz2 rfl (by decide) _ 0 [] hs (World.ownsRow_nil _ _ _ _) ⟨g, 0, none⟩ 1 1 [.int .i64 er] hx rfl (row_news (l := [.int .i64 er]) hg) (fun u hu => by rw [List.mem_singleton] at hu; subst hu; rfl) (by unfold maxLen; omega) (by omega) hb ?_
 intro v' w' h1 h2 _
 exact h v' w' h1 h2
theorem OwE.one {w : World} {base : Nat} {v : Value} {er : Int} (h : OwE w base v [er]) : ∃ g c, v = .slice (some ⟨g, 0, none⟩) 1 c ∧ base ≤ g ∧ w.cell? ⟨g, 0, none⟩ = some (.int .i64 er) := by
 rcases h.2 with ⟨_, e2⟩ | ⟨g, cap, cur, e1, hb, hg, hn, hc, hs, ht⟩
 · cases e2
 · refine ⟨g, cap, e1, hb, ?_⟩
   rw [cell_of_row w g _ _ _ _ hg, ← Array.getElem?_toList]
   have h2 : (cur.toList.take 1)[0]? = some (.int .i64 er) := by
     have : cur.toList.take (1 * 1) = [.int .i64 er] := ht
     rw [show (1 : Nat) = 1 * 1 from rfl, this]; rfl
   rw [List.getElem?_take, if_pos (by omega)] at h2
   exact h2
set_option maxHeartbeats 2000000 in
theorem verdictOn_none (b : Nat) (cl num : Int) (w : World) (h : w.cell? ⟨b, 6, none⟩ = some (.slice none 0 0)) :
   Calls Tryz.prog 42 #[.pointer (some ⟨b, 0, none⟩), .int .u8 cl, .int .u32 num] w fun e w' => e = .returned (.int .i64 0) ∧ w' = w := by
 go_enter Tryz.func42, Tryz.ntmps42
 go_wp2
 refine wp_loop_rounds 1 ?_
 rw [rounds_succ]
 go_wp2
 go_ret
 exact ⟨rfl, rfl⟩
set_option maxHeartbeats 8000000 in
theorem behind1_c (p j lb cl : Nat) (o : Rec) (num : Int) (ad bd : Addr) (ca cb : Nat) (l : List Nd) (ss : List St) (ver d0 d1 d2 : Int) (w : World)
   (hrow : w.heap[p]? = some (.cells #[pB j, .slice (some ad) l.length ca, .slice (some bd) ss.length cb, .int .u64 ver, .int .u32 d0, .int .u32 d1, .int .u32 d2, .slice none 0 0] 79 (0, 0))) (hlb : w.heap[lb]? = some (.cells #[.int .u8 o.k, .int .u32 o.fid, .int .u32 o.dir, .string o.nm, .int .u32 o.to, .string o.nm2, .int .u16 o.md, .string o.dt, .int .u64 o.sn] 39 (0, 0))) (h : Tr w (some ad) l) (hs : IsSs w (some bd) ss) (hl0 : 0 < l.length) (hm : l.length ≤ 900) (hll : ss.length = l.length) (hn0 : 0 ≤ num ∧ num < 4294967296) (hnd : d0 < num) (hv0 : 0 ≤ ver) (hv1 : ver + 1 < 18446744073709551616) (ho : o.Wf) (LF : List Nd)
   (CH : ∀ W, Calls Tryz.prog 110 #[.int .u8 o.k] W fun e w' => e = .returned (.bool true) ∧ w' = W)
   (ST : ∀ (W : World) (b : Nat), Calls Tryz.prog 107 #[.pointer (some ⟨b, 0, none⟩), .int .u8 1, o.recV] W fun e w' => e = .returned (.bool false) ∧ Below W.heap.size W w')
   (AP : ∀ (W : World) (a : Option Addr) (c : Nat) (lw : List Nd), Tr W a lw → lw.map Nd.er = l.map Nd.er → Calls Tryz.prog 108 #[.slice a lw.length c, o.opV] W (ResO W (0, LF)))
   (hL0 : 0 < LF.length) (hL : LF.length ≤ 900) (hp : 0 ≤ plI LF o.fid) :
   Calls Tryz.prog 21 #[.pointer (some ⟨p, 1, none⟩), .int .u8 1, .int .u32 num, .slice (some ⟨lb, 0, none⟩) 1 cl] w fun e w' => ∃ g cap g2 cap2 L' ve, e = .returned (.tuple #[.agg #[.slice (some ⟨g, 0, none⟩) L'.length cap, .slice (some ⟨g2, 0, none⟩) (stampsS (l.map Nd.er) ss LF o.fid (ver + 1) 1).length cap2, .int .u64 (ver + 1), .int .u32 num, .int .u32 d1, .int .u32 d2, .slice none 0 0], ve]) ∧ NsO w' (w.heap.size + 1) (.slice (some ⟨g, 0, none⟩) L'.length cap) L' ∧ L'.map Nd.er = LF ∧ OwT w' (w.heap.size + 1) (.slice (some ⟨g2, 0, none⟩) (stampsS (l.map Nd.er) ss LF o.fid (ver + 1) 1).length cap2) (stampsS (l.map Nd.er) ss LF o.fid (ver + 1) 1) ∧ OwE w' (w.heap.size + 1) ve [0] ∧ Below w.heap.size w w' := by
 have HO := hid ho
 have CHH := hid CH
 have STH := hid ST
 have APH := hid AP
 have HP := hid hp
 clear ho CH ST AP hp
 have HROW := hid hrow
 have HLB := hid hlb
 have HT := hid h
 have HS := hid hs
 have HLL := hid hll
 have HSW := hid hs.2.1
 have hss0 : 0 < ss.length := by omega
 have hssm : ss.length ≤ 900 := by omega
 have b1 := below_1 w (.cells #[.slice none 0 0, .slice none 0 0, .int .u64 0, .int .u32 0, .int .u32 0, .int .u32 0, .slice none 0 0] 76)
 have g1 := heap_alloc_new w (.cells #[.slice none 0 0, .slice none 0 0, .int .u64 0, .int .u32 0, .int .u32 0, .int .u32 0, .slice none 0 0] 76)
 have B1 := hid b1
 have HZ := hid g1
 have LV : Hid ((w.alloc (.cells #[.slice none 0 0, .slice none 0 0, .int .u64 0, .int .u32 0, .int .u32 0, .int .u32 0, .slice none 0 0] 76)).heap.size = w.heap.size + 1) := hid (by simp)
 have wn : IntKind.u32.wrap (num + 0) = num := by rw [IntKind.wrap_u32]; omega
 have wn2 : IntKind.u32.wrap num = num := by rw [IntKind.wrap_u32]; omega
 have CC := hid (copied_c p j ad bd ca cb l ss ver d0 d1 d2 _ ((b1.block _ (lt_blkR hrow)).trans hrow) (h.later b1) (hs.later b1) hm hssm)
 clear b1 g1 h hs hrow hlb hll
 go_enter Tryz.func21, Tryz.ntmps21
 go_upto_region 1 with fail
 generalize (w.alloc (.cells #[.slice none 0 0, .slice none 0 0, .int .u64 0, .int .u32 0, .int .u32 0, .int .u32 0, .slice none 0 0] 76)) = V at *
 go_upto_region 2 with (go_at_call 34; refine CC.out.mono ?_; rintro _ w1 ⟨v1, u1, L, rfl, ho1, he1, hn1, ht1, hb1⟩; have hLl : L.length = l.length := (by have := congrArg List.length he1; simpa using this); obtain ⟨g, cap, rfl, hgb, htr⟩ := OwN.trN ho1 hn1 (by omega) (by omega); obtain ⟨g2, cap2, rfl, hgb2, hst⟩ := OwT.is ht1 HSW.out hss0 (by omega); have O1 : Hid (NsO w1 V.heap.size (.slice (some ⟨g, 0, none⟩) L.length cap) L) := hid ⟨ho1, hn1⟩; have E1 := hid he1; have T1 := hid ht1; have D1 := hid hb1; have LL := hid hLl; clear ho1 he1 hn1 ht1 hb1 hLl htr hst hgb hgb2)
 have b2 := below_1 w1 (.cells #[.slice (some ⟨g, 0, none⟩) L.length cap, .slice (some ⟨g2, 0, none⟩) ss.length cap2, .int .u64 ver, .int .u32 d0, .int .u32 d1, .int .u32 d2, .slice none 0 0] 76)
 have g3 := heap_alloc_new w1 (.cells #[.slice (some ⟨g, 0, none⟩) L.length cap, .slice (some ⟨g2, 0, none⟩) ss.length cap2, .int .u64 ver, .int .u32 d0, .int .u32 d1, .int .u32 d2, .slice none 0 0] 76)
 have B2 := hid ((B1.out.trans (D1.out.mono B1.out.size)).trans (b2.mono (Nat.le_trans B1.out.size D1.out.size)))
 have O2 := hid (O1.out.later b2)
 have T2 := hid (T1.out.later b2)
 have Z2 : Hid ((w1.alloc (.cells #[.slice (some ⟨g, 0, none⟩) L.length cap, .slice (some ⟨g2, 0, none⟩) ss.length cap2, .int .u64 ver, .int .u32 d0, .int .u32 d1, .int .u32 d2, .slice none 0 0] 76)).heap[w.heap.size]? = some (.cells #[.slice none 0 0, .slice none 0 0, .int .u64 0, .int .u32 0, .int .u32 0, .int .u32 0, .slice none 0 0] 76 (0, 0))) := hid ((b2.block _ (Nat.lt_of_lt_of_le (lt_blkR HZ.out) D1.out.size)).trans ((D1.out.block _ (lt_blkR HZ.out)).trans HZ.out))
 have GB : Hid (w.heap.size < w1.heap.size) := hid (Nat.lt_of_lt_of_le (lt_blkR HZ.out) D1.out.size)
 have SZ2 : Hid ((w1.alloc (.cells #[.slice (some ⟨g, 0, none⟩) L.length cap, .slice (some ⟨g2, 0, none⟩) ss.length cap2, .int .u64 ver, .int .u32 d0, .int .u32 d1, .int .u32 d2, .slice none 0 0] 76)).heap.size = w1.heap.size + 1) := hid (by simp)
 clear b2
 generalize (w1.alloc (.cells #[.slice (some ⟨g, 0, none⟩) L.length cap, .slice (some ⟨g2, 0, none⟩) ss.length cap2, .int .u64 ver, .int .u32 d0, .int .u32 d1, .int .u32 d2, .slice none 0 0] 76)) = V2 at *
 obtain ⟨nb, hnb⟩ : ∃ nb, nb = w1.heap.size := ⟨_, rfl⟩
 rw [← hnb] at g3 GB SZ2
 rw [← hnb]
 clear hnb
 have HR2 := hid g3
 clear g3
 have hlb2 := (B2.out.block _ (lt_blkR HLB.out)).trans HLB.out
 go_upto_region 4 with fail
 obtain ⟨k, fid, dir, nm, tof, nm2, md, dt, sn⟩ := o
 simp only [Rec.recV, Rec.opV] at *
 have y0 : V2.cell? ⟨lb, 0, none⟩ = some (.int .u8 k) := cell_of_row2 hlb2 0 rfl
 have y1 : V2.cell? ⟨lb, 1, none⟩ = some (.int .u32 fid) := cell_of_row2 hlb2 1 rfl
 have y2 : V2.cell? ⟨lb, 2, none⟩ = some (.int .u32 dir) := cell_of_row2 hlb2 2 rfl
 have y3 : V2.cell? ⟨lb, 3, none⟩ = some (.string nm) := cell_of_row2 hlb2 3 rfl
 have y4 : V2.cell? ⟨lb, 4, none⟩ = some (.int .u32 tof) := cell_of_row2 hlb2 4 rfl
 have y5 : V2.cell? ⟨lb, 5, none⟩ = some (.string nm2) := cell_of_row2 hlb2 5 rfl
 have y6 : V2.cell? ⟨lb, 6, none⟩ = some (.int .u16 md) := cell_of_row2 hlb2 6 rfl
 have y7 : V2.cell? ⟨lb, 7, none⟩ = some (.string dt) := cell_of_row2 hlb2 7 rfl
 have y8 : V2.cell? ⟨lb, 8, none⟩ = some (.int .u64 sn) := cell_of_row2 hlb2 8 rfl
 clear hlb2
 refine wp_loop_rounds 2 ?_
 rw [rounds_succ]
 go_upto_region 6 with fail
 have b3 := below_1 V2 (.cells #[.int .u8 k, .int .u32 fid, .int .u32 dir, .string nm, .int .u32 tof, .string nm2, .int .u16 md, .string dt, .int .u64 sn] 39)
 have g4 := heap_alloc_new V2 (.cells #[.int .u8 k, .int .u32 fid, .int .u32 dir, .string nm, .int .u32 tof, .string nm2, .int .u16 md, .string dt, .int .u64 sn] 39)
 have B3 := hid (B2.out.trans (b3.mono B2.out.size))
 have O3 := hid (O2.out.later b3)
 have T3 := hid (T2.out.later b3)
 have Z3 := hid ((b3.block _ (lt_blkR Z2.out)).trans Z2.out)
 have R3 := (b3.block _ (lt_blkR HR2.out)).trans HR2.out
 have SZ3 : Hid ((V2.alloc (.cells #[.int .u8 k, .int .u32 fid, .int .u32 dir, .string nm, .int .u32 tof, .string nm2, .int .u16 md, .string dt, .int .u64 sn] 39)).heap.size = V2.heap.size + 1) := hid (by simp)
 clear b3 y0 y1 y2 y3 y4 y5 y6 y7 y8
 generalize (V2.alloc (.cells #[.int .u8 k, .int .u32 fid, .int .u32 dir, .string nm, .int .u32 tof, .string nm2, .int .u16 md, .string dt, .int .u64 sn] 39)) = V3 at *
 obtain ⟨rb, hrb⟩ : ∃ rb, rb = V2.heap.size := ⟨_, rfl⟩
 rw [← hrb] at g4 SZ2 SZ3
 rw [← hrb]
 clear hrb
 have n3 : V3.cell? ⟨nb, 3, none⟩ = some (.int .u32 d0) := cell_of_row2 R3 3 rfl
 have hN : ¬ num ≤ d0 := by omega
 have HG4 := hid g4
 have x0 : V3.cell? ⟨rb, 0, none⟩ = some (.int .u8 k) := cell_of_row2 g4 0 rfl
 have x1 : V3.cell? ⟨rb, 1, none⟩ = some (.int .u32 fid) := cell_of_row2 g4 1 rfl
 have x2 : V3.cell? ⟨rb, 2, none⟩ = some (.int .u32 dir) := cell_of_row2 g4 2 rfl
 have x3 : V3.cell? ⟨rb, 3, none⟩ = some (.string nm) := cell_of_row2 g4 3 rfl
 have x4 : V3.cell? ⟨rb, 4, none⟩ = some (.int .u32 tof) := cell_of_row2 g4 4 rfl
 have x5 : V3.cell? ⟨rb, 5, none⟩ = some (.string nm2) := cell_of_row2 g4 5 rfl
 have x6 : V3.cell? ⟨rb, 6, none⟩ = some (.int .u16 md) := cell_of_row2 g4 6 rfl
 have x7 : V3.cell? ⟨rb, 7, none⟩ = some (.string dt) := cell_of_row2 g4 7 rfl
 have x8 : V3.cell? ⟨rb, 8, none⟩ = some (.int .u64 sn) := cell_of_row2 g4 8 rfl
 have DO := hid (do1_s ⟨k, fid, dir, nm, tof, nm2, md, dt, sn⟩ num ⟨g, 0, none⟩ ⟨g2, 0, none⟩ cap cap2 L ss ver d0 d1 d2 (.slice none 0 0) LF R3 O3.out T3.out HSW.out (by rw [LL.out]; exact HLL.out) (by rw [LL.out]; exact hl0) (by rw [LL.out]; exact hm) hv0 hv1 HO.out CHH.out (fun W _ _ _ => STH.out W nb) (fun W hW => APH.out W _ cap L hW E1.out) hL0 hL HP.out)
 simp only [Rec.recV] at DO
 clear g4 R3
 go_upto_region 10 with (first
   | (at_builtin; refine wpList_appE1 _ rfl _ _ rfl (w.heap.size + 1) rfl w4.heap.size 0 rfl (heap_alloc_new w4 _) (by have := SZ4.out; simp; omega) ?_; intro v5 w5 ho5 hg5; have O5 := hid ho5; have D5 := hid ((below_1 w4 (.cells #[.int .i64 0] 28)).grown hg5 (below_1 w4 (.cells #[.int .i64 0] 28)).size (fun k hk => by cases hk)); clear ho5 hg5)
   | (go_at_call 43; refine DO.out.mono ?_; rintro _ w4 ⟨rfl, g5, cap5, g6, cap6, L', hr4, hn4, he4, ht4, hu4⟩; have R4 := hid hr4; have N4 := hid hn4; have E4 := hid he4; have T4 := hid ht4; have U4 := hid hu4; have SZ4 : Hid (w.heap.size + 1 ≤ w4.heap.size) := hid (by have h1 := hu4.size; have h2 := GB.out; have h3 := SZ2.out; have h4 := SZ3.out; omega); clear hr4 hn4 he4 ht4 hu4))
 have ZV : w.heap.size + 1 ≤ V3.heap.size := by have h2 := GB.out; have h3 := SZ2.out; have h4 := SZ3.out; omega
 have R5 := (D5.out.block _ (lt_blkR R4.out)).trans R4.out
 have Z5 : Hid (w5.heap[w.heap.size]? = some (.cells #[.slice none 0 0, .slice none 0 0, .int .u64 0, .int .u32 0, .int .u32 0, .int .u32 0, .slice none 0 0] 76 (0, 0))) := hid (by
   have h4 := (U4.out.block w.heap.size (by omega) (by have := GB.out; omega)).trans Z3.out
   exact (D5.out.block _ (lt_blkR h4)).trans h4)
 have B5 : Hid (Below w.heap.size w w5) := hid (B3.out.trans ((U4.out.below (B := w.heap.size) (by omega) (fun k hk => by have := GB.out; omega)).trans (D5.out.mono (by have := SZ4.out; omega))))
 have SQ : Hid (stampsS L ss L' fid (ver + 1) 1 = stampsS (l.map Nd.er) ss LF fid (ver + 1) 1) := hid (by rw [← stampsS_er, E1.out, E4.out])
 have N5 := hid ((N4.out.low ZV).later D5.out)
 have T5 : Hid (OwT w5 (w.heap.size + 1) (.slice (some ⟨g6, 0, none⟩) (stampsS (l.map Nd.er) ss LF fid (ver + 1) 1).length cap6) (stampsS (l.map Nd.er) ss LF fid (ver + 1) 1)) := hid (by
   have h := own_low (T4.out.later D5.out) ZV
   rw [SQ.out] at h
   exact h)
 obtain ⟨sl, hsl⟩ : ∃ sl, sl = (stampsS (l.map Nd.er) ss LF fid (ver + 1) 1).length := ⟨_, rfl⟩
 rw [SQ.out, ← hsl] at R5
 have HSLN := hid hsl
 obtain ⟨va5, vn5, vc5, hve⟩ := own_sliceY O5.out
 subst hve
 have O5' := hid O5.out
 clear hsl n3 x0 x1 x2 x3 x4 x5 x6 x7 x8
 have q0 : w5.cell? ⟨nb, 0, none⟩ = some (.slice (some ⟨g5, 0, none⟩) L'.length cap5) := cell_of_row2 R5 0 rfl
 have q1 : w5.cell? ⟨nb, 1, none⟩ = some (.slice (some ⟨g6, 0, none⟩) sl cap6) := cell_of_row2 R5 1 rfl
 have q2 : w5.cell? ⟨nb, 2, none⟩ = some (.int .u64 (ver + 1)) := cell_of_row2 R5 2 rfl
 have q3 : w5.cell? ⟨nb, 3, none⟩ = some (.int .u32 num) := cell_of_row2 R5 3 rfl
 have q4 : w5.cell? ⟨nb, 4, none⟩ = some (.int .u32 d1) := cell_of_row2 R5 4 rfl
 have q5 : w5.cell? ⟨nb, 5, none⟩ = some (.int .u32 d2) := cell_of_row2 R5 5 rfl
 have q6 : w5.cell? ⟨nb, 6, none⟩ = some (.slice none 0 0) := cell_of_row2 R5 6 rfl
 have r0 : w5.cell? ⟨w.heap.size, 0, none⟩ = some (.slice none 0 0) := cell_of_row2 Z5.out 0 rfl
 have r1 : w5.cell? ⟨w.heap.size, 1, none⟩ = some (.slice none 0 0) := cell_of_row2 Z5.out 1 rfl
 have r2 : w5.cell? ⟨w.heap.size, 2, none⟩ = some (.int .u64 0) := cell_of_row2 Z5.out 2 rfl
 have r3 : w5.cell? ⟨w.heap.size, 3, none⟩ = some (.int .u32 0) := cell_of_row2 Z5.out 3 rfl
 have r4 : w5.cell? ⟨w.heap.size, 4, none⟩ = some (.int .u32 0) := cell_of_row2 Z5.out 4 rfl
 have r5 : w5.cell? ⟨w.heap.size, 5, none⟩ = some (.int .u32 0) := cell_of_row2 Z5.out 5 rfl
 have r6 : w5.cell? ⟨w.heap.size, 6, none⟩ = some (.slice none 0 0) := cell_of_row2 Z5.out 6 rfl
 have fz : ∀ i, w5.frozen? ⟨w.heap.size, i, none⟩ = false := fun i => by simp only [World.frozen?, Z5.out]; simp
 go_wp2
 rw [rounds_succ]
 go_wp2
 have Q9 := seven_cells Z5.out (.slice (some ⟨g5, 0, none⟩) L'.length cap5) (.slice (some ⟨g6, 0, none⟩) sl cap6) (.int .u64 (ver + 1)) (.int .u32 num) (.int .u32 d1) (.int .u32 d2) (.slice none 0 0)
 have B9 := hid (((((((B5.out.setCell (p := ⟨w.heap.size, 0, none⟩) (Nat.le_refl _) (.slice (some ⟨g5, 0, none⟩) L'.length cap5)).setCell (p := ⟨w.heap.size, 1, none⟩) (Nat.le_refl _) (.slice (some ⟨g6, 0, none⟩) sl cap6)).setCell (p := ⟨w.heap.size, 2, none⟩) (Nat.le_refl _) (.int .u64 (ver + 1))).setCell (p := ⟨w.heap.size, 3, none⟩) (Nat.le_refl _) (.int .u32 num)).setCell (p := ⟨w.heap.size, 4, none⟩) (Nat.le_refl _) (.int .u32 d1)).setCell (p := ⟨w.heap.size, 5, none⟩) (Nat.le_refl _) (.int .u32 d2)).setCell (p := ⟨w.heap.size, 6, none⟩) (Nat.le_refl _) (.slice none 0 0))
 have K9 : Hid (KeepB (w.heap.size + 1) w5 (((((((w5.setCell ⟨w.heap.size, 0, none⟩ (.slice (some ⟨g5, 0, none⟩) L'.length cap5)).setCell ⟨w.heap.size, 1, none⟩ (.slice (some ⟨g6, 0, none⟩) sl cap6)).setCell ⟨w.heap.size, 2, none⟩ (.int .u64 (ver + 1))).setCell ⟨w.heap.size, 3, none⟩ (.int .u32 num)).setCell ⟨w.heap.size, 4, none⟩ (.int .u32 d1)).setCell ⟨w.heap.size, 5, none⟩ (.int .u32 d2)).setCell ⟨w.heap.size, 6, none⟩ (.slice none 0 0))) := hid ((((((((KeepB.stay (Stay.refl w5)).set (o := 0) (v := .slice (some ⟨g5, 0, none⟩) L'.length cap5) (Nat.lt_succ_self _)).set (o := 1) (v := .slice (some ⟨g6, 0, none⟩) sl cap6) (Nat.lt_succ_self _)).set (o := 2) (v := .int .u64 (ver + 1)) (Nat.lt_succ_self _)).set (o := 3) (v := .int .u32 num) (Nat.lt_succ_self _)).set (o := 4) (v := .int .u32 d1) (Nat.lt_succ_self _)).set (o := 5) (v := .int .u32 d2) (Nat.lt_succ_self _)).set (o := 6) (v := .slice none 0 0) (Nat.lt_succ_self _))
 clear q0 q1 q2 q3 q4 q5 q6 r0 r1 r2 r3 r4 r5 r6 fz R5
 generalize (((((((w5.setCell ⟨w.heap.size, 0, none⟩ (.slice (some ⟨g5, 0, none⟩) L'.length cap5)).setCell ⟨w.heap.size, 1, none⟩ (.slice (some ⟨g6, 0, none⟩) sl cap6)).setCell ⟨w.heap.size, 2, none⟩ (.int .u64 (ver + 1))).setCell ⟨w.heap.size, 3, none⟩ (.int .u32 num)).setCell ⟨w.heap.size, 4, none⟩ (.int .u32 d1)).setCell ⟨w.heap.size, 5, none⟩ (.int .u32 d2)).setCell ⟨w.heap.size, 6, none⟩ (.slice none 0 0)) = W9 at *
 have r0 : W9.cell? ⟨w.heap.size, 0, none⟩ = some (.slice (some ⟨g5, 0, none⟩) L'.length cap5) := cell_of_row2 Q9 0 rfl
 have r1 : W9.cell? ⟨w.heap.size, 1, none⟩ = some (.slice (some ⟨g6, 0, none⟩) sl cap6) := cell_of_row2 Q9 1 rfl
 have r2 : W9.cell? ⟨w.heap.size, 2, none⟩ = some (.int .u64 (ver + 1)) := cell_of_row2 Q9 2 rfl
 have r3 : W9.cell? ⟨w.heap.size, 3, none⟩ = some (.int .u32 num) := cell_of_row2 Q9 3 rfl
 have r4 : W9.cell? ⟨w.heap.size, 4, none⟩ = some (.int .u32 d1) := cell_of_row2 Q9 4 rfl
 have r5 : W9.cell? ⟨w.heap.size, 5, none⟩ = some (.int .u32 d2) := cell_of_row2 Q9 5 rfl
 have r6 : W9.cell? ⟨w.heap.size, 6, none⟩ = some (.slice none 0 0) := cell_of_row2 Q9 6 rfl
 have NF := hid (N5.out.kb K9.out)
 have TF := hid (T5.out.kb K9.out)
 have OF : Hid (OwE W9 (w.heap.size + 1) (.slice va5 vn5 vc5) [0]) := hid (own_kbS O5'.out K9.out)
 refine bodyPost_ret (v := .tuple #[.agg #[.slice (some ⟨g5, 0, none⟩) L'.length cap5, .slice (some ⟨g6, 0, none⟩) sl cap6, .int .u64 (ver + 1), .int .u32 num, .int .u32 d1, .int .u32 d2, .slice none 0 0], .slice va5 vn5 vc5]) (by simp [results, Tryz.results21, go_sem, r0, r1, r2, r3, r4, r5, r6]) rfl ⟨g5, cap5, g6, cap6, L', _, by rw [HSLN.out], NF.out, E4.out, TF.out, OF.out, B9.out⟩
set_option maxHeartbeats 8000000 in
theorem behind1_old (p j lb cl : Nat) (o : Rec) (num : Int) (ad bd : Addr) (ca cb : Nat) (l : List Nd) (ss : List St) (ver d0 d1 d2 : Int) (w : World)
   (hrow : w.heap[p]? = some (.cells #[pB j, .slice (some ad) l.length ca, .slice (some bd) ss.length cb, .int .u64 ver, .int .u32 d0, .int .u32 d1, .int .u32 d2, .slice none 0 0] 79 (0, 0))) (hlb : w.heap[lb]? = some (.cells #[.int .u8 o.k, .int .u32 o.fid, .int .u32 o.dir, .string o.nm, .int .u32 o.to, .string o.nm2, .int .u16 o.md, .string o.dt, .int .u64 o.sn] 39 (0, 0))) (h : Tr w (some ad) l) (hs : IsSs w (some bd) ss) (hl0 : 0 < l.length) (hm : l.length ≤ 900) (hll : ss.length = l.length) (hn0 : 0 ≤ num ∧ num < 4294967296) (hnd : num ≤ d0) :
   Calls Tryz.prog 21 #[.pointer (some ⟨p, 1, none⟩), .int .u8 1, .int .u32 num, .slice (some ⟨lb, 0, none⟩) 1 cl] w fun e w' => ∃ ag ng cg ah nh ch ve, e = .returned (.tuple #[.agg #[.slice ag ng cg, .slice ah nh ch, .int .u64 ver, .int .u32 d0, .int .u32 d1, .int .u32 d2, .slice none 0 0], ve]) ∧ OwE w' (w.heap.size + 1) ve [0] ∧ Below w.heap.size w w' := by
 have HROW := hid hrow
 have HLB := hid hlb
 have HT := hid h
 have HS := hid hs
 have HLL := hid hll
 have HSW := hid hs.2.1
 have hss0 : 0 < ss.length := by omega
 have hssm : ss.length ≤ 900 := by omega
 have b1 := below_1 w (.cells #[.slice none 0 0, .slice none 0 0, .int .u64 0, .int .u32 0, .int .u32 0, .int .u32 0, .slice none 0 0] 76)
 have g1 := heap_alloc_new w (.cells #[.slice none 0 0, .slice none 0 0, .int .u64 0, .int .u32 0, .int .u32 0, .int .u32 0, .slice none 0 0] 76)
 have B1 := hid b1
 have HZ := hid g1
 have LV : Hid ((w.alloc (.cells #[.slice none 0 0, .slice none 0 0, .int .u64 0, .int .u32 0, .int .u32 0, .int .u32 0, .slice none 0 0] 76)).heap.size = w.heap.size + 1) := hid (by simp)
 have wn : IntKind.u32.wrap (num + 0) = num := by rw [IntKind.wrap_u32]; omega
 have wn2 : IntKind.u32.wrap num = num := by rw [IntKind.wrap_u32]; omega
 have CC := hid (copied_c p j ad bd ca cb l ss ver d0 d1 d2 _ ((b1.block _ (lt_blkR hrow)).trans hrow) (h.later b1) (hs.later b1) hm hssm)
 clear b1 g1 h hs hrow hlb hll
 go_enter Tryz.func21, Tryz.ntmps21
 go_upto_region 1 with fail
 generalize (w.alloc (.cells #[.slice none 0 0, .slice none 0 0, .int .u64 0, .int .u32 0, .int .u32 0, .int .u32 0, .slice none 0 0] 76)) = V at *
 go_upto_region 2 with (go_at_call 34; refine CC.out.mono ?_; rintro _ w1 ⟨v1, u1, L, rfl, ho1, he1, hn1, ht1, hb1⟩; have hLl : L.length = l.length := (by have := congrArg List.length he1; simpa using this); obtain ⟨g, cap, rfl, hgb, htr⟩ := OwN.trN ho1 hn1 (by omega) (by omega); obtain ⟨g2, cap2, rfl, hgb2, hst⟩ := OwT.is ht1 HSW.out hss0 (by omega); have O1 : Hid (NsO w1 V.heap.size (.slice (some ⟨g, 0, none⟩) L.length cap) L) := hid ⟨ho1, hn1⟩; have E1 := hid he1; have T1 := hid ht1; have D1 := hid hb1; have LL := hid hLl; clear ho1 he1 hn1 ht1 hb1 hLl htr hst hgb hgb2)
 have b2 := below_1 w1 (.cells #[.slice (some ⟨g, 0, none⟩) L.length cap, .slice (some ⟨g2, 0, none⟩) ss.length cap2, .int .u64 ver, .int .u32 d0, .int .u32 d1, .int .u32 d2, .slice none 0 0] 76)
 have g3 := heap_alloc_new w1 (.cells #[.slice (some ⟨g, 0, none⟩) L.length cap, .slice (some ⟨g2, 0, none⟩) ss.length cap2, .int .u64 ver, .int .u32 d0, .int .u32 d1, .int .u32 d2, .slice none 0 0] 76)
 have B2 := hid ((B1.out.trans (D1.out.mono B1.out.size)).trans (b2.mono (Nat.le_trans B1.out.size D1.out.size)))
 have O2 := hid (O1.out.later b2)
 have T2 := hid (T1.out.later b2)
 have Z2 : Hid ((w1.alloc (.cells #[.slice (some ⟨g, 0, none⟩) L.length cap, .slice (some ⟨g2, 0, none⟩) ss.length cap2, .int .u64 ver, .int .u32 d0, .int .u32 d1, .int .u32 d2, .slice none 0 0] 76)).heap[w.heap.size]? = some (.cells #[.slice none 0 0, .slice none 0 0, .int .u64 0, .int .u32 0, .int .u32 0, .int .u32 0, .slice none 0 0] 76 (0, 0))) := hid ((b2.block _ (Nat.lt_of_lt_of_le (lt_blkR HZ.out) D1.out.size)).trans ((D1.out.block _ (lt_blkR HZ.out)).trans HZ.out))
 have GB : Hid (w.heap.size < w1.heap.size) := hid (Nat.lt_of_lt_of_le (lt_blkR HZ.out) D1.out.size)
 have SZ2 : Hid ((w1.alloc (.cells #[.slice (some ⟨g, 0, none⟩) L.length cap, .slice (some ⟨g2, 0, none⟩) ss.length cap2, .int .u64 ver, .int .u32 d0, .int .u32 d1, .int .u32 d2, .slice none 0 0] 76)).heap.size = w1.heap.size + 1) := hid (by simp)
 clear b2
 generalize (w1.alloc (.cells #[.slice (some ⟨g, 0, none⟩) L.length cap, .slice (some ⟨g2, 0, none⟩) ss.length cap2, .int .u64 ver, .int .u32 d0, .int .u32 d1, .int .u32 d2, .slice none 0 0] 76)) = V2 at *
 obtain ⟨nb, hnb⟩ : ∃ nb, nb = w1.heap.size := ⟨_, rfl⟩
 rw [← hnb] at g3 GB SZ2
 rw [← hnb]
 clear hnb
 have HR2 := hid g3
 clear g3
 have hlb2 := (B2.out.block _ (lt_blkR HLB.out)).trans HLB.out
 go_upto_region 4 with fail
 obtain ⟨k, fid, dir, nm, tof, nm2, md, dt, sn⟩ := o
 simp only [Rec.recV, Rec.opV] at *
 have y0 : V2.cell? ⟨lb, 0, none⟩ = some (.int .u8 k) := cell_of_row2 hlb2 0 rfl
 have y1 : V2.cell? ⟨lb, 1, none⟩ = some (.int .u32 fid) := cell_of_row2 hlb2 1 rfl
 have y2 : V2.cell? ⟨lb, 2, none⟩ = some (.int .u32 dir) := cell_of_row2 hlb2 2 rfl
 have y3 : V2.cell? ⟨lb, 3, none⟩ = some (.string nm) := cell_of_row2 hlb2 3 rfl
 have y4 : V2.cell? ⟨lb, 4, none⟩ = some (.int .u32 tof) := cell_of_row2 hlb2 4 rfl
 have y5 : V2.cell? ⟨lb, 5, none⟩ = some (.string nm2) := cell_of_row2 hlb2 5 rfl
 have y6 : V2.cell? ⟨lb, 6, none⟩ = some (.int .u16 md) := cell_of_row2 hlb2 6 rfl
 have y7 : V2.cell? ⟨lb, 7, none⟩ = some (.string dt) := cell_of_row2 hlb2 7 rfl
 have y8 : V2.cell? ⟨lb, 8, none⟩ = some (.int .u64 sn) := cell_of_row2 hlb2 8 rfl
 clear hlb2
 refine wp_loop_rounds 2 ?_
 rw [rounds_succ]
 go_upto_region 6 with fail
 have b3 := below_1 V2 (.cells #[.int .u8 k, .int .u32 fid, .int .u32 dir, .string nm, .int .u32 tof, .string nm2, .int .u16 md, .string dt, .int .u64 sn] 39)
 have g4 := heap_alloc_new V2 (.cells #[.int .u8 k, .int .u32 fid, .int .u32 dir, .string nm, .int .u32 tof, .string nm2, .int .u16 md, .string dt, .int .u64 sn] 39)
 have B3 := hid (B2.out.trans (b3.mono B2.out.size))
 have O3 := hid (O2.out.later b3)
 have T3 := hid (T2.out.later b3)
 have Z3 := hid ((b3.block _ (lt_blkR Z2.out)).trans Z2.out)
 have R3 := (b3.block _ (lt_blkR HR2.out)).trans HR2.out
 have SZ3 : Hid ((V2.alloc (.cells #[.int .u8 k, .int .u32 fid, .int .u32 dir, .string nm, .int .u32 tof, .string nm2, .int .u16 md, .string dt, .int .u64 sn] 39)).heap.size = V2.heap.size + 1) := hid (by simp)
 clear b3 y0 y1 y2 y3 y4 y5 y6 y7 y8
 generalize (V2.alloc (.cells #[.int .u8 k, .int .u32 fid, .int .u32 dir, .string nm, .int .u32 tof, .string nm2, .int .u16 md, .string dt, .int .u64 sn] 39)) = V3 at *
 obtain ⟨rb, hrb⟩ : ∃ rb, rb = V2.heap.size := ⟨_, rfl⟩
 rw [← hrb] at g4 SZ2 SZ3
 rw [← hrb]
 clear hrb
 have n3 : V3.cell? ⟨nb, 3, none⟩ = some (.int .u32 d0) := cell_of_row2 R3 3 rfl
 clear g4
 have hN : num ≤ d0 := hnd
 have n6 : V3.cell? ⟨nb, 6, none⟩ = some (.slice none 0 0) := cell_of_row2 R3 6 rfl
 have HR3 := hid R3
 have SZ4 : Hid (w.heap.size + 1 ≤ V3.heap.size) := hid (by have h2 := GB.out; have h3 := SZ2.out; have h4 := SZ3.out; omega)
 clear R3
 go_upto_region 10 with (first
   | (at_builtin; refine wpList_appE1 _ rfl _ _ rfl (w.heap.size + 1) rfl V3.heap.size 0 rfl (heap_alloc_new V3 _) (by have := SZ4.out; simp; omega) ?_; intro v5 w5 ho5 hg5; have O5 := hid ho5; have D5 := hid ((below_1 V3 (.cells #[.int .i64 0] 28)).grown hg5 (below_1 V3 (.cells #[.int .i64 0] 28)).size (fun k hk => by cases hk)); clear ho5 hg5)
   | (go_at_call 42; refine (verdictOn_none nb 1 num _ n6).mono ?_; rintro _ wz ⟨rfl, hwz⟩; rw [hwz]; clear hwz))
 have R5 := (D5.out.block _ (lt_blkR HR3.out)).trans HR3.out
 have Z5 : Hid (w5.heap[w.heap.size]? = some (.cells #[.slice none 0 0, .slice none 0 0, .int .u64 0, .int .u32 0, .int .u32 0, .int .u32 0, .slice none 0 0] 76 (0, 0))) := hid ((D5.out.block _ (lt_blkR Z3.out)).trans Z3.out)
 have B5 : Hid (Below w.heap.size w w5) := hid (B3.out.trans (D5.out.mono (by have := SZ4.out; omega)))
 obtain ⟨va5, vn5, vc5, hve⟩ := own_sliceY O5.out
 subst hve
 have O5' := hid O5.out
 clear n3 n6
 have q0 : w5.cell? ⟨nb, 0, none⟩ = some (.slice (some ⟨g, 0, none⟩) L.length cap) := cell_of_row2 R5 0 rfl
 have q1 : w5.cell? ⟨nb, 1, none⟩ = some (.slice (some ⟨g2, 0, none⟩) ss.length cap2) := cell_of_row2 R5 1 rfl
 have q2 : w5.cell? ⟨nb, 2, none⟩ = some (.int .u64 ver) := cell_of_row2 R5 2 rfl
 have q3 : w5.cell? ⟨nb, 3, none⟩ = some (.int .u32 d0) := cell_of_row2 R5 3 rfl
 have q4 : w5.cell? ⟨nb, 4, none⟩ = some (.int .u32 d1) := cell_of_row2 R5 4 rfl
 have q5 : w5.cell? ⟨nb, 5, none⟩ = some (.int .u32 d2) := cell_of_row2 R5 5 rfl
 have q6 : w5.cell? ⟨nb, 6, none⟩ = some (.slice none 0 0) := cell_of_row2 R5 6 rfl
 have r0 : w5.cell? ⟨w.heap.size, 0, none⟩ = some (.slice none 0 0) := cell_of_row2 Z5.out 0 rfl
 have r1 : w5.cell? ⟨w.heap.size, 1, none⟩ = some (.slice none 0 0) := cell_of_row2 Z5.out 1 rfl
 have r2 : w5.cell? ⟨w.heap.size, 2, none⟩ = some (.int .u64 0) := cell_of_row2 Z5.out 2 rfl
 have r3 : w5.cell? ⟨w.heap.size, 3, none⟩ = some (.int .u32 0) := cell_of_row2 Z5.out 3 rfl
 have r4 : w5.cell? ⟨w.heap.size, 4, none⟩ = some (.int .u32 0) := cell_of_row2 Z5.out 4 rfl
 have r5 : w5.cell? ⟨w.heap.size, 5, none⟩ = some (.int .u32 0) := cell_of_row2 Z5.out 5 rfl
 have r6 : w5.cell? ⟨w.heap.size, 6, none⟩ = some (.slice none 0 0) := cell_of_row2 Z5.out 6 rfl
 have fz : ∀ i, w5.frozen? ⟨w.heap.size, i, none⟩ = false := fun i => by simp only [World.frozen?, Z5.out]; simp
 go_wp2
 rw [rounds_succ]
 go_wp2
 have Q9 := seven_cells Z5.out (.slice (some ⟨g, 0, none⟩) L.length cap) (.slice (some ⟨g2, 0, none⟩) ss.length cap2) (.int .u64 ver) (.int .u32 d0) (.int .u32 d1) (.int .u32 d2) (.slice none 0 0)
 have B9 := hid (((((((B5.out.setCell (p := ⟨w.heap.size, 0, none⟩) (Nat.le_refl _) (.slice (some ⟨g, 0, none⟩) L.length cap)).setCell (p := ⟨w.heap.size, 1, none⟩) (Nat.le_refl _) (.slice (some ⟨g2, 0, none⟩) ss.length cap2)).setCell (p := ⟨w.heap.size, 2, none⟩) (Nat.le_refl _) (.int .u64 ver)).setCell (p := ⟨w.heap.size, 3, none⟩) (Nat.le_refl _) (.int .u32 d0)).setCell (p := ⟨w.heap.size, 4, none⟩) (Nat.le_refl _) (.int .u32 d1)).setCell (p := ⟨w.heap.size, 5, none⟩) (Nat.le_refl _) (.int .u32 d2)).setCell (p := ⟨w.heap.size, 6, none⟩) (Nat.le_refl _) (.slice none 0 0))
 have K9 : Hid (KeepB (w.heap.size + 1) w5 (((((((w5.setCell ⟨w.heap.size, 0, none⟩ (.slice (some ⟨g, 0, none⟩) L.length cap)).setCell ⟨w.heap.size, 1, none⟩ (.slice (some ⟨g2, 0, none⟩) ss.length cap2)).setCell ⟨w.heap.size, 2, none⟩ (.int .u64 ver)).setCell ⟨w.heap.size, 3, none⟩ (.int .u32 d0)).setCell ⟨w.heap.size, 4, none⟩ (.int .u32 d1)).setCell ⟨w.heap.size, 5, none⟩ (.int .u32 d2)).setCell ⟨w.heap.size, 6, none⟩ (.slice none 0 0))) := hid ((((((((KeepB.stay (Stay.refl w5)).set (o := 0) (v := .slice (some ⟨g, 0, none⟩) L.length cap) (Nat.lt_succ_self _)).set (o := 1) (v := .slice (some ⟨g2, 0, none⟩) ss.length cap2) (Nat.lt_succ_self _)).set (o := 2) (v := .int .u64 ver) (Nat.lt_succ_self _)).set (o := 3) (v := .int .u32 d0) (Nat.lt_succ_self _)).set (o := 4) (v := .int .u32 d1) (Nat.lt_succ_self _)).set (o := 5) (v := .int .u32 d2) (Nat.lt_succ_self _)).set (o := 6) (v := .slice none 0 0) (Nat.lt_succ_self _))
 clear q0 q1 q2 q3 q4 q5 q6 r0 r1 r2 r3 r4 r5 r6 fz R5
 generalize (((((((w5.setCell ⟨w.heap.size, 0, none⟩ (.slice (some ⟨g, 0, none⟩) L.length cap)).setCell ⟨w.heap.size, 1, none⟩ (.slice (some ⟨g2, 0, none⟩) ss.length cap2)).setCell ⟨w.heap.size, 2, none⟩ (.int .u64 ver)).setCell ⟨w.heap.size, 3, none⟩ (.int .u32 d0)).setCell ⟨w.heap.size, 4, none⟩ (.int .u32 d1)).setCell ⟨w.heap.size, 5, none⟩ (.int .u32 d2)).setCell ⟨w.heap.size, 6, none⟩ (.slice none 0 0)) = W9 at *
 have r0 : W9.cell? ⟨w.heap.size, 0, none⟩ = some (.slice (some ⟨g, 0, none⟩) L.length cap) := cell_of_row2 Q9 0 rfl
 have r1 : W9.cell? ⟨w.heap.size, 1, none⟩ = some (.slice (some ⟨g2, 0, none⟩) ss.length cap2) := cell_of_row2 Q9 1 rfl
 have r2 : W9.cell? ⟨w.heap.size, 2, none⟩ = some (.int .u64 ver) := cell_of_row2 Q9 2 rfl
 have r3 : W9.cell? ⟨w.heap.size, 3, none⟩ = some (.int .u32 d0) := cell_of_row2 Q9 3 rfl
 have r4 : W9.cell? ⟨w.heap.size, 4, none⟩ = some (.int .u32 d1) := cell_of_row2 Q9 4 rfl
 have r5 : W9.cell? ⟨w.heap.size, 5, none⟩ = some (.int .u32 d2) := cell_of_row2 Q9 5 rfl
 have r6 : W9.cell? ⟨w.heap.size, 6, none⟩ = some (.slice none 0 0) := cell_of_row2 Q9 6 rfl
 have OF : Hid (OwE W9 (w.heap.size + 1) (.slice va5 vn5 vc5) [0]) := hid (own_kbS O5'.out K9.out)
 refine bodyPost_ret (v := .tuple #[.agg #[.slice (some ⟨g, 0, none⟩) L.length cap, .slice (some ⟨g2, 0, none⟩) ss.length cap2, .int .u64 ver, .int .u32 d0, .int .u32 d1, .int .u32 d2, .slice none 0 0], .slice va5 vn5 vc5]) (by simp [results, Tryz.results21, go_sem, r0, r1, r2, r3, r4, r5, r6]) rfl ⟨_, _, _, _, _, _, _, rfl, OF.out, B9.out⟩
end Go.Proofs.YtpolbbdaippclaaGreat
