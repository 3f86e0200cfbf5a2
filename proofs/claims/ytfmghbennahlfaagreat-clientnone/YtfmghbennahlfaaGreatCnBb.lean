/-
  
-/
import Derived.Test.YtfmghbennahlfaaGreatCnAq
import Derived.Test.YtfmghbennahlfaaGreatCnAe
import Derived.Shelf.Abstract
namespace Go.Proofs.YtfmghbennahlfaaGreat
open Go.RowKit Go.ChangeShapes Go.WideShapes Go.ChangeAt Go.Shelf
set_option linter.unusedVariables false
set_option linter.unusedSimpArgs false
theorem op_notU8 (x : Rec) : NotU8 (.cells x.ops.toArray 111 (0, 0)) := fun cs fr e => by
 injection e with e1 e2
 cases e2
set_option maxRecDepth 20000 in
set_option maxHeartbeats 600000 in
theorem putOp_c (T base g : Nat) (zs : List Int) (x : Rec) (w : World) (hp : Pile w T base g zs) (hn : zs.length < 500000) (hw : x.Wf) (hs : x.nm.size + x.nm2.size + x.dt.size < 100000) :
   Calls Tryz.prog 195 #[.pointer (some ⟨g, 0, none⟩), x.opV] w fun e w' => e = .returned (.tuple #[]) ∧ Pile w' T base g (zs ++ opB x) ∧ KpT base g w w' := by
 obtain ⟨h1, h2, h3, h4, h5, h6, h7, h8, h9⟩ := hw
 have u1 : IntKind.u64.wrap x.k = x.k := by rw [IntKind.wrap_u64]; omega
 have u2 : IntKind.u64.wrap x.fid = x.fid := by rw [IntKind.wrap_u64]; omega
 have u3 : IntKind.u64.wrap x.dir = x.dir := by rw [IntKind.wrap_u64]; omega
 have u4 : IntKind.u64.wrap x.to = x.to := by rw [IntKind.wrap_u64]; omega
 have u5 : IntKind.u64.wrap x.md = x.md := by rw [IntKind.wrap_u64]; omega
 have hx : (w.alloc (.cells x.ops.toArray 111)).heap[w.heap.size]? = some (.cells x.ops.toArray 111 (0, 0)) := heap_alloc_new w _
 obtain ⟨y0, y1, y2, y3, y4, y5, y6, y7⟩ := op_all hx
 have hne : w.heap.size ≠ g := by have := hp.len; omega
 have HX := hid hx
 have HP := hid (hp.other (w' := w) (.cells x.ops.toArray 111))
 have HK : Hid (KpT base g w (w.alloc (.cells x.ops.toArray 111))) := hid (alloc_kpT _ hp.len.2)
 unfold Rec.opV
 clear hx hp h6 h7 h8 h9
 go_enter Tryz.func195, Tryz.ntmps195
 clear y1 y2 y3 y4 y5 y6 y7
 have t0 := hid True.intro
 go_wp2_with (first
   | (have _q := t0.out; clear _q; go_at_call 194; refine (num1_c HP.out (by (try simp only [List.length_append, beF_len, txF_len]); omega) (by omega) (by omega)).mono ?_; rintro _ w9 ⟨rfl, hp9, hk9⟩
      have HX9 := hid (hk9.other _ _ HX.out hne (op_notU8 x))
      have z1 := (op_all HX9.out).2.1
      have t1 := hid True.intro
      have HP9 := hid hp9
      have HK9 := hid (HK.out.trans hk9)
      clear hp9 hk9 HP HK HX t0
      have HP := HP9
      have HK := HK9
      have HX := HX9
      clear HP9 HK9 HX9)
   | (have _q := t1.out; clear _q; go_at_call 194; refine (num4_c HP.out (by (try simp only [List.length_append, beF_len, txF_len]); omega) (by omega) (by omega)).mono ?_; rintro _ w9 ⟨rfl, hp9, hk9⟩
      have HX9 := hid (hk9.other _ _ HX.out hne (op_notU8 x))
      have z2 := (op_all HX9.out).2.2.1
      have t2 := hid True.intro
      have HP9 := hid hp9
      have HK9 := hid (HK.out.trans hk9)
      clear hp9 hk9 HP HK HX t1 z1
      have HP := HP9
      have HK := HK9
      have HX := HX9
      clear HP9 HK9 HX9)
   | (have _q := t2.out; clear _q; go_at_call 194; refine (num4_c HP.out (by (try simp only [List.length_append, beF_len, txF_len]); omega) (by omega) (by omega)).mono ?_; rintro _ w9 ⟨rfl, hp9, hk9⟩
      have HX9 := hid (hk9.other _ _ HX.out hne (op_notU8 x))
      have z3 := (op_all HX9.out).2.2.2.1
      have t3 := hid True.intro
      have HP9 := hid hp9
      have HK9 := hid (HK.out.trans hk9)
      clear hp9 hk9 HP HK HX t2 z2
      have HP := HP9
      have HK := HK9
      have HX := HX9
      clear HP9 HK9 HX9)
   | (have _q := t3.out; clear _q; go_at_call 245; refine (wtx_c HP.out (by (try simp only [List.length_append, beF_len, txF_len]); omega)).mono ?_; rintro _ w9 ⟨rfl, hp9, hk9⟩
      have HX9 := hid (hk9.other _ _ HX.out hne (op_notU8 x))
      have z4 := (op_all HX9.out).2.2.2.2.1
      have t4 := hid True.intro
      have HP9 := hid hp9
      have HK9 := hid (HK.out.trans hk9)
      clear hp9 hk9 HP HK HX t3 z3
      have HP := HP9
      have HK := HK9
      have HX := HX9
      clear HP9 HK9 HX9)
   | (have _q := t4.out; clear _q; go_at_call 194; refine (num4_c HP.out (by (try simp only [List.length_append, beF_len, txF_len]); omega) (by omega) (by omega)).mono ?_; rintro _ w9 ⟨rfl, hp9, hk9⟩
      have HX9 := hid (hk9.other _ _ HX.out hne (op_notU8 x))
      have z5 := (op_all HX9.out).2.2.2.2.2.1
      have t5 := hid True.intro
      have HP9 := hid hp9
      have HK9 := hid (HK.out.trans hk9)
      clear hp9 hk9 HP HK HX t4 z4
      have HP := HP9
      have HK := HK9
      have HX := HX9
      clear HP9 HK9 HX9)
   | (have _q := t5.out; clear _q; go_at_call 245; refine (wtx_c HP.out (by (try simp only [List.length_append, beF_len, txF_len]); omega)).mono ?_; rintro _ w9 ⟨rfl, hp9, hk9⟩
      have HX9 := hid (hk9.other _ _ HX.out hne (op_notU8 x))
      have z6 := (op_all HX9.out).2.2.2.2.2.2.1
      have t6 := hid True.intro
      have HP9 := hid hp9
      have HK9 := hid (HK.out.trans hk9)
      clear hp9 hk9 HP HK HX t5 z5
      have HP := HP9
      have HK := HK9
      have HX := HX9
      clear HP9 HK9 HX9)
   | (have _q := t6.out; clear _q; go_at_call 194; refine (num2_c HP.out (by (try simp only [List.length_append, beF_len, txF_len]); omega) (by omega) (by omega)).mono ?_; rintro _ w9 ⟨rfl, hp9, hk9⟩
      have HX9 := hid (hk9.other _ _ HX.out hne (op_notU8 x))
      have z7 := (op_all HX9.out).2.2.2.2.2.2.2
      have t7 := hid True.intro
      have HP9 := hid hp9
      have HK9 := hid (HK.out.trans hk9)
      clear hp9 hk9 HP HK HX t6 z6
      have HP := HP9
      have HK := HK9
      have HX := HX9
      clear HP9 HK9 HX9)
   | (have _q := t7.out; clear _q; go_at_call 245; refine (wtx_c HP.out (by (try simp only [List.length_append, beF_len, txF_len]); omega)).mono ?_; rintro _ w9 ⟨rfl, hp9, hk9⟩
      have HX9 := hid (hk9.other _ _ HX.out hne (op_notU8 x))
      have HP9 := hid hp9
      have HK9 := hid (HK.out.trans hk9)
      clear hp9 hk9 HP HK HX t7 z7
      have HP := HP9
      have HK := HK9
      have HX := HX9
      clear HP9 HK9 HX9))
 refine body_end (by kernel_rfl) rfl ⟨rfl, ?_, HK.out⟩
 have := HP.out
 unfold opB
 simpa only [List.append_assoc] using this
end Go.Proofs.YtfmghbennahlfaaGreat
namespace Go.Proofs.YtfmghbennahlfaaGreat
open Go.RowKit Go.ChangeShapes Go.WideShapes Go.ChangeAt
set_option linter.unusedVariables false
set_option linter.unusedSimpArgs false
set_option maxRecDepth 100000
theorem own_sliceY {w : World} {base : Nat} {e size n : Nat} {v : Value} {xs : List Value} (h : w.ownsRow base e size v n xs) : ∃ a m c, v = .slice a m c := by
 rcases h.2 with ⟨e, _⟩ | ⟨g, cap, cur, e, _⟩
 · exact ⟨_, _, _, e⟩
 · exact ⟨_, _, _, e⟩
def be4 (n : Int) : List Int := [n / 16777216, n / 65536 % 256, n / 256 % 256, n % 256]
def OwY (w : World) (base : Nat) (v : Value) (zs : List Int) : Prop := w.ownsRow base 5 1 v zs.length (zs.map u8V)
theorem OwY.nil (w : World) (base : Nat) : OwY w base (.slice none 0 0) [] := World.ownsRow_nil _ _ _ _
theorem row_news {w : World} {g : Nat} {l : List Value} {t : TypeId} (h : w.heap[g]? = some (.cells l.toArray t (0, 0))) : ∀ j u, l[j]? = some u → w.cell? ((⟨g, 0, none⟩ : Addr).add j) = some u := fun j u hu => by
 have e : (⟨g, 0, none⟩ : Addr).add j = ⟨g, 0 + j, none⟩ := by unfold Addr.add; split <;> simp_all
 rw [e, Nat.zero_add]
 exact cell_of_row2 h j (by simpa using hu)
theorem wpList_appY (w : World) {ops : Array Oper} {rest : List Oper} {o : Oper} {a : Act} {Q : Exit → Act → World → Prop} (hgd : o.guard = none) (s x : Operand)
   (ho : o.op = .call { callee := .builtin .append, args := #[s, x], argTypes := #[37, 37] }) (base : Nat) (v : Value) (zs ns : List Int) (hs : a.eval s = v) (hown : OwY w base v zs)
   (g m c : Nat) (hx : a.eval x = .slice (some ⟨g, 0, none⟩) m c) (hl : ns.length = m) (hg : w.heap[g]? = some (.cells (ns.map u8V).toArray 5 (0, 0))) (hz : zs.length ≤ 1000000) (hn : ns.length ≤ 1000000) (hb : base ≤ w.heap.size)
   (h : ∀ v' w', OwY w' base v' (zs ++ ns) → w.grownBy w' v.ownBlock → wpList Tryz.prog ops Q rest (a.put o.dst v') w') : wpList Tryz.prog ops Q (o :: rest) a w := by
 obtain ⟨i0, hi, hz0, hz1, hz2⟩ := info_parts8
 refine wpList_append_own w hgd s x 37 ho base 5 i0 (.int .u8 0) 1 1 Tryz.underlying37 hi hz0 hz1 hz2 rfl (by decide) v zs.length _ hs hown ⟨g, 0, none⟩ m c (ns.map u8V) hx (by simp [hl]) (row_news hg) (u8V_one ns) (by unfold maxLen; omega) (by omega) hb ?_
 intro v' w' h1 h2 _
 exact h v' w' (by unfold OwY; rw [List.length_append, List.map_append, hl]; exact h1) h2
theorem below_grownY {B : Nat} {a w w' : World} {base : Nat} {v : Value} {zs : List Int} (h : Below B a w) (hown : OwY w base v zs) (hB : B ≤ base) (hBw : B ≤ w.heap.size) (hg : w.grownBy w' v.ownBlock) : Below B a w' :=
 h.grown hg hBw (fun k hk => Nat.le_trans hB (hown.lt k hk).1)
theorem OwY.later {w w' : World} {base : Nat} {v : Value} {zs : List Int} (h : OwY w base v zs) (hb : Below w.heap.size w w') : OwY w' base v zs := own_latR h hb
set_option maxHeartbeats 2000000 in
theorem wnum_c (base : Nat) (v : Value) (zs : List Int) (n : Int) (w : World) (ho : OwY w base v zs) (hb : base ≤ w.heap.size) (hz : zs.length ≤ 100000) (h0 : 0 ≤ n) (h1 : n < 4294967296) :
   Calls Tryz.prog 33 #[v, .int .u32 n] w fun e w' => ∃ v', e = .returned v' ∧ OwY w' base v' (zs ++ be4 n) ∧ Below base w w' := by
 obtain ⟨a, m, c, rfl⟩ := own_sliceY ho
 have HO := hid ho
 clear ho
 go_enter Tryz.func33, Tryz.ntmps33
 go_wp2_with (at_builtin; refine wpList_appY _ rfl _ _ rfl base _ zs (be4 n) rfl (HO.out.later (below_1 _ _)) w.heap.size 4 4 rfl rfl (heap_alloc_new w _) (by omega) (by show 4 ≤ _; omega) (by simp; omega) ?_; intro v' w' ho' hg'; have O' := hid ho'; have B' := hid (below_grownY ((below_1 w _).mono hb) (HO.out.later (below_1 w _)) (Nat.le_refl _) (by simp; omega) hg'); clear ho' hg')
 obtain ⟨a', m', c', rfl⟩ := own_sliceY O'.out
 go_ret
 exact ⟨_, rfl, O'.out, B'.out⟩
set_option maxHeartbeats 2000000 in
theorem wnone_c (base : Nat) (v : Value) (zs : List Int) (w : World) (ho : OwY w base v zs) (hb : base ≤ w.heap.size) (hz : zs.length ≤ 100000) :
   Calls Tryz.prog 146 #[v, .slice none 0 0] w fun e w' => ∃ v', e = .returned v' ∧ OwY w' base v' (zs ++ [0]) ∧ Below base w w' := by
 obtain ⟨a, m, c, rfl⟩ := own_sliceY ho
 have HO := hid ho
 clear ho
 go_enter Tryz.func146, Tryz.ntmps146
 go_upto_region 3 with (at_builtin; refine wpList_appY _ rfl _ _ rfl base _ zs [0] rfl (HO.out.later (below_1 _ _)) w.heap.size 1 1 rfl rfl (heap_alloc_new w _) (by omega) (by decide) (by simp; omega) ?_; intro v' w' ho' hg'; have O' := hid ho'; have B' := hid (below_grownY ((below_1 w _).mono hb) (HO.out.later (below_1 w _)) (Nat.le_refl _) (by simp; omega) hg'); clear ho' hg')
 obtain ⟨a', m', c', rfl⟩ := own_sliceY O'.out
 go_loopg [0, 15] 0 (fun gk v0 v15 wr => v0 = .slice a' m' c' ∧ v15 = .int .i64 0 ∧ Hid (OwY wr base (.slice a' m' c') (zs ++ [0])) ∧ Hid (Below base w wr))
 case atStart => exact ⟨rfl, rfl, O', B'⟩
 case round =>
   obtain ⟨rfl, rfl, O2, B2⟩ := hrel
   go_wp2
   go_ret
   exact ⟨_, rfl, O2.out, B2.out⟩
end Go.Proofs.YtfmghbennahlfaaGreat
namespace Go.Proofs.YtfmghbennahlfaaGreat
open Go.RowKit Go.ChangeShapes Go.WideShapes Go.ChangeAt Go.Maps Go.Shelf
set_option linter.unusedVariables false
set_option linter.unusedSimpArgs false
set_option maxRecDepth 100000
def Rec.recV (x : Rec) : Value := .agg #[.int .u8 x.k, .int .u32 x.fid, .int .u32 x.dir, .string x.nm, .int .u32 x.to, .string x.nm2, .int .u16 x.md, .string x.dt, .int .u64 x.sn]
def R9 (cur : Array Value) (o : Rec) : Prop := cur[0]? = some (.int .u8 o.k) ∧ cur[1]? = some (.int .u32 o.fid) ∧ cur[2]? = some (.int .u32 o.dir) ∧ cur[3]? = some (.string o.nm) ∧ cur[4]? = some (.int .u32 o.to) ∧ cur[5]? = some (.string o.nm2) ∧ cur[6]? = some (.int .u16 o.md) ∧ cur[7]? = some (.string o.dt) ∧ cur[8]? = some (.int .u64 o.sn)
def recB (x : Rec) : List Int := beF x.sn 8 ++ opB x
def rec1B (x : Rec) : List Int := beF 1 1 ++ recB x
set_option maxHeartbeats 1000000 in
theorem rwrong_c (o : Rec) (w : World) (hw : o.Wf) (hr : rightF o = true) :
   Calls Tryz.prog 70 #[o.recV] w fun e w' => e = .returned (.bool false) ∧ Below w.heap.size w w' := by
 have RC0 := rightOp_c o (w.alloc (.cells #[.int .u8 o.k, .int .u32 o.fid, .int .u32 o.dir, .string o.nm, .int .u32 o.to, .string o.nm2, .int .u16 o.md, .string o.dt, .int .u64 o.sn] 113)) hw.2.2.2.2.2.2.1 hw.2.2.2.2.2.2.2.1
 rw [hr] at RC0
 have RC := hid RC0
 have h0 := heap_alloc_new w (.cells #[.int .u8 o.k, .int .u32 o.fid, .int .u32 o.dir, .string o.nm, .int .u32 o.to, .string o.nm2, .int .u16 o.md, .string o.dt, .int .u64 o.sn] 113)
 have B0 := hid (below_1 w (.cells #[.int .u8 o.k, .int .u32 o.fid, .int .u32 o.dir, .string o.nm, .int .u32 o.to, .string o.nm2, .int .u16 o.md, .string o.dt, .int .u64 o.sn] 113))
 clear RC0 hw hr
 obtain ⟨k, fid, dir, nm, tof, nm2, md, dt, sn⟩ := o
 simp only [Rec.recV, Rec.opV] at *
 have y0 : (w.alloc (.cells #[.int .u8 k, .int .u32 fid, .int .u32 dir, .string nm, .int .u32 tof, .string nm2, .int .u16 md, .string dt, .int .u64 sn] 113)).cell? ⟨w.heap.size, 0, none⟩ = some (.int .u8 k) := cell_of_row2 h0 0 rfl
 have y1 : (w.alloc (.cells #[.int .u8 k, .int .u32 fid, .int .u32 dir, .string nm, .int .u32 tof, .string nm2, .int .u16 md, .string dt, .int .u64 sn] 113)).cell? ⟨w.heap.size, 1, none⟩ = some (.int .u32 fid) := cell_of_row2 h0 1 rfl
 have y2 : (w.alloc (.cells #[.int .u8 k, .int .u32 fid, .int .u32 dir, .string nm, .int .u32 tof, .string nm2, .int .u16 md, .string dt, .int .u64 sn] 113)).cell? ⟨w.heap.size, 2, none⟩ = some (.int .u32 dir) := cell_of_row2 h0 2 rfl
 have y3 : (w.alloc (.cells #[.int .u8 k, .int .u32 fid, .int .u32 dir, .string nm, .int .u32 tof, .string nm2, .int .u16 md, .string dt, .int .u64 sn] 113)).cell? ⟨w.heap.size, 3, none⟩ = some (.string nm) := cell_of_row2 h0 3 rfl
 have y4 : (w.alloc (.cells #[.int .u8 k, .int .u32 fid, .int .u32 dir, .string nm, .int .u32 tof, .string nm2, .int .u16 md, .string dt, .int .u64 sn] 113)).cell? ⟨w.heap.size, 4, none⟩ = some (.int .u32 tof) := cell_of_row2 h0 4 rfl
 have y5 : (w.alloc (.cells #[.int .u8 k, .int .u32 fid, .int .u32 dir, .string nm, .int .u32 tof, .string nm2, .int .u16 md, .string dt, .int .u64 sn] 113)).cell? ⟨w.heap.size, 5, none⟩ = some (.string nm2) := cell_of_row2 h0 5 rfl
 have y6 : (w.alloc (.cells #[.int .u8 k, .int .u32 fid, .int .u32 dir, .string nm, .int .u32 tof, .string nm2, .int .u16 md, .string dt, .int .u64 sn] 113)).cell? ⟨w.heap.size, 6, none⟩ = some (.int .u16 md) := cell_of_row2 h0 6 rfl
 have y7 : (w.alloc (.cells #[.int .u8 k, .int .u32 fid, .int .u32 dir, .string nm, .int .u32 tof, .string nm2, .int .u16 md, .string dt, .int .u64 sn] 113)).cell? ⟨w.heap.size, 7, none⟩ = some (.string dt) := cell_of_row2 h0 7 rfl
 have y8 : (w.alloc (.cells #[.int .u8 k, .int .u32 fid, .int .u32 dir, .string nm, .int .u32 tof, .string nm2, .int .u16 md, .string dt, .int .u64 sn] 113)).cell? ⟨w.heap.size, 8, none⟩ = some (.int .u64 sn) := cell_of_row2 h0 8 rfl
 clear h0
 go_enter Tryz.func70, Tryz.ntmps70
 go_wp2_with (go_at_call 135; refine RC.out.mono ?_; rintro _ w1 ⟨rfl, hb1⟩)
 go_ret
 exact ⟨rfl, B0.out.trans (hb1.mono B0.out.size)⟩
set_option maxHeartbeats 2000000 in
theorem ridx1_c (lb cl : Nat) (o : Rec) (w : World) (cur : Array Value) (hcur : R9 cur o) (hlb : w.heap[lb]? = some (.cells cur 113 (0, 0))) (hw : o.Wf) (hr : rightF o = true) :
   Calls Tryz.prog 134 #[.slice (some ⟨lb, 0, none⟩) 1 cl, .func (.func 70) #[] #[]] w fun e w' => e = .returned (.int .i64 (-1)) ∧ Below w.heap.size w w' := by
 obtain ⟨q0, q1, q2, q3, q4, q5, q6, q7, q8⟩ := hcur
 have WC := hid (rwrong_c o w hw hr)
 clear hw hr
 obtain ⟨k, fid, dir, nm, tof, nm2, md, dt, sn⟩ := o
 simp only [Rec.recV] at *
 have y0 : w.cell? ⟨lb, 0, none⟩ = some (.int .u8 k) := cell_of_row2 hlb 0 q0
 have y1 : w.cell? ⟨lb, 1, none⟩ = some (.int .u32 fid) := cell_of_row2 hlb 1 q1
 have y2 : w.cell? ⟨lb, 2, none⟩ = some (.int .u32 dir) := cell_of_row2 hlb 2 q2
 have y3 : w.cell? ⟨lb, 3, none⟩ = some (.string nm) := cell_of_row2 hlb 3 q3
 have y4 : w.cell? ⟨lb, 4, none⟩ = some (.int .u32 tof) := cell_of_row2 hlb 4 q4
 have y5 : w.cell? ⟨lb, 5, none⟩ = some (.string nm2) := cell_of_row2 hlb 5 q5
 have y6 : w.cell? ⟨lb, 6, none⟩ = some (.int .u16 md) := cell_of_row2 hlb 6 q6
 have y7 : w.cell? ⟨lb, 7, none⟩ = some (.string dt) := cell_of_row2 hlb 7 q7
 have y8 : w.cell? ⟨lb, 8, none⟩ = some (.int .u64 sn) := cell_of_row2 hlb 8 q8
 clear hlb q0 q1 q2 q3 q4 q5 q6 q7 q8
 go_enter Tryz.func134, Tryz.ntmps134
 go_wp2
 refine wp_loop_rounds 2 ?_
 rw [rounds_succ]
 go_wp2_with (go_at_call 70; refine WC.out.mono ?_; rintro _ w1 ⟨rfl, hb1⟩)
 rw [rounds_succ]
 go_wp2
 go_ret
 exact ⟨rfl, hb1⟩
set_option maxHeartbeats 1000000 in
theorem rcon1_c (lb cl : Nat) (o : Rec) (w : World) (cur : Array Value) (hcur : R9 cur o) (hlb : w.heap[lb]? = some (.cells cur 113 (0, 0))) (hw : o.Wf) (hr : rightF o = true) :
   Calls Tryz.prog 69 #[.slice (some ⟨lb, 0, none⟩) 1 cl, .func (.func 70) #[] #[]] w fun e w' => e = .returned (.bool false) ∧ Below w.heap.size w w' := by
 have IC := hid (ridx1_c lb cl o w cur hcur hlb hw hr)
 clear hlb hcur hw hr
 go_enter Tryz.func69, Tryz.ntmps69
 go_wp2_with (go_at_call 134; refine IC.out.mono ?_; rintro _ w1 ⟨rfl, hb1⟩)
 go_ret
 exact ⟨rfl, hb1⟩
set_option maxHeartbeats 2000000 in
theorem putRec_c (T base g : Nat) (zs : List Int) (o : Rec) (w : World) (hp : Pile w T base g zs) (hn : zs.length < 400000) (hw : o.Wf) (hs : o.nm.size + o.nm2.size + o.dt.size < 100000) :
   Calls Tryz.prog 137 #[.pointer (some ⟨g, 0, none⟩), o.recV] w fun e w' => e = .returned (.tuple #[]) ∧ Pile w' T base g (zs ++ recB o) ∧ KpT base g w w' := by
 have h0 := heap_alloc_new w (.cells #[.int .u8 o.k, .int .u32 o.fid, .int .u32 o.dir, .string o.nm, .int .u32 o.to, .string o.nm2, .int .u16 o.md, .string o.dt, .int .u64 o.sn] 113)
 have hne : w.heap.size ≠ g := by have := hp.len; omega
 have HX := hid h0
 have K0 : Hid (KpT base g w (w.alloc (.cells #[.int .u8 o.k, .int .u32 o.fid, .int .u32 o.dir, .string o.nm, .int .u32 o.to, .string o.nm2, .int .u16 o.md, .string o.dt, .int .u64 o.sn] 113))) := hid (alloc_kpT _ hp.len.2)
 have NC := hid (num8_c (n := o.sn) (hp.other (w' := w) (.cells #[.int .u8 o.k, .int .u32 o.fid, .int .u32 o.dir, .string o.nm, .int .u32 o.to, .string o.nm2, .int .u16 o.md, .string o.dt, .int .u64 o.sn] 113)) (by omega) hw.2.2.2.2.2.1.1 hw.2.2.2.2.2.1.2)
 have PC := hid (fun W (hq : Pile W T base g (zs ++ beF o.sn 8)) => putOp_c T base g _ o W hq (by rw [List.length_append, beF_len]; omega) hw hs)
 have RB : Hid (zs ++ recB o = zs ++ beF o.sn 8 ++ opB o) := hid (by unfold recB; rw [List.append_assoc])
 rw [RB.out]
 have NU : Hid (NotU8 (.cells #[.int .u8 o.k, .int .u32 o.fid, .int .u32 o.dir, .string o.nm, .int .u32 o.to, .string o.nm2, .int .u16 o.md, .string o.dt, .int .u64 o.sn] 113 (0, 0))) := hid (fun cs fr e => by injection e with e1 e2; cases e2)
 clear hp hw hs
 obtain ⟨q, hq⟩ : ∃ q, q = opB o := ⟨_, rfl⟩
 rw [← hq]
 rw [← hq] at PC
 clear hq RB
 obtain ⟨k, fid, dir, nm, tof, nm2, md, dt, sn⟩ := o
 simp only [Rec.recV, Rec.opV] at *
 have y0 : (w.alloc (.cells #[.int .u8 k, .int .u32 fid, .int .u32 dir, .string nm, .int .u32 tof, .string nm2, .int .u16 md, .string dt, .int .u64 sn] 113)).cell? ⟨w.heap.size, 0, none⟩ = some (.int .u8 k) := cell_of_row2 h0 0 rfl
 have y1 : (w.alloc (.cells #[.int .u8 k, .int .u32 fid, .int .u32 dir, .string nm, .int .u32 tof, .string nm2, .int .u16 md, .string dt, .int .u64 sn] 113)).cell? ⟨w.heap.size, 1, none⟩ = some (.int .u32 fid) := cell_of_row2 h0 1 rfl
 have y2 : (w.alloc (.cells #[.int .u8 k, .int .u32 fid, .int .u32 dir, .string nm, .int .u32 tof, .string nm2, .int .u16 md, .string dt, .int .u64 sn] 113)).cell? ⟨w.heap.size, 2, none⟩ = some (.int .u32 dir) := cell_of_row2 h0 2 rfl
 have y3 : (w.alloc (.cells #[.int .u8 k, .int .u32 fid, .int .u32 dir, .string nm, .int .u32 tof, .string nm2, .int .u16 md, .string dt, .int .u64 sn] 113)).cell? ⟨w.heap.size, 3, none⟩ = some (.string nm) := cell_of_row2 h0 3 rfl
 have y4 : (w.alloc (.cells #[.int .u8 k, .int .u32 fid, .int .u32 dir, .string nm, .int .u32 tof, .string nm2, .int .u16 md, .string dt, .int .u64 sn] 113)).cell? ⟨w.heap.size, 4, none⟩ = some (.int .u32 tof) := cell_of_row2 h0 4 rfl
 have y5 : (w.alloc (.cells #[.int .u8 k, .int .u32 fid, .int .u32 dir, .string nm, .int .u32 tof, .string nm2, .int .u16 md, .string dt, .int .u64 sn] 113)).cell? ⟨w.heap.size, 5, none⟩ = some (.string nm2) := cell_of_row2 h0 5 rfl
 have y6 : (w.alloc (.cells #[.int .u8 k, .int .u32 fid, .int .u32 dir, .string nm, .int .u32 tof, .string nm2, .int .u16 md, .string dt, .int .u64 sn] 113)).cell? ⟨w.heap.size, 6, none⟩ = some (.int .u16 md) := cell_of_row2 h0 6 rfl
 have y7 : (w.alloc (.cells #[.int .u8 k, .int .u32 fid, .int .u32 dir, .string nm, .int .u32 tof, .string nm2, .int .u16 md, .string dt, .int .u64 sn] 113)).cell? ⟨w.heap.size, 7, none⟩ = some (.string dt) := cell_of_row2 h0 7 rfl
 have y8 : (w.alloc (.cells #[.int .u8 k, .int .u32 fid, .int .u32 dir, .string nm, .int .u32 tof, .string nm2, .int .u16 md, .string dt, .int .u64 sn] 113)).cell? ⟨w.heap.size, 8, none⟩ = some (.int .u64 sn) := cell_of_row2 h0 8 rfl
 clear h0
 go_enter Tryz.func137, Tryz.ntmps137
 go_wp2_with (first
   | (go_at_call 195; refine (PC.out _ HP1.out).mono ?_; rintro _ w2 ⟨rfl, hp2, hk2⟩)
   | (go_at_call 194; refine NC.out.mono ?_; rintro _ w1 ⟨rfl, hp1, hk1⟩; have HP1 := hid hp1; have K1 := hid (K0.out.trans hk1); have hx1 := hk1.other _ _ HX.out hne NU.out; clear y0 y1 y2 y3 y4 y5 y6 y7 y8; (have y0 : w1.cell? ⟨w.heap.size, 0, none⟩ = some (.int .u8 k) := cell_of_row2 hx1 0 rfl); (have y1 : w1.cell? ⟨w.heap.size, 1, none⟩ = some (.int .u32 fid) := cell_of_row2 hx1 1 rfl); (have y2 : w1.cell? ⟨w.heap.size, 2, none⟩ = some (.int .u32 dir) := cell_of_row2 hx1 2 rfl); (have y3 : w1.cell? ⟨w.heap.size, 3, none⟩ = some (.string nm) := cell_of_row2 hx1 3 rfl); (have y4 : w1.cell? ⟨w.heap.size, 4, none⟩ = some (.int .u32 tof) := cell_of_row2 hx1 4 rfl); (have y5 : w1.cell? ⟨w.heap.size, 5, none⟩ = some (.string nm2) := cell_of_row2 hx1 5 rfl); (have y6 : w1.cell? ⟨w.heap.size, 6, none⟩ = some (.int .u16 md) := cell_of_row2 hx1 6 rfl); (have y7 : w1.cell? ⟨w.heap.size, 7, none⟩ = some (.string dt) := cell_of_row2 hx1 7 rfl); (have y8 : w1.cell? ⟨w.heap.size, 8, none⟩ = some (.int .u64 sn) := cell_of_row2 hx1 8 rfl); clear hp1 hk1 hx1))
 exact body_end (by kernel_rfl) rfl ⟨rfl, hp2, K1.out.trans hk2⟩
set_option maxHeartbeats 2000000 in
theorem putList1_c (T base g : Nat) (lb cap : Nat) (o : Rec) (w : World) (hp : Pile w T base g []) (cur : Array Value) (hcur : R9 cur o) (hlb : w.heap[lb]? = some (.cells cur 113 (0, 0))) (hne : lb ≠ g) (hw : o.Wf) (hs : o.nm.size + o.nm2.size + o.dt.size < 100000) :
   Calls Tryz.prog 136 #[.pointer (some ⟨g, 0, none⟩), .slice (some ⟨lb, 0, none⟩) 1 cap, .func (.func 137) #[] #[]] w fun e w' => e = .returned (.tuple #[]) ∧ Pile w' T base g (rec1B o) ∧ KpT base g w w' := by
 have NC := hid (num1_c (n := 1) hp (by simp) (by omega) (by omega))
 have NU : Hid (NotU8 (.cells cur 113 (0, 0))) := hid (fun cs fr e => by injection e with e1 e2; cases e2)
 have PC := hid (fun W (hq : Pile W T base g ([] ++ beF 1 1)) => putRec_c T base g _ o W hq (by rw [List.length_append, beF_len]; simp) hw hs)
 have RB : Hid (rec1B o = [] ++ beF 1 1 ++ recB o) := hid (by unfold rec1B; simp)
 rw [RB.out]
 have HLB := hid hlb
 have HC := hid hcur
 have HNE := hid hne
 have HZ := hid hp.len.2
 obtain ⟨q, hq⟩ : ∃ q, q = recB o := ⟨_, rfl⟩
 rw [← hq]
 rw [← hq] at PC
 clear hq RB hp hw hs hne hlb hcur
 obtain ⟨k, fid, dir, nm, tof, nm2, md, dt, sn⟩ := o
 simp only [Rec.recV] at *
 go_enter Tryz.func136, Tryz.ntmps136
 go_upto_region 2 with (go_at_call 194; refine NC.out.mono ?_; rintro _ w1 ⟨rfl, hp1, hk1⟩; have HP1 := hid hp1; have K1 := hid hk1; clear hp1 hk1)
 obtain ⟨q0, q1, q2, q3, q4, q5, q6, q7, q8⟩ := HC.out
 have hx1 := K1.out.other _ _ HLB.out HNE.out NU.out
 have y0 : w1.cell? ⟨lb, 0, none⟩ = some (.int .u8 k) := cell_of_row2 hx1 0 q0
 have y1 : w1.cell? ⟨lb, 1, none⟩ = some (.int .u32 fid) := cell_of_row2 hx1 1 q1
 have y2 : w1.cell? ⟨lb, 2, none⟩ = some (.int .u32 dir) := cell_of_row2 hx1 2 q2
 have y3 : w1.cell? ⟨lb, 3, none⟩ = some (.string nm) := cell_of_row2 hx1 3 q3
 have y4 : w1.cell? ⟨lb, 4, none⟩ = some (.int .u32 tof) := cell_of_row2 hx1 4 q4
 have y5 : w1.cell? ⟨lb, 5, none⟩ = some (.string nm2) := cell_of_row2 hx1 5 q5
 have y6 : w1.cell? ⟨lb, 6, none⟩ = some (.int .u16 md) := cell_of_row2 hx1 6 q6
 have y7 : w1.cell? ⟨lb, 7, none⟩ = some (.string dt) := cell_of_row2 hx1 7 q7
 have y8 : w1.cell? ⟨lb, 8, none⟩ = some (.int .u64 sn) := cell_of_row2 hx1 8 q8
 clear hx1 q0 q1 q2 q3 q4 q5 q6 q7 q8
 have P2 := hid (HP1.out.other (w' := w1) (.cells #[.int .u8 k, .int .u32 fid, .int .u32 dir, .string nm, .int .u32 tof, .string nm2, .int .u16 md, .string dt, .int .u64 sn] 113))
 have K2 : Hid (KpT base g w (w1.alloc (.cells #[.int .u8 k, .int .u32 fid, .int .u32 dir, .string nm, .int .u32 tof, .string nm2, .int .u16 md, .string dt, .int .u64 sn] 113))) := hid (K1.out.trans (alloc_kpT _ (Nat.le_trans HZ.out K1.out.size)))
 refine wp_loop_rounds 2 ?_
 rw [rounds_succ]
 go_wp2_with (go_at_call 137; refine (PC.out _ P2.out).mono ?_; rintro _ w2 ⟨rfl, hp2, hk2⟩)
 rw [rounds_succ]
 go_wp2
 exact body_end (by kernel_rfl) rfl ⟨rfl, hp2, K2.out.trans hk2⟩
set_option maxHeartbeats 1000000 in
theorem putRecs1_c (T base g : Nat) (lb cap : Nat) (o : Rec) (w : World) (hp : Pile w T base g []) (cur : Array Value) (hcur : R9 cur o) (hlb : w.heap[lb]? = some (.cells cur 113 (0, 0))) (hne : lb ≠ g) (hw : o.Wf) (hs : o.nm.size + o.nm2.size + o.dt.size < 100000) :
   Calls Tryz.prog 72 #[.pointer (some ⟨g, 0, none⟩), .slice (some ⟨lb, 0, none⟩) 1 cap] w fun e w' => e = .returned (.tuple #[]) ∧ Pile w' T base g (rec1B o) ∧ KpT base g w w' := by
 have PC := hid (putList1_c T base g lb cap o w hp cur hcur hlb hne hw hs)
 clear hp hlb hcur hne hw hs
 go_enter Tryz.func72, Tryz.ntmps72
 go_wp2_with (go_at_call 136; refine PC.out.mono ?_; rintro _ w1 ⟨rfl, h1, h2⟩)
 exact body_end (by kernel_rfl) rfl ⟨rfl, h1, h2⟩
set_option maxHeartbeats 1000000 in
theorem written1_c (lb cap : Nat) (o : Rec) (w : World) (cur : Array Value) (hcur : R9 cur o) (hlb : w.heap[lb]? = some (.cells cur 113 (0, 0))) (hw : o.Wf) (hs : o.nm.size + o.nm2.size + o.dt.size < 100000) :
   Calls Tryz.prog 71 #[.slice (some ⟨lb, 0, none⟩) 1 cap, .func (.func 72) #[] #[]] w fun e w' => ∃ v, e = .returned v ∧ w'.ownsRow w.heap.size 5 1 v (rec1B o).length ((rec1B o).map u8V) ∧ Below w.heap.size w w' := by
 have b1 := below_1 w (.cells #[.slice none 0 0] 219)
 have hg2 := heap_alloc_new w (.cells #[.slice none 0 0] 219)
 have hs2 : (w.alloc (.cells #[.slice none 0 0] 219)).heap.size = w.heap.size + 1 := by simp
 have HP : Hid (Pile (w.alloc (.cells #[.slice none 0 0] 219)) 219 (w.heap.size + 1) w.heap.size []) := hid ⟨by omega, by rw [hs2]; omega, _, hg2, World.ownsRow_nil _ _ _ _⟩
 have PC := hid (putRecs1_c 219 (w.heap.size + 1) w.heap.size lb cap o _ HP.out cur hcur ((b1.block _ (lt_blkR hlb)).trans hlb) (Nat.ne_of_lt (lt_blkR hlb)) hw hs)
 have B1 := hid b1
 clear hlb hcur hg2 hs2 b1 HP hw hs
 go_enter Tryz.func71, Tryz.ntmps71
 go_wp2_with (first | (go_at_call 72; refine PC.out.mono ?_; rintro _ w1 ⟨rfl, ⟨hg, hbase, v, hbox, hown⟩, hk⟩; have hc := cell_box hbox; obtain ⟨va, vn, vc, rfl⟩ := own_sliceY hown))
 go_ret
 exact ⟨_, rfl, own_low hown (by omega), B1.out.trans (hk.below (by omega) (Nat.le_refl _))⟩
set_option maxHeartbeats 1000000 in
theorem records1_c (lb cap : Nat) (o : Rec) (w : World) (cur : Array Value) (hcur : R9 cur o) (hlb : w.heap[lb]? = some (.cells cur 113 (0, 0))) (hw : o.Wf) (hr : rightF o = true) :
   Calls Tryz.prog 31 #[.slice (some ⟨lb, 0, none⟩) 1 cap] w fun e w' => ∃ v, e = .returned (.tuple #[v, .int .i64 0]) ∧ OwY w' w.heap.size v (rec1B o) ∧ Below w.heap.size w w' := by
 have CC := hid (rcon1_c lb cap o w cur hcur hlb hw hr)
 have WC := hid (fun W (hW : Below w.heap.size w W) => written1_c lb cap o W cur hcur ((hW.block _ (lt_blkR hlb)).trans hlb) hw (by have := right_size o hr; omega))
 clear hlb hcur hw hr
 go_enter Tryz.func31, Tryz.ntmps31
 go_wp2_with (first
   | (go_at_call 69; refine CC.out.mono ?_; rintro _ w1 ⟨rfl, hb1⟩; have B1 := hid hb1; clear hb1)
   | (go_at_call 71; refine (WC.out _ B1.out).mono ?_; rintro _ w2 ⟨v, rfl, ho2, hb2⟩; obtain ⟨va, vn, vc, rfl⟩ := own_sliceY ho2; have O2 := hid ho2; have B2 := hid (B1.out.trans (hb2.mono B1.out.size)); clear ho2 hb2))
 go_ret2
 exact ⟨_, rfl, own_low O2.out B1.out.size, B2.out⟩
end Go.Proofs.YtfmghbennahlfaaGreat
