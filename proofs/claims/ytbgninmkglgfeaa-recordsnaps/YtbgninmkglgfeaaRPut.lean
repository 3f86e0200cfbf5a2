/-
  An operation's bytes: putOp, written, Op of the package record.
-/
import Derived.Test.YtbgninmkglgfeaaRWr
import Derived.Shelf.Abstract
namespace Go.Proofs.Ytbgninmkglgfeaa
open Go.RowKit Go.ChangeShapes Go.WideShapes Go.ChangeAt Go.Shelf
set_option linter.unusedVariables false
set_option linter.unusedSimpArgs false
/-- An operation's bytes. -/
def opB (x : Rec) : List Int := beF x.k 1 ++ beF x.fid 4 ++ beF x.dir 4 ++ txF x.nm ++ beF x.to 4 ++ txF x.nm2 ++ beF x.md 2 ++ txF x.dt
theorem opB_len (x : Rec) : (opB x).length = 18 + x.nm.size + x.nm2.size + x.dt.size := by unfold opB; simp only [List.length_append, beF_len, txF_len]; omega
theorem op_notU8 (x : Rec) : NotU8 (.cells x.ops.toArray 29 (0, 0)) := fun cs fr e => by
  injection e with e1 e2
  cases e2
theorem name_size (s : ByteArray) (h : Pa.nameB s.data.toList = true) : s.size ≤ 12 := by
  unfold Pa.nameB at h
  simp only [Bool.and_eq_true, decide_eq_true_eq] at h
  exact h.1.1.1.2
theorem empty_size (s : ByteArray) (h : (s.toList == []) = true) : s.size = 0 := by
  have h1 : s.toList = [] := by simpa using h
  rw [Lib.toList_data] at h1
  have : s.data.toList.length = 0 := by rw [h1]; rfl
  simpa using this
theorem ent_size (b : Bool) (f : Int) (s : ByteArray) (h : entF b f s = true) : s.size ≤ 12 := by
  unfold entF at h
  cases b with
  | true => simp only [if_true, Bool.and_eq_true] at h; exact name_size s h.2
  | false => simp only [Bool.false_eq_true, if_false, Bool.and_eq_true] at h; have := empty_size s h.2; omega
theorem dat_size (b : Bool) (s : ByteArray) (h : datF b s = true) : s.size ≤ 64 := by
  unfold datF at h
  cases b with
  | true => simpa using h
  | false => simp only [Bool.false_eq_true, if_false] at h; have := empty_size s h; omega
theorem right_size (x : Rec) (h : rightF x = true) : x.nm.size ≤ 12 ∧ x.nm2.size ≤ 12 ∧ x.dt.size ≤ 64 := by
  unfold rightF at h
  simp only [Bool.and_eq_true] at h
  obtain ⟨_, ⟨⟨h1, h2⟩, _⟩, h4⟩ := h
  exact ⟨ent_size _ _ _ h1, ent_size _ _ _ h2, dat_size _ _ h4⟩
theorem num1_c {T base g : Nat} {zs : List Int} {n : Int} {w : World} (hp : Pile w T base g zs) (hn : zs.length < 900000) (h0 : 0 ≤ n) (h1 : n < 18446744073709551616) :
    Calls Try.prog 90 #[.pointer (some ⟨g, 0, none⟩), .int .u64 n, .int .i64 1] w fun e w' => e = .returned (.tuple #[]) ∧ Pile w' T base g (zs ++ beF n 1) ∧ KpT base g w w' :=
  number_c T base g zs n 1 w hp hn (by omega) h0 h1
theorem num2_c {T base g : Nat} {zs : List Int} {n : Int} {w : World} (hp : Pile w T base g zs) (hn : zs.length < 900000) (h0 : 0 ≤ n) (h1 : n < 18446744073709551616) :
    Calls Try.prog 90 #[.pointer (some ⟨g, 0, none⟩), .int .u64 n, .int .i64 2] w fun e w' => e = .returned (.tuple #[]) ∧ Pile w' T base g (zs ++ beF n 2) ∧ KpT base g w w' :=
  number_c T base g zs n 2 w hp hn (by omega) h0 h1
theorem num4_c {T base g : Nat} {zs : List Int} {n : Int} {w : World} (hp : Pile w T base g zs) (hn : zs.length < 900000) (h0 : 0 ≤ n) (h1 : n < 18446744073709551616) :
    Calls Try.prog 90 #[.pointer (some ⟨g, 0, none⟩), .int .u64 n, .int .i64 4] w fun e w' => e = .returned (.tuple #[]) ∧ Pile w' T base g (zs ++ beF n 4) ∧ KpT base g w w' :=
  number_c T base g zs n 4 w hp hn (by omega) h0 h1
theorem num8_c {T base g : Nat} {zs : List Int} {n : Int} {w : World} (hp : Pile w T base g zs) (hn : zs.length < 900000) (h0 : 0 ≤ n) (h1 : n < 18446744073709551616) :
    Calls Try.prog 90 #[.pointer (some ⟨g, 0, none⟩), .int .u64 n, .int .i64 8] w fun e w' => e = .returned (.tuple #[]) ∧ Pile w' T base g (zs ++ beF n 8) ∧ KpT base g w w' :=
  number_c T base g zs n 8 w hp hn (by omega) h0 h1
theorem wtx_c {T base g : Nat} {zs : List Int} {s : ByteArray} {w : World} (hp : Pile w T base g zs) (hn : zs.length + s.size < 800000) :
    Calls Try.prog 91 #[.pointer (some ⟨g, 0, none⟩), .string s] w fun e w' => e = .returned (.tuple #[]) ∧ Pile w' T base g (zs ++ txF s) ∧ KpT base g w w' :=
  wtext_c T base g zs s w hp hn
set_option maxRecDepth 20000 in
set_option maxHeartbeats 600000 in
theorem putOp_c (T base g : Nat) (zs : List Int) (x : Rec) (w : World) (hp : Pile w T base g zs) (hn : zs.length < 500000) (hw : x.Wf) (hs : x.nm.size + x.nm2.size + x.dt.size < 100000) :
    Calls Try.prog 69 #[.pointer (some ⟨g, 0, none⟩), x.opV] w fun e w' => e = .returned (.tuple #[]) ∧ Pile w' T base g (zs ++ opB x) ∧ KpT base g w w' := by
  obtain ⟨h1, h2, h3, h4, h5, h6, h7, h8, h9⟩ := hw
  have u1 : IntKind.u64.wrap x.k = x.k := by rw [IntKind.wrap_u64]; omega
  have u2 : IntKind.u64.wrap x.fid = x.fid := by rw [IntKind.wrap_u64]; omega
  have u3 : IntKind.u64.wrap x.dir = x.dir := by rw [IntKind.wrap_u64]; omega
  have u4 : IntKind.u64.wrap x.to = x.to := by rw [IntKind.wrap_u64]; omega
  have u5 : IntKind.u64.wrap x.md = x.md := by rw [IntKind.wrap_u64]; omega
  have hx : (w.alloc (.cells x.ops.toArray 29)).heap[w.heap.size]? = some (.cells x.ops.toArray 29 (0, 0)) := heap_alloc_new w _
  obtain ⟨y0, y1, y2, y3, y4, y5, y6, y7⟩ := op_all hx
  have hne : w.heap.size ≠ g := by have := hp.len; omega
  have HX := hid hx
  have HP := hid (hp.other (w' := w) (.cells x.ops.toArray 29))
  have HK : Hid (KpT base g w (w.alloc (.cells x.ops.toArray 29))) := hid (alloc_kpT _ hp.len.2)
  unfold Rec.opV
  clear hx hp h6 h7 h8 h9
  go_enter Try.func69, Try.ntmps69
  clear y1 y2 y3 y4 y5 y6 y7
  have t0 := hid True.intro
  go_wp2_with (first
    | (have _q := t0.out; clear _q; go_at_call 90; refine (num1_c HP.out (by (try simp only [List.length_append, beF_len, txF_len]); omega) (by omega) (by omega)).mono ?_; rintro _ w9 ⟨rfl, hp9, hk9⟩
       have HX9 := hid (hk9.other _ _ HX.out hne (op_notU8 x))
       have z1 := (op_all HX9.out).2.1
       have t1 := hid True.intro
       have HP9 := hid hp9
       have HK9 := hid (HK.out.trans hk9)
       clear hp9 hk9 HP HK HX t0
       have HP := HP9
       have HK := HK9
       have HX := HX9
       clear HP9 HK9 HX9)
    | (have _q := t1.out; clear _q; go_at_call 90; refine (num4_c HP.out (by (try simp only [List.length_append, beF_len, txF_len]); omega) (by omega) (by omega)).mono ?_; rintro _ w9 ⟨rfl, hp9, hk9⟩
       have HX9 := hid (hk9.other _ _ HX.out hne (op_notU8 x))
       have z2 := (op_all HX9.out).2.2.1
       have t2 := hid True.intro
       have HP9 := hid hp9
       have HK9 := hid (HK.out.trans hk9)
       clear hp9 hk9 HP HK HX t1 z1
       have HP := HP9
       have HK := HK9
       have HX := HX9
       clear HP9 HK9 HX9)
    | (have _q := t2.out; clear _q; go_at_call 90; refine (num4_c HP.out (by (try simp only [List.length_append, beF_len, txF_len]); omega) (by omega) (by omega)).mono ?_; rintro _ w9 ⟨rfl, hp9, hk9⟩
       have HX9 := hid (hk9.other _ _ HX.out hne (op_notU8 x))
       have z3 := (op_all HX9.out).2.2.2.1
       have t3 := hid True.intro
       have HP9 := hid hp9
       have HK9 := hid (HK.out.trans hk9)
       clear hp9 hk9 HP HK HX t2 z2
       have HP := HP9
       have HK := HK9
       have HX := HX9
       clear HP9 HK9 HX9)
    | (have _q := t3.out; clear _q; go_at_call 91; refine (wtx_c HP.out (by (try simp only [List.length_append, beF_len, txF_len]); omega)).mono ?_; rintro _ w9 ⟨rfl, hp9, hk9⟩
       have HX9 := hid (hk9.other _ _ HX.out hne (op_notU8 x))
       have z4 := (op_all HX9.out).2.2.2.2.1
       have t4 := hid True.intro
       have HP9 := hid hp9
       have HK9 := hid (HK.out.trans hk9)
       clear hp9 hk9 HP HK HX t3 z3
       have HP := HP9
       have HK := HK9
       have HX := HX9
       clear HP9 HK9 HX9)
    | (have _q := t4.out; clear _q; go_at_call 90; refine (num4_c HP.out (by (try simp only [List.length_append, beF_len, txF_len]); omega) (by omega) (by omega)).mono ?_; rintro _ w9 ⟨rfl, hp9, hk9⟩
       have HX9 := hid (hk9.other _ _ HX.out hne (op_notU8 x))
       have z5 := (op_all HX9.out).2.2.2.2.2.1
       have t5 := hid True.intro
       have HP9 := hid hp9
       have HK9 := hid (HK.out.trans hk9)
       clear hp9 hk9 HP HK HX t4 z4
       have HP := HP9
       have HK := HK9
       have HX := HX9
       clear HP9 HK9 HX9)
    | (have _q := t5.out; clear _q; go_at_call 91; refine (wtx_c HP.out (by (try simp only [List.length_append, beF_len, txF_len]); omega)).mono ?_; rintro _ w9 ⟨rfl, hp9, hk9⟩
       have HX9 := hid (hk9.other _ _ HX.out hne (op_notU8 x))
       have z6 := (op_all HX9.out).2.2.2.2.2.2.1
       have t6 := hid True.intro
       have HP9 := hid hp9
       have HK9 := hid (HK.out.trans hk9)
       clear hp9 hk9 HP HK HX t5 z5
       have HP := HP9
       have HK := HK9
       have HX := HX9
       clear HP9 HK9 HX9)
    | (have _q := t6.out; clear _q; go_at_call 90; refine (num2_c HP.out (by (try simp only [List.length_append, beF_len, txF_len]); omega) (by omega) (by omega)).mono ?_; rintro _ w9 ⟨rfl, hp9, hk9⟩
       have HX9 := hid (hk9.other _ _ HX.out hne (op_notU8 x))
       have z7 := (op_all HX9.out).2.2.2.2.2.2.2
       have t7 := hid True.intro
       have HP9 := hid hp9
       have HK9 := hid (HK.out.trans hk9)
       clear hp9 hk9 HP HK HX t6 z6
       have HP := HP9
       have HK := HK9
       have HX := HX9
       clear HP9 HK9 HX9)
    | (have _q := t7.out; clear _q; go_at_call 91; refine (wtx_c HP.out (by (try simp only [List.length_append, beF_len, txF_len]); omega)).mono ?_; rintro _ w9 ⟨rfl, hp9, hk9⟩
       have HX9 := hid (hk9.other _ _ HX.out hne (op_notU8 x))
       have HP9 := hid hp9
       have HK9 := hid (HK.out.trans hk9)
       clear hp9 hk9 HP HK HX t7 z7
       have HP := HP9
       have HK := HK9
       have HX := HX9
       clear HP9 HK9 HX9))
  refine body_end (by kernel_rfl) rfl ⟨rfl, ?_, HK.out⟩
  have := HP.out
  unfold opB
  simpa only [List.append_assoc] using this
set_option maxRecDepth 20000 in
set_option maxHeartbeats 1000000 in
theorem writtenOp_c (x : Rec) (w : World) (hw : x.Wf) (hs : x.nm.size + x.nm2.size + x.dt.size < 100000) :
    Calls Try.prog 68 #[x.opV, .func (.func 69) #[] #[]] w fun e w' => ∃ v, e = .returned v ∧ w'.ownsRow w.heap.size 5 1 v (opB x).length ((opB x).map u8V) ∧ Below w.heap.size w w' := by
  have hx : (w.alloc (.cells x.ops.toArray 29)).heap[w.heap.size]? = some (.cells x.ops.toArray 29 (0, 0)) := heap_alloc_new w _
  have b1 := below_1 w (.cells x.ops.toArray 29)
  have hx2 := ((below_1 (w.alloc (.cells x.ops.toArray 29)) (.cells #[.slice none 0 0] 118)).block _ (lt_blkR hx)).trans hx
  obtain ⟨y0, y1, y2, y3, y4, y5, y6, y7⟩ := op_all hx2
  have hg2 := heap_alloc_new (w.alloc (.cells x.ops.toArray 29)) (.cells #[.slice none 0 0] 118)
  have hs1 : (w.alloc (.cells x.ops.toArray 29)).heap.size = w.heap.size + 1 := by simp
  have hs2 : ((w.alloc (.cells x.ops.toArray 29)).alloc (.cells #[.slice none 0 0] 118)).heap.size = w.heap.size + 2 := by simp
  rw [hs1] at hg2
  have B2 := hid (b1.trans ((below_1 (w.alloc (.cells x.ops.toArray 29)) (.cells #[.slice none 0 0] 118)).mono b1.size))
  have HP : Hid (Pile ((w.alloc (.cells x.ops.toArray 29)).alloc (.cells #[.slice none 0 0] 118)) 118 (w.heap.size + 2) (w.heap.size + 1) []) := hid ⟨by omega, by rw [hs2]; omega, _, hg2, World.ownsRow_nil _ _ _ _⟩
  have PC := hid (putOp_c 118 (w.heap.size + 2) (w.heap.size + 1) [] x _ HP.out (by simp) hw hs)
  have hE := enters_of Try.func69 (by kernel_rfl) rfl
  unfold Rec.opV at PC ⊢
  clear hx hx2 hg2 hs1 hs2 b1 HP
  go_enter Try.func68, Try.ntmps68
  go_wp2_with (first | (go_at_call 69; refine PC.out.mono ?_; rintro _ w1 ⟨rfl, ⟨hg, hbase, v, hbox, hown⟩, hk⟩; have hc := cell_box hbox; obtain ⟨va, vn, vc, rfl⟩ := own_slice hown))
  go_ret
  refine ⟨_, rfl, own_baseR hown (by omega), B2.out.trans (hk.below (by omega) (by omega))⟩
set_option maxRecDepth 20000 in
set_option maxHeartbeats 1000000 in
theorem op_c (x : Rec) (w : World) (hw : x.Wf) :
    Calls Try.prog 34 #[x.opV] w fun e w' => (if rightF x then ∃ v, e = .returned (.tuple #[v, .int .i64 0]) ∧ w'.ownsRow w.heap.size 5 1 v (opB x).length ((opB x).map u8V) else e = .returned (.tuple #[.slice none 0 0, .int .i64 3])) ∧ Below w.heap.size w w' := by
  have hx : (w.alloc (.cells x.ops.toArray 29)).heap[w.heap.size]? = some (.cells x.ops.toArray 29 (0, 0)) := heap_alloc_new w _
  obtain ⟨y0, y1, y2, y3, y4, y5, y6, y7⟩ := op_all hx
  have B0 := hid (below_1 w (.cells x.ops.toArray 29))
  have HX := hid hx
  have RC := hid (rightOp_c x (w.alloc (.cells x.ops.toArray 29)) hw.2.2.2.2.2.2.1 hw.2.2.2.2.2.2.2.1)
  have HS := hid (fun (h : rightF x = true) => right_size x h)
  have WC := hid (fun W h => writtenOp_c x W hw h)
  unfold Rec.opV at RC WC ⊢
  clear hx hw
  cases hr : rightF x with
  | false =>
    rw [hr] at RC
    go_enter Try.func34, Try.ntmps34
    go_wp2_with (go_at_call 55; refine RC.out.mono ?_; rintro _ w1 ⟨rfl, hb1⟩)
    go_ret2
    exact ⟨rfl, B0.out.trans (hb1.mono B0.out.size)⟩
  | true =>
    rw [hr] at RC
    have hsz := HS.out hr
    go_enter Try.func34, Try.ntmps34
    go_wp2_with (first
      | (go_at_call 68; refine (WC.out _ (by omega)).mono ?_; rintro _ w2 ⟨v2, rfl, hO2, hb2⟩; obtain ⟨a2, c2, rfl⟩ := own_shapeR hO2)
      | (go_at_call 55; refine RC.out.mono ?_; rintro _ w1 ⟨rfl, hb1⟩; have B1 := hid (B0.out.trans (hb1.mono B0.out.size)); obtain ⟨z0, z1, z2, z3, z4, z5, z6, z7⟩ := op_all ((hb1.block _ (lt_blkR HX.out)).trans HX.out); clear hb1))
    go_ret2
    exact ⟨⟨_, rfl, own_baseR hO2 B1.out.size⟩, B1.out.trans (hb2.mono B1.out.size)⟩
end Go.Proofs.Ytbgninmkglgfeaa
