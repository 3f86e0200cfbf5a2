/-
  Bytes that more are written behind: the writer of the package record.
  An operation's bytes: putOp, written, Op of the package record.
  Bytes of which the first ones are taken off: the reader of the package record.
-/
import Derived.Test.YtihgiemgcmpmmaaGreatShAd
import Derived.Laws.AppendOwnNone
import Derived.Deep.RegionLaw
import Derived.Deep.LoopGhost
import Derived.Laws.BitsLemmas
import Derived.Shelf.Abstract
namespace Go.Proofs.YtihgiemgcmpmmaaGreat
open Go.RowKit Go.ChangeShapes Go.WideShapes Go.ChangeAt
set_option linter.unusedVariables false
set_option linter.unusedSimpArgs false
theorem step_app1 (w : World) {ops : Array Oper} {o : Oper} {a : Act} {K : Act → World → Prop} {Q : Exit → Act → World → Prop} {E : Prop} (hgd : o.guard = none) (s x : Operand)
   (ho : o.op = .call { callee := .builtin .append, args := #[s, x], argTypes := #[38, 38] }) (base : Nat) (v : Value) (n : Nat) (xs : List Value) (hs : a.eval s = v) (hown : w.ownsRow base 5 1 v n xs)
   (g : Nat) (b : Int) (hx : a.eval x = .slice (some ⟨g, 0, none⟩) 1 1) (hb : w.heap[g]? = some (.cells #[.int .u8 b] 5 (0, 0))) (h63 : n ≤ 1000000) (hbase : base ≤ w.heap.size)
   (h : ∀ v' w', w'.ownsRow base 5 1 v' (n + 1) (xs ++ [.int .u8 b]) → w.grownBy w' v.ownBlock → K (a.put o.dst v') w') :
   if Region.wanted o (yielded ops a.tmps) = true then Oper.wp Tryz.prog o a w K Q else E := by
 rw [if_pos (by simp [Region.wanted, hgd])]
 obtain ⟨i0, hi, hz0, hz1, hz2⟩ := info_parts8
 refine wp_append_own w s x 38 ho base 5 i0 (.int .u8 0) 1 1 Tryz.underlying38 hi hz0 hz1 hz2 rfl (by decide) v n xs hs hown ⟨g, 0, none⟩ 1 1 [.int .u8 b] hx rfl (fun j u hu => ?_) (fun y hy => by simp at hy; subst hy; rfl) (by unfold maxLen; omega) (by omega) hbase ?_
 · have e : (⟨g, 0, none⟩ : Addr).add j = ⟨g, 0 + j, none⟩ := by unfold Addr.add; split <;> simp_all
   rw [e, cell_of_row w g _ _ _ _ hb]
   simpa using hu
 · intro v' w' h2 h3 _
   exact h v' w' h2 h3
def NotU8 (o : Obj) : Prop := ∀ cs fr, o ≠ .cells cs 5 fr
structure KpT (base g : Nat) (w w' : World) : Prop where
 os : w'.os = w.os
 tape : w'.tape = w.tape
 output : w'.output = w.output
 size : w.heap.size ≤ w'.heap.size
 block : ∀ k, k < base → k ≠ g → w'.heap[k]? = w.heap[k]?
 other : ∀ k o, w.heap[k]? = some o → k ≠ g → NotU8 o → w'.heap[k]? = some o
theorem KpT.refl (base g : Nat) (w : World) : KpT base g w w := ⟨rfl, rfl, rfl, Nat.le_refl _, fun _ _ _ => rfl, fun _ _ h _ _ => h⟩
theorem KpT.trans {base g : Nat} {a b c : World} (h : KpT base g a b) (k : KpT base g b c) : KpT base g a c :=
 ⟨k.os.trans h.os, k.tape.trans h.tape, k.output.trans h.output, Nat.le_trans h.size k.size, fun i hi hne => (k.block i hi hne).trans (h.block i hi hne), fun i o ho hne hu => k.other i o (h.other i o ho hne hu) hne hu⟩
theorem KpT.on {base g : Nat} {a b c : World} (h : KpT base g a b) (k : KpT base g b.drew c) : KpT base g a c := h.trans ⟨k.os, k.tape, k.output, k.size, k.block, k.other⟩
theorem KpT.below {base g B : Nat} {a b : World} (h : KpT base g a b) (h1 : B ≤ base) (h2 : B ≤ g) : Below B a b := ⟨h.os, h.tape, h.output, h.size, fun k hk => h.block k (by omega) (by omega)⟩
theorem own_u8 {w : World} {base n : Nat} {v : Value} {xs : List Value} (h : w.ownsRow base 5 1 v n xs) {k : Nat} {o : Obj} (hk : w.heap[k]? = some o) (hu : NotU8 o) : some k ≠ v.ownBlock := fun e => by
 rcases h.2 with ⟨rfl, _⟩ | ⟨g, cap, cur, rfl, _, hg, _⟩
 · cases e
 · cases e
   rw [hg] at hk
   exact hu _ _ (Option.some.inj hk).symm
theorem alloc_kpT {w : World} {base g : Nat} (o : Obj) (hbase : base ≤ w.heap.size) : KpT base g w (w.alloc o) :=
 ⟨rfl, rfl, rfl, (below_1 w o).size, fun k hk _ => (below_1 w o).block k (by omega), fun k o' h _ _ => ((below_1 w o).block k (lt_blkR h)).trans h⟩
theorem lay_kpT {w w5 : World} {base g : Nat} {v v' : Value} {n : Nat} {xs : List Value} {o : Obj} (hown : w.ownsRow base 5 1 v n xs) (hg : g < base) (hgrow : (w.alloc o).grownBy w5 v.ownBlock) (hbase : base ≤ w.heap.size) :
   KpT base g w (w5.setCell ⟨g, 0, none⟩ v') :=
 ⟨hgrow.os, hgrow.tape, hgrow.output, by have := hgrow.size; simp [World.setCell] at this ⊢; omega, fun k hk hne => by
   rw [heap_setCell_other _ _ _ _ hne, hgrow.block k (by simp; omega) (fun e => by have := (hown.lt k e.symm).1; omega), Below.heap_alloc _ _ _ (by omega)],
  fun k o' h hne hu => by
   rw [heap_setCell_other _ _ _ _ hne, hgrow.block k (by have := lt_blkR h; simp; omega) (own_u8 hown h hu), Below.heap_alloc _ _ _ (lt_blkR h)]; exact h⟩
theorem text_kpT {w w5 : World} {base g : Nat} {v v' : Value} {n : Nat} {xs : List Value} (hown : w.ownsRow base 5 1 v n xs) (hg : g < base) (hgrow : w.grownBy w5 v.ownBlock) (hbase : base ≤ w.heap.size) :
   KpT base g w (w5.setCell ⟨g, 0, none⟩ v') :=
 ⟨hgrow.os, hgrow.tape, hgrow.output, by have := hgrow.size; simp [World.setCell] at this ⊢; omega, fun k hk hne => by
   rw [heap_setCell_other _ _ _ _ hne, hgrow.block k (by omega) (fun e => by have := (hown.lt k e.symm).1; omega)],
  fun k o' h hne hu => by
   rw [heap_setCell_other _ _ _ _ hne, hgrow.block k (lt_blkR h) (own_u8 hown h hu)]; exact h⟩
def beF (n : Int) : Nat → List Int
 | 0 => []
 | s + 1 => (n / 256 ^ s) % 256 :: beF n s
theorem beF_len (n : Int) : ∀ s, (beF n s).length = s
 | 0 => rfl
 | s + 1 => by simp [beF, beF_len n s]
theorem beF_get (n : Int) : ∀ (s i : Nat), i < s → (beF n s)[i]? = some ((n / 256 ^ (s - 1 - i)) % 256)
 | 0, i, h => by omega
 | s + 1, 0, h => by simp [beF]
 | s + 1, i + 1, h => by
   rw [beF, List.getElem?_cons_succ, beF_get n s i (by omega), show s - 1 - i = s + 1 - 1 - (i + 1) by omega]
theorem beF_take (n : Int) (s i : Nat) (h : i < s) : (beF n s).take (i + 1) = (beF n s).take i ++ [(n / 256 ^ (s - 1 - i)) % 256] := by
 rw [List.take_add_one, beF_get n s i h]; rfl
theorem shr_u64 (n : Int) (d : Nat) (hd : d ≤ 8) : Op.shift .shr .u64 n .i64 (8 * (d : Int)) = pure (.int .u64 (n / 256 ^ d)) := by
 have h := Go.shift_shr .u64 .i64 n (8 * (d : Int)) (by omega) (by simp [IntKind.bits]; omega)
 rw [h, show ((8 * (d : Int)).toNat) = 8 * d by omega, Int.pow_mul]; rfl
set_option maxRecDepth 20000 in
set_option maxHeartbeats 1000000 in
theorem number_c (T base g : Nat) (zs : List Int) (n : Int) (s : Nat) (w : World) (hp : Pile w T base g zs) (hn : zs.length < 900000) (hs : s ≤ 8) (h0 : 0 ≤ n) (h1 : n < 18446744073709551616) :
   Calls Tryz.prog 77 #[.pointer (some ⟨g, 0, none⟩), .int .u64 n, .int .i64 s] w fun e w' => e = .returned (.tuple #[]) ∧ Pile w' T base g (zs ++ beF n s) ∧ KpT base g w w' := by
 have HP := hid hp
 clear hp
 go_enter Tryz.func77, Tryz.ntmps77
 go_wp2
 go_loopg [8] s (fun k v wr => ∃ i : Nat, i + k = s ∧ v = .int .i64 i ∧ Hid (Pile wr T base g (zs ++ (beF n s).take i)) ∧ Hid (KpT base g w wr))
 case atStart => exact ⟨0, by omega, rfl, hid (by simpa using HP.out), hid (KpT.refl _ _ _)⟩
 case round =>
   obtain ⟨i, hik, rfl, HPi, HK⟩ := hrel
   by_cases hlt : i < s
   · have hltI : (i : Int) < s := by omega
     obtain ⟨hg, hbase, v, hbox, hown⟩ := HPi.out
     obtain ⟨va, vn, vc, rfl⟩ := own_slice hown
     have hc := cell_box hbox
     have hgl : g < wr.heap.size := by omega
     have hdown : wr.drew.ownsRow base 5 1 (.slice va vn vc) (zs ++ (beF n s).take i).length ((zs ++ (beF n s).take i).map u8V) := hown
     have hll : (zs ++ (beF n s).take i).length ≤ 1000000 := by rw [List.length_append, List.length_take, beF_len]; omega
     obtain ⟨d, hd⟩ : ∃ d, d = s - 1 - i := ⟨_, rfl⟩
     have HD := hid hd
     have k1 : IntKind.i64.wrap ((s : Int) - 1) = (s : Int) - 1 := by rw [IntKind.wrap_i64]; omega
     have k2 : IntKind.i64.wrap ((s : Int) - 1 - i) = d := by rw [IntKind.wrap_i64]; omega
     have k3 : IntKind.i64.wrap (8 * (d : Int)) = 8 * (d : Int) := by rw [IntKind.wrap_i64]; omega
     have k4 := shr_u64 n d (by omega)
     have HBT := hid (beF_take n s i hlt)
     rw [← hd] at HBT
     clear hd
     go_upto_region 3 with fail
     go_region_law (first | (refine step_app1 _ (by rfl) _ _ (by rfl) base (.slice va vn vc) _ _ (by rfl) (hdown.alloc _) wr.heap.size _ (by rfl) (heap_alloc_new _ _) hll (Nat.le_trans hbase (below_1 _ _).size) ?_; intro v' w5 hown' hgrow5; (have hbox5 := lay_box (w := wr.drew) hbox hdown hg hgrow5 hgl); (have hc5 := cell_box hbox5); (have hf5 := frozen_box hbox5); obtain ⟨a5, n5, c5, rfl⟩ := own_slice hown'))
     all_goals
       have HP2 : Hid (Pile (w5.setCell ⟨g, 0, none⟩ (.slice a5 n5 c5)) T base g (zs ++ (beF n s).take (i + 1))) := hid (by
         refine ⟨hg, ?_, _, heap_setBox _ hbox5, ?_⟩
         · have := hgrow5.size; simp at this ⊢; omega
         · rw [HBT.out, ← List.append_assoc]
           have := ownsRow_setCell_below hown' (a := ⟨g, 0, none⟩) hg (.slice a5 n5 c5)
           rw [List.length_append, List.map_append]
           simpa [u8V, IntKind.wrap_u8'] using this)
       have HK2 := hid (HK.out.on (lay_kpT (w := wr.drew) (v' := .slice a5 n5 c5) hdown hg hgrow5 hbase))
       go_wp2
       go_roundg (gk - 1)
       case measure => omega
       case rel => exact ⟨i + 1, by omega, by go_num, HP2, HK2⟩
   · have em : i = s := by omega
     subst em
     have hge : ¬ (i : Int) < i := by omega
     have HP3 : Hid (Pile wr T base g (zs ++ beF n i)) := hid (by have := HPi.out; rw [List.take_of_length_le (by rw [beF_len]; omega)] at this; exact this)
     go_wp2
     exact body_end (by kernel_rfl) rfl ⟨rfl, HP3.out, HK.out⟩
def txF (s : ByteArray) : List Int := beF (s.size : Int) 1 ++ Fr.bs s
theorem txF_len (s : ByteArray) : (txF s).length = s.size + 1 := by unfold txF; rw [List.length_append, beF_len, Fr.bs_length]; omega
theorem Pile.len {w : World} {T base g : Nat} {zs : List Int} (h : Pile w T base g zs) : g < base ∧ base ≤ w.heap.size := ⟨h.1, h.2.1⟩
theorem Pile.other {w w' : World} {T base g : Nat} {zs : List Int} (h : Pile w T base g zs) (o : Obj) : Pile (w.alloc o) T base g zs := by
 obtain ⟨hg, hbase, v, hbox, hown⟩ := h
 exact ⟨hg, Nat.le_trans hbase (below_1 w o).size, v, ((below_1 w o).block _ (lt_blkR hbox)).trans hbox, hown.alloc o⟩
set_option maxRecDepth 20000 in
set_option maxHeartbeats 1000000 in
theorem wtext_c (T base g : Nat) (zs : List Int) (s : ByteArray) (w : World) (hp : Pile w T base g zs) (hn : zs.length + s.size < 800000) :
   Calls Tryz.prog 98 #[.pointer (some ⟨g, 0, none⟩), .string s] w fun e w' => e = .returned (.tuple #[]) ∧ Pile w' T base g (zs ++ txF s) ∧ KpT base g w w' := by
 have NC := hid (number_c T base g zs (s.size : Int) 1 w hp (by omega) (by omega) (by omega) (by omega))
 obtain ⟨i0, hi, hz0, hz1, hz2⟩ := info_parts8
 have ku : IntKind.u64.wrap (s.size : Int) = s.size := by rw [IntKind.wrap_u64]; omega
 clear hp
 go_enter Tryz.func98, Tryz.ntmps98
 go_wp2_with (first
   | (at_builtin; refine Lib.wpList_append_own_string _ rfl _ _ 38 9 rfl base 5 i0 Tryz.underlying38 Tryz.underlying9 hi hz0 hz1 hz2 _ _ _ rfl hown s rfl (by rw [List.length_append, beF_len]; unfold maxLen; omega) (by rw [List.length_append, beF_len]; omega) hbase ?_; intro v' w5 hown' hgrow5 hnil5; (have hbox5 := text_box hbox hown hg hgrow5 (by omega)); (have hc5 := cell_box hbox5); (have hf5 := frozen_box hbox5); obtain ⟨a5, n5, c5, rfl⟩ := own_slice hown')
   | (go_at_call 77; refine NC.out.mono ?_; rintro _ w1 ⟨rfl, ⟨hg, hbase, v, hbox, hown⟩, hk1⟩; have hc := cell_box hbox; obtain ⟨va, vn, vc, rfl⟩ := own_slice hown; have K1 := hid hk1; clear hk1))
 rw [strCells_bs] at hown'
 refine body_end (by kernel_rfl) rfl ⟨rfl, ⟨hg, ?_, _, heap_setBox _ hbox5, ?_⟩, K1.out.trans (text_kpT hown hg hgrow5 hbase)⟩
 · have := hgrow5.size; simp at this ⊢; omega
 · have := ownsRow_setCell_below hown' (a := ⟨g, 0, none⟩) hg (.slice a5 n5 c5)
   unfold txF
   rw [← List.append_assoc, List.length_append, List.map_append, Fr.bs_length]
   exact this
end Go.Proofs.YtihgiemgcmpmmaaGreat
namespace Go.Proofs.YtihgiemgcmpmmaaGreat
open Go.RowKit Go.ChangeShapes Go.WideShapes Go.ChangeAt Go.Shelf
set_option linter.unusedVariables false
set_option linter.unusedSimpArgs false
def opB (x : Rec) : List Int := beF x.k 1 ++ beF x.fid 4 ++ beF x.dir 4 ++ txF x.nm ++ beF x.to 4 ++ txF x.nm2 ++ beF x.md 2 ++ txF x.dt
theorem opB_len (x : Rec) : (opB x).length = 18 + x.nm.size + x.nm2.size + x.dt.size := by unfold opB; simp only [List.length_append, beF_len, txF_len]; omega
theorem op_notU8 (x : Rec) : NotU8 (.cells x.ops.toArray 34 (0, 0)) := fun cs fr e => by
 injection e with e1 e2
 cases e2
theorem name_size (s : ByteArray) (h : Pa.nameB s.data.toList = true) : s.size ≤ 12 := by
 unfold Pa.nameB at h
 simp only [Bool.and_eq_true, decide_eq_true_eq] at h
 exact h.1.1.1.2
theorem empty_size (s : ByteArray) (h : (s.toList == []) = true) : s.size = 0 := by
 have h1 : s.toList = [] := by simpa using h
 rw [Lib.toList_data] at h1
 have : s.data.toList.length = 0 := by rw [h1]; rfl
 simpa using this
theorem ent_size (b : Bool) (f : Int) (s : ByteArray) (h : entF b f s = true) : s.size ≤ 12 := by
 unfold entF at h
 cases b with
 | true => simp only [if_true, Bool.and_eq_true] at h; exact name_size s h.2
 | false => simp only [Bool.false_eq_true, if_false, Bool.and_eq_true] at h; have := empty_size s h.2; omega
theorem dat_size (b : Bool) (s : ByteArray) (h : datF b s = true) : s.size ≤ 64 := by
 unfold datF at h
 cases b with
 | true => simpa using h
 | false => simp only [Bool.false_eq_true, if_false] at h; have := empty_size s h; omega
theorem right_size (x : Rec) (h : rightF x = true) : x.nm.size ≤ 12 ∧ x.nm2.size ≤ 12 ∧ x.dt.size ≤ 64 := by
 unfold rightF at h
 simp only [Bool.and_eq_true] at h
 obtain ⟨_, ⟨⟨h1, h2⟩, _⟩, h4⟩ := h
 exact ⟨ent_size _ _ _ h1, ent_size _ _ _ h2, dat_size _ _ h4⟩
theorem num1_c {T base g : Nat} {zs : List Int} {n : Int} {w : World} (hp : Pile w T base g zs) (hn : zs.length < 900000) (h0 : 0 ≤ n) (h1 : n < 18446744073709551616) :
   Calls Tryz.prog 77 #[.pointer (some ⟨g, 0, none⟩), .int .u64 n, .int .i64 1] w fun e w' => e = .returned (.tuple #[]) ∧ Pile w' T base g (zs ++ beF n 1) ∧ KpT base g w w' :=
 number_c T base g zs n 1 w hp hn (by omega) h0 h1
theorem num2_c {T base g : Nat} {zs : List Int} {n : Int} {w : World} (hp : Pile w T base g zs) (hn : zs.length < 900000) (h0 : 0 ≤ n) (h1 : n < 18446744073709551616) :
   Calls Tryz.prog 77 #[.pointer (some ⟨g, 0, none⟩), .int .u64 n, .int .i64 2] w fun e w' => e = .returned (.tuple #[]) ∧ Pile w' T base g (zs ++ beF n 2) ∧ KpT base g w w' :=
 number_c T base g zs n 2 w hp hn (by omega) h0 h1
theorem num4_c {T base g : Nat} {zs : List Int} {n : Int} {w : World} (hp : Pile w T base g zs) (hn : zs.length < 900000) (h0 : 0 ≤ n) (h1 : n < 18446744073709551616) :
   Calls Tryz.prog 77 #[.pointer (some ⟨g, 0, none⟩), .int .u64 n, .int .i64 4] w fun e w' => e = .returned (.tuple #[]) ∧ Pile w' T base g (zs ++ beF n 4) ∧ KpT base g w w' :=
 number_c T base g zs n 4 w hp hn (by omega) h0 h1
theorem num8_c {T base g : Nat} {zs : List Int} {n : Int} {w : World} (hp : Pile w T base g zs) (hn : zs.length < 900000) (h0 : 0 ≤ n) (h1 : n < 18446744073709551616) :
   Calls Tryz.prog 77 #[.pointer (some ⟨g, 0, none⟩), .int .u64 n, .int .i64 8] w fun e w' => e = .returned (.tuple #[]) ∧ Pile w' T base g (zs ++ beF n 8) ∧ KpT base g w w' :=
 number_c T base g zs n 8 w hp hn (by omega) h0 h1
theorem wtx_c {T base g : Nat} {zs : List Int} {s : ByteArray} {w : World} (hp : Pile w T base g zs) (hn : zs.length + s.size < 800000) :
   Calls Tryz.prog 98 #[.pointer (some ⟨g, 0, none⟩), .string s] w fun e w' => e = .returned (.tuple #[]) ∧ Pile w' T base g (zs ++ txF s) ∧ KpT base g w w' :=
 wtext_c T base g zs s w hp hn
set_option maxRecDepth 20000 in
set_option maxHeartbeats 600000 in
theorem putOp_c (T base g : Nat) (zs : List Int) (x : Rec) (w : World) (hp : Pile w T base g zs) (hn : zs.length < 500000) (hw : x.Wf) (hs : x.nm.size + x.nm2.size + x.dt.size < 100000) :
   Calls Tryz.prog 78 #[.pointer (some ⟨g, 0, none⟩), x.opV] w fun e w' => e = .returned (.tuple #[]) ∧ Pile w' T base g (zs ++ opB x) ∧ KpT base g w w' := by
 obtain ⟨h1, h2, h3, h4, h5, h6, h7, h8, h9⟩ := hw
 have u1 : IntKind.u64.wrap x.k = x.k := by rw [IntKind.wrap_u64]; omega
 have u2 : IntKind.u64.wrap x.fid = x.fid := by rw [IntKind.wrap_u64]; omega
 have u3 : IntKind.u64.wrap x.dir = x.dir := by rw [IntKind.wrap_u64]; omega
 have u4 : IntKind.u64.wrap x.to = x.to := by rw [IntKind.wrap_u64]; omega
 have u5 : IntKind.u64.wrap x.md = x.md := by rw [IntKind.wrap_u64]; omega
 have hx : (w.alloc (.cells x.ops.toArray 34)).heap[w.heap.size]? = some (.cells x.ops.toArray 34 (0, 0)) := heap_alloc_new w _
 obtain ⟨y0, y1, y2, y3, y4, y5, y6, y7⟩ := op_all hx
 have hne : w.heap.size ≠ g := by have := hp.len; omega
 have HX := hid hx
 have HP := hid (hp.other (w' := w) (.cells x.ops.toArray 34))
 have HK : Hid (KpT base g w (w.alloc (.cells x.ops.toArray 34))) := hid (alloc_kpT _ hp.len.2)
 unfold Rec.opV
 clear hx hp h6 h7 h8 h9
 go_enter Tryz.func78, Tryz.ntmps78
 clear y1 y2 y3 y4 y5 y6 y7
 have t0 := hid True.intro
 go_wp2_with (first
   | (have _q := t0.out; clear _q; go_at_call 77; refine (num1_c HP.out (by (try simp only [List.length_append, beF_len, txF_len]); omega) (by omega) (by omega)).mono ?_; rintro _ w9 ⟨rfl, hp9, hk9⟩
      have HX9 := hid (hk9.other _ _ HX.out hne (op_notU8 x))
      have z1 := (op_all HX9.out).2.1
      have t1 := hid True.intro
      have HP9 := hid hp9
      have HK9 := hid (HK.out.trans hk9)
      clear hp9 hk9 HP HK HX t0
      have HP := HP9
      have HK := HK9
      have HX := HX9
      clear HP9 HK9 HX9)
   | (have _q := t1.out; clear _q; go_at_call 77; refine (num4_c HP.out (by (try simp only [List.length_append, beF_len, txF_len]); omega) (by omega) (by omega)).mono ?_; rintro _ w9 ⟨rfl, hp9, hk9⟩
      have HX9 := hid (hk9.other _ _ HX.out hne (op_notU8 x))
      have z2 := (op_all HX9.out).2.2.1
      have t2 := hid True.intro
      have HP9 := hid hp9
      have HK9 := hid (HK.out.trans hk9)
      clear hp9 hk9 HP HK HX t1 z1
      have HP := HP9
      have HK := HK9
      have HX := HX9
      clear HP9 HK9 HX9)
   | (have _q := t2.out; clear _q; go_at_call 77; refine (num4_c HP.out (by (try simp only [List.length_append, beF_len, txF_len]); omega) (by omega) (by omega)).mono ?_; rintro _ w9 ⟨rfl, hp9, hk9⟩
      have HX9 := hid (hk9.other _ _ HX.out hne (op_notU8 x))
      have z3 := (op_all HX9.out).2.2.2.1
      have t3 := hid True.intro
      have HP9 := hid hp9
      have HK9 := hid (HK.out.trans hk9)
      clear hp9 hk9 HP HK HX t2 z2
      have HP := HP9
      have HK := HK9
      have HX := HX9
      clear HP9 HK9 HX9)
   | (have _q := t3.out; clear _q; go_at_call 98; refine (wtx_c HP.out (by (try simp only [List.length_append, beF_len, txF_len]); omega)).mono ?_; rintro _ w9 ⟨rfl, hp9, hk9⟩
      have HX9 := hid (hk9.other _ _ HX.out hne (op_notU8 x))
      have z4 := (op_all HX9.out).2.2.2.2.1
      have t4 := hid True.intro
      have HP9 := hid hp9
      have HK9 := hid (HK.out.trans hk9)
      clear hp9 hk9 HP HK HX t3 z3
      have HP := HP9
      have HK := HK9
      have HX := HX9
      clear HP9 HK9 HX9)
   | (have _q := t4.out; clear _q; go_at_call 77; refine (num4_c HP.out (by (try simp only [List.length_append, beF_len, txF_len]); omega) (by omega) (by omega)).mono ?_; rintro _ w9 ⟨rfl, hp9, hk9⟩
      have HX9 := hid (hk9.other _ _ HX.out hne (op_notU8 x))
      have z5 := (op_all HX9.out).2.2.2.2.2.1
      have t5 := hid True.intro
      have HP9 := hid hp9
      have HK9 := hid (HK.out.trans hk9)
      clear hp9 hk9 HP HK HX t4 z4
      have HP := HP9
      have HK := HK9
      have HX := HX9
      clear HP9 HK9 HX9)
   | (have _q := t5.out; clear _q; go_at_call 98; refine (wtx_c HP.out (by (try simp only [List.length_append, beF_len, txF_len]); omega)).mono ?_; rintro _ w9 ⟨rfl, hp9, hk9⟩
      have HX9 := hid (hk9.other _ _ HX.out hne (op_notU8 x))
      have z6 := (op_all HX9.out).2.2.2.2.2.2.1
      have t6 := hid True.intro
      have HP9 := hid hp9
      have HK9 := hid (HK.out.trans hk9)
      clear hp9 hk9 HP HK HX t5 z5
      have HP := HP9
      have HK := HK9
      have HX := HX9
      clear HP9 HK9 HX9)
   | (have _q := t6.out; clear _q; go_at_call 77; refine (num2_c HP.out (by (try simp only [List.length_append, beF_len, txF_len]); omega) (by omega) (by omega)).mono ?_; rintro _ w9 ⟨rfl, hp9, hk9⟩
      have HX9 := hid (hk9.other _ _ HX.out hne (op_notU8 x))
      have z7 := (op_all HX9.out).2.2.2.2.2.2.2
      have t7 := hid True.intro
      have HP9 := hid hp9
      have HK9 := hid (HK.out.trans hk9)
      clear hp9 hk9 HP HK HX t6 z6
      have HP := HP9
      have HK := HK9
      have HX := HX9
      clear HP9 HK9 HX9)
   | (have _q := t7.out; clear _q; go_at_call 98; refine (wtx_c HP.out (by (try simp only [List.length_append, beF_len, txF_len]); omega)).mono ?_; rintro _ w9 ⟨rfl, hp9, hk9⟩
      have HX9 := hid (hk9.other _ _ HX.out hne (op_notU8 x))
      have HP9 := hid hp9
      have HK9 := hid (HK.out.trans hk9)
      clear hp9 hk9 HP HK HX t7 z7
      have HP := HP9
      have HK := HK9
      have HX := HX9
      clear HP9 HK9 HX9))
 refine body_end (by kernel_rfl) rfl ⟨rfl, ?_, HK.out⟩
 have := HP.out
 unfold opB
 simpa only [List.append_assoc] using this
abbrev PN : Ending := .panicked [{ v := .iface 106 (.agg #[.int .i64 3]), recovered := false }]
set_option maxHeartbeats 1000000 in
theorem refuse_f (w : World) : Calls Tryz.prog 82 #[.bool false] w fun e w' => e = .returned (.tuple #[]) ∧ w' = w := by
 go_enter Tryz.func82, Tryz.ntmps82
 go_wp2
 exact body_end (by kernel_rfl) rfl ⟨rfl, rfl⟩
set_option maxHeartbeats 1000000 in
theorem refuse_t (w : World) : Calls Tryz.prog 82 #[.bool true] w fun e w' => e = PN ∧ w' = w := by
 go_enter Tryz.func82, Tryz.ntmps82
 go_wp2
 exact ⟨rfl, rfl, rfl⟩
def Rdr (w : World) (r : Nat) (a : Option Addr) (c : Nat) (zs : List Int) : Prop :=
 w.heap[r]? = some (.cells #[.slice a zs.length c] 141 (0, 0)) ∧ IsB w a zs.length zs ∧ zs.length ≤ c ∧ (a = none ∧ c = 0 ∨ ∃ b off, a = some ⟨b, off, none⟩ ∧ b < r)
theorem isB_set {w : World} {r : Nat} {u : Value} {T : TypeId} {a : Option Addr} {n : Nat} {zs : List Int} (h : IsB w a n zs) (hr : w.heap[r]? = some (.cells #[u] T (0, 0))) (hu : ∀ x, u ≠ .int .u8 x) (v : Value) : IsB (w.setCell ⟨r, 0, none⟩ v) a n zs := by
 obtain ⟨h1, h2, h3, h4⟩ := h
 refine ⟨h1, h2, fun hp => ?_, h4⟩
 obtain ⟨b, off, rfl, hc⟩ := h3 hp
 refine ⟨b, off, rfl, fun i hi => ?_⟩
 have hi2 := hc i hi
 have hne : b ≠ r := fun e => by
   subst e
   rw [cell_of_row w b _ _ _ _ hr] at hi2
   rcases q : off + i with _ | k
   · rw [q] at hi2; simp at hi2; exact hu _ hi2
   · rw [q] at hi2; simp at hi2
 rw [World.cell?_setCell_far _ _ _ _ (fun e => hne e.symm)]
 exact hi2
theorem isB_drop {w : World} {b off n c : Nat} {zs : List Int} (h : IsB w (some ⟨b, off, none⟩) n zs) (k : Nat) (hk : k ≤ n) : IsB w (if c = k then some ⟨b, off, none⟩ else some ⟨b, off + k, none⟩) (n - k) (zs.drop k) ∨ c < n := by
 by_cases hc : c < n
 · exact .inr hc
 left
 obtain ⟨h1, h2, h3, h4⟩ := h
 refine ⟨by rw [List.length_drop]; omega, by omega, fun hp => ?_, fun i => ?_⟩
 · rw [if_neg (by omega)]
   obtain ⟨b', off', e, hcell⟩ := h3 (by omega)
   cases e
   refine ⟨b, off + k, rfl, fun i hi => ?_⟩
   rw [Nat.add_assoc, hcell (k + i) (by omega)]
   simp [List.getD, List.getElem?_drop]
 · have := h4 (k + i)
   simpa [List.getD, List.getElem?_drop] using this
theorem Rdr.cell {w : World} {r : Nat} {a : Option Addr} {c : Nat} {zs : List Int} (h : Rdr w r a c zs) : w.cell? ⟨r, 0, none⟩ = some (.slice a zs.length c) ∧ w.frozen? ⟨r, 0, none⟩ = false := ⟨cell_box h.1, frozen_box h.1⟩
def PiecePost (w : World) (r : Nat) (c : Nat) (zs : List Int) (k : Nat) (e : Ending) (w' : World) : Prop :=
 if k ≤ zs.length then (∃ p, e = .returned (.slice p k c) ∧ IsB w' p k (zs.take k)) ∧ ∃ a' u, w' = w.setCell ⟨r, 0, none⟩ u ∧ Rdr w' r a' (c - k) (zs.drop k) else e = PN ∧ w' = w
theorem slice_no8 (a : Option Addr) (n c : Nat) : ∀ x, (Value.slice a n c) ≠ .int .u8 x := fun x e => by cases e
set_option maxRecDepth 20000 in
set_option maxHeartbeats 1000000 in
theorem piece_c (r : Nat) (a : Option Addr) (c : Nat) (zs : List Int) (k : Nat) (w : World) (h : Rdr w r a c zs) (hk : k < 9223372036854775808) :
   Calls Tryz.prog 100 #[.pointer (some ⟨r, 0, none⟩), .int .i64 k] w (PiecePost w r c zs k) := by
 obtain ⟨hcell, hfr⟩ := h.cell
 have hm := h.2.1.2.1
 unfold maxLen at hm
 have HH := hid h
 have hlc := h.2.2.1
 by_cases q : k ≤ zs.length
 · have qI : ¬ (zs.length : Int) < k := by omega
   have qI2 : (k : Int) ≤ zs.length := by omega
   have hcI : (k : Int) ≤ c := by omega
   have hcN : k ≤ c := by omega
   have hcm : (c : Int) - k = ((c - k : Nat) : Int) := by omega
   rcases h.2.2.2 with ⟨rfl, rfl⟩ | ⟨b, off, rfl, hbr⟩
   · have hz : zs = [] := List.eq_nil_of_length_eq_zero (by omega)
     subst hz
     obtain rfl : k = 0 := by simpa using q
     clear h qI qI2 hcI hcN
     go_enter Tryz.func100, Tryz.ntmps100
     go_wp2_with (go_at_call 82; refine (refuse_f _).mono ?_; rintro _ _ ⟨rfl, rfl⟩)
     go_ret
     unfold PiecePost
     rw [if_pos (by simp)]
     refine ⟨⟨_, rfl, ?_⟩, none, _, rfl, heap_setBox _ HH.out.1, ?_, by simp, .inl ⟨rfl, rfl⟩⟩
     · exact ⟨rfl, by unfold maxLen; omega, fun hp => absurd hp (by omega), fun i => by simp⟩
     · exact ⟨rfl, by unfold maxLen; simp, fun hp => absurd hp (by simp), fun i => by simp⟩
   · have HD := hid (isB_drop (c := c) h.2.1 k q)
     clear h
     have HF := hid ((HH.out.2.1.front k q).1)
     by_cases hck : c = k
     · subst hck
       have hzl : zs.length - c = 0 := by omega
       go_enter Tryz.func100, Tryz.ntmps100
       go_wp2_with (go_at_call 82; refine (refuse_f _).mono ?_; rintro _ wf ⟨rfl, hwf⟩; have hwf2 := hwf.symm; clear hwf; subst hwf2)
       go_ret
       unfold PiecePost
       rw [if_pos q]
       refine ⟨⟨_, rfl, isB_set (HH.out.2.1.front c q) HH.out.1 (slice_no8 _ _ _) _⟩, some ⟨b, off, none⟩, _, rfl, ?_, ?_, ?_, .inr ⟨_, _, rfl, hbr⟩⟩
       · rw [List.length_drop, Nat.sub_self]; first | exact heap_setBox _ HH.out.1 | (rw [hzl]; exact heap_setBox _ HH.out.1)
       · rw [List.length_drop]
         rcases HD.out with hd | hd
         · first | rw [if_pos rfl] at hd | rw [if_pos trivial] at hd
           exact isB_set hd HH.out.1 (slice_no8 _ _ _) _
         · omega
       · rw [List.length_drop]; omega
     · go_enter Tryz.func100, Tryz.ntmps100
       go_wp2_with (go_at_call 82; refine (refuse_f _).mono ?_; rintro _ wf ⟨rfl, hwf⟩; have hwf2 := hwf.symm; clear hwf; subst hwf2)
       go_ret
       unfold PiecePost
       rw [if_pos q]
       refine ⟨⟨_, rfl, isB_set (HH.out.2.1.front k q) HH.out.1 (slice_no8 _ _ _) _⟩, some ⟨b, off + k, none⟩, _, rfl, ?_, ?_, ?_, .inr ⟨_, _, rfl, hbr⟩⟩
       · rw [List.length_drop]; exact heap_setBox _ HH.out.1
       · rw [List.length_drop]
         rcases HD.out with hd | hd
         · rw [if_neg hck] at hd
           exact isB_set hd HH.out.1 (slice_no8 _ _ _) _
         · omega
       · rw [List.length_drop]; omega
 · have qI : (zs.length : Int) < k := by omega
   clear h
   go_enter Tryz.func100, Tryz.ntmps100
   go_wp2_with (go_at_call 82; refine (refuse_t _).mono ?_; rintro _ _ ⟨rfl, rfl⟩)
   refine ⟨rfl, ?_⟩
   unfold PiecePost
   rw [if_neg q]
   exact ⟨rfl, rfl⟩
def numF (l : List Int) : Int := l.foldl (fun n b => n * 256 + b) 0
theorem numF_snoc (l : List Int) (b : Int) : numF (l ++ [b]) = numF l * 256 + b := by unfold numF; rw [List.foldl_append]; rfl
theorem numF_bd (l : List Int) (h : ∀ i, 0 ≤ l.getD i 0 ∧ l.getD i 0 ≤ 255) : ∀ j, j ≤ l.length → 0 ≤ numF (l.take j) ∧ numF (l.take j) < 256 ^ j
 | 0, _ => by simp [numF]
 | j + 1, hj => by
   have ih := numF_bd l h j (by omega)
   have hb := h j
   rw [take_snoc l j (by omega), numF_snoc]
   have : (256 : Int) ^ (j + 1) = 256 ^ j * 256 := by rw [Int.pow_succ]
   omega
theorem or_byte (n b : Int) (h0 : 0 ≤ n) (h1 : n < 72057594037927936) (b0 : 0 ≤ b) (b1 : b ≤ 255) : bits .or .u64 (n * 256) b = n * 256 + b := by
 rw [u64_or _ _ (by omega) (by omega) (by omega) (by omega), nat_join 8 _ _ (by omega) (by omega)]; omega
def NumPost (w : World) (r : Nat) (c : Nat) (zs : List Int) (k : Nat) (v : Value) (e : Ending) (w' : World) : Prop :=
 if k ≤ zs.length then e = .returned v ∧ ∃ a' u, w' = w.setCell ⟨r, 0, none⟩ u ∧ Rdr w' r a' (c - k) (zs.drop k) else e = PN ∧ w' = w
set_option maxRecDepth 20000 in
set_option maxHeartbeats 1000000 in
theorem rnum_c (r : Nat) (a : Option Addr) (c : Nat) (zs : List Int) (s : Nat) (w : World) (h : Rdr w r a c zs) (hs : s ≤ 8) :
   Calls Tryz.prog 83 #[.pointer (some ⟨r, 0, none⟩), .int .i64 s] w (NumPost w r c zs s (.int .u64 (numF (zs.take s)))) := by
 have PC := hid (piece_c r a c zs s w h (by omega))
 clear h
 unfold PiecePost at PC
 by_cases q : s ≤ zs.length
 · simp only [if_pos q] at PC
   have HQ := hid q
   clear q
   go_enter Tryz.func83, Tryz.ntmps83
   go_wp2_with (go_at_call 100; refine PC.out.mono ?_; rintro _ w1 ⟨⟨p, rfl, hI⟩, a', u, hw1, hR⟩; have HI := hid hI; have HR := hid hR; have HW := hid hw1; clear hI hR hw1)
   have HL : Hid ((zs.take s).length = s) := hid HI.out.1
   obtain ⟨ys, hys⟩ : ∃ ys, ys = zs.take s := ⟨_, rfl⟩
   rw [← hys] at HI HL
   have HYS := hid hys
   clear hys PC
   go_loopg [5, 12] s (fun g v5 v12 wr => ∃ j : Nat, j + g = s ∧ v12 = .int .i64 j ∧ v5 = .int .u64 (numF (ys.take j)) ∧ Hid (wr = w1))
   case atStart => exact ⟨0, by omega, rfl, rfl, hid rfl⟩
   case round =>
     obtain ⟨j, hj, rfl, rfl, HWR⟩ := hrel
     have hwr := HWR.out
     subst hwr
     by_cases hlt : j < s
     · have hltI : (j : Int) < s := by omega
       obtain ⟨h1, h2, h3, h4⟩ := HI.out
       obtain ⟨b, off, rfl, hcell⟩ := h3 (by omega)
       have hcj := hcell j hlt
       have hzj := h4 j
       have HT := hid (take_snoc ys j (by rw [HL.out]; exact hlt))
       have hbd := numF_bd ys h4 j (by rw [HL.out]; omega)
       have hpw : (256 : Int) ^ j ≤ 72057594037927936 := by
         have : (256 : Nat) ^ j ≤ 256 ^ 7 := Nat.pow_le_pow_right (by omega) (by omega)
         have h2 : ((256 ^ j : Nat) : Int) ≤ ((256 ^ 7 : Nat) : Int) := by exact_mod_cast this
         simpa using h2
       obtain ⟨x, hx⟩ : ∃ x, x = ys.getD j 0 := ⟨_, rfl⟩
       obtain ⟨N, hN⟩ : ∃ N, N = numF (ys.take j) := ⟨_, rfl⟩
       rw [← hx] at hcj hzj HT
       rw [← hN] at hbd ⊢
       have HN := hid hN
       have hN0 : 0 ≤ N := hbd.1
       have hN1 : N < 72057594037927936 := by omega
       have ko := or_byte N x hN0 hN1 hzj.1 hzj.2
       have kw : IntKind.u64.wrap (N * 256) = N * 256 := by rw [IntKind.wrap_u64]; omega
       have kx : IntKind.u64.wrap x = x := by rw [IntKind.wrap_u64]; omega
       clear hx hN hcell h1 h2 h3 h4 hbd hpw
       go_wp2
       go_roundg (gk - 1)
       case measure => omega
       case rel => exact ⟨j + 1, by omega, by go_num, val_int (by rw [HT.out, numF_snoc, ← HN.out]), hid rfl⟩
     · have em : j = s := by omega
       subst em
       have hge : ¬ (j : Int) < j := by omega
       have HE : Hid (numF (ys.take j) = numF (zs.take j)) := hid (by rw [List.take_of_length_le (by rw [HL.out]; omega), HYS.out])
       go_wp2
       go_ret
       unfold NumPost
       rw [if_pos HQ.out]
       exact ⟨ret_int HE.out, a', u, HW.out, HR.out⟩
 · simp only [if_neg q] at PC
   go_enter Tryz.func83, Tryz.ntmps83
   go_wp2_with (go_at_call 100; refine PC.out.mono ?_; rintro _ w1 ⟨rfl, hw1⟩)
   refine ⟨rfl, ?_⟩
   unfold NumPost
   rw [if_neg q]
   first | exact ⟨rfl, rfl⟩ | exact ⟨rfl, hw1⟩
structure Kr (r : Nat) (w w' : World) : Prop where
 os : w'.os = w.os
 tape : w'.tape = w.tape
 output : w'.output = w.output
 size : w.heap.size ≤ w'.heap.size
 block : ∀ k, k < w.heap.size → k ≠ r → w'.heap[k]? = w.heap[k]?
theorem Kr.refl (r : Nat) (w : World) : Kr r w w := ⟨rfl, rfl, rfl, Nat.le_refl _, fun _ _ _ => rfl⟩
theorem Kr.trans {r : Nat} {a b c : World} (h : Kr r a b) (k : Kr r b c) : Kr r a c :=
 ⟨k.os.trans h.os, k.tape.trans h.tape, k.output.trans h.output, Nat.le_trans h.size k.size, fun i hi hne => (k.block i (Nat.lt_of_lt_of_le hi h.size) hne).trans (h.block i hi hne)⟩
theorem Kr.set (r : Nat) (w : World) (u : Value) : Kr r w (w.setCell ⟨r, 0, none⟩ u) :=
 ⟨rfl, rfl, rfl, by simp [World.setCell], fun k _ hne => heap_setCell_other _ _ _ _ hne⟩
theorem Kr.of {r : Nat} {w w' : World} (h : Below w.heap.size w w') : Kr r w w' := ⟨h.os, h.tape, h.output, h.size, fun k hk _ => h.block k hk⟩
theorem Kr.below {r B : Nat} {a b : World} (h : Kr r a b) (h1 : B ≤ a.heap.size) (h2 : B ≤ r) : Below B a b := ⟨h.os, h.tape, h.output, h.size, fun k hk => h.block k (by omega) (by omega)⟩
theorem rdr_later {w w' : World} {r : Nat} {a : Option Addr} {c : Nat} {zs : List Int} (h : Rdr w r a c zs) (hb : Below w.heap.size w w') : Rdr w' r a c zs :=
 ⟨(hb.block _ (lt_blkR h.1)).trans h.1, h.2.1.later hb, h.2.2⟩
def Takes (w : World) (r : Nat) (res : Option (Value × List Int)) (e : Ending) (w' : World) : Prop :=
 Kr r w w' ∧ match res with
   | some (v, rest) => e = .returned v ∧ ∃ a c, Rdr w' r a c rest
   | none => e = PN
def numP (s : Nat) (zs : List Int) : Option (Int × List Int) := if s ≤ zs.length then some (numF (zs.take s), zs.drop s) else none
def shortP (zs : List Int) : Option (List Int × List Int) := match numP 1 zs with
 | none => none
 | some (m, t) => if m.toNat ≤ t.length then some (t.take m.toNat, t.drop m.toNat) else none
theorem tnum_c {r : Nat} {a : Option Addr} {c : Nat} {zs : List Int} {w : World} (s : Nat) (h : Rdr w r a c zs) (hs : s ≤ 8) :
   Calls Tryz.prog 83 #[.pointer (some ⟨r, 0, none⟩), .int .i64 s] w (Takes w r ((numP s zs).map fun p => (.int .u64 p.1, p.2))) := by
 refine (rnum_c r a c zs s w h hs).mono ?_
 intro e w' hp
 unfold NumPost at hp
 unfold Takes numP
 by_cases q : s ≤ zs.length
 · rw [if_pos q] at hp
   obtain ⟨rfl, a', u, rfl, hR⟩ := hp
   rw [if_pos q]
   exact ⟨Kr.set _ _ _, rfl, _, _, hR⟩
 · rw [if_neg q] at hp
   obtain ⟨rfl, rfl⟩ := hp
   rw [if_neg q]
   exact ⟨Kr.refl _ _, rfl⟩
theorem numP_bd {w : World} {r : Nat} {a : Option Addr} {c : Nat} {zs : List Int} (h : Rdr w r a c zs) {s : Nat} {m : Int} {t : List Int} (hp : numP s zs = some (m, t)) : 0 ≤ m ∧ m < 256 ^ s := by
 unfold numP at hp
 by_cases q : s ≤ zs.length
 · rw [if_pos q] at hp
   simp only [Option.some.injEq, Prod.mk.injEq] at hp
   rw [← hp.1]
   exact numF_bd zs h.2.1.2.2.2 s q
 · rw [if_neg q] at hp; cases hp
def ShortPost (w : World) (r : Nat) (res : Option (List Int × List Int)) (e : Ending) (w' : World) : Prop :=
 Kr r w w' ∧ match res with
   | some (ys, rest) => (∃ p c', e = .returned (.slice p ys.length c') ∧ IsB w' p ys.length ys) ∧ ∃ a c, Rdr w' r a c rest
   | none => e = PN
set_option maxRecDepth 20000 in
set_option maxHeartbeats 1000000 in
theorem short_c {r : Nat} {a : Option Addr} {c : Nat} {zs : List Int} {w : World} (h : Rdr w r a c zs) :
   Calls Tryz.prog 124 #[.pointer (some ⟨r, 0, none⟩)] w (ShortPost w r (shortP zs)) := by
 have NC := hid (tnum_c 1 h (by omega))
 have HBD := hid (fun m t (e : numP 1 zs = some (m, t)) => numP_bd h e)
 clear h
 unfold shortP
 unfold Takes at NC
 rcases hn : numP 1 zs with _ | ⟨m, t⟩
 · rw [hn] at NC
   simp only [Option.map_none] at NC ⊢
   go_enter Tryz.func124, Tryz.ntmps124
   go_wp2_with (go_at_call 83; refine NC.out.mono ?_; rintro _ w1 ⟨hk, rfl⟩)
   exact ⟨rfl, hk, rfl⟩
 · obtain ⟨m0, m1⟩ := HBD.out m t hn
   rw [hn] at NC
   simp only [Option.map_some] at NC ⊢
   have m1' : m < 256 := by simpa using m1
   have kc : IntKind.i64.wrap m = m := by rw [IntKind.wrap_i64]; omega
   obtain ⟨k, rfl⟩ : ∃ k : Nat, m = k := ⟨m.toNat, by omega⟩
   rw [Int.toNat_natCast]
   clear m1 HBD hn
   by_cases q : k ≤ t.length
   · rw [if_pos q]
     go_enter Tryz.func124, Tryz.ntmps124
     go_wp2_with (first
       | (go_at_call 100; refine PC.out.mono ?_; rintro _ w2 ⟨⟨p, rfl, hI⟩, a2, u2, hw2, hR2⟩)
       | (go_at_call 83; refine NC.out.mono ?_; rintro _ w1 ⟨hk, rfl, a1, c1, hR1⟩; have K1 := hid hk; have PC := hid (piece_c r a1 c1 t k w1 hR1 (by omega)); unfold PiecePost at PC; simp only [if_pos q] at PC; clear hk hR1))
     have hl : (t.take k).length = k := hI.1
     go_ret
     subst hw2
     exact ⟨K1.out.trans (Kr.set _ _ _), ⟨p, c1, by rw [hl]; rfl, by rw [hl]; exact hI⟩, _, _, hR2⟩
   · rw [if_neg q]
     go_enter Tryz.func124, Tryz.ntmps124
     go_wp2_with (first
       | (go_at_call 100; refine PC.out.mono ?_; rintro _ w2 ⟨rfl, hw2⟩)
       | (go_at_call 83; refine NC.out.mono ?_; rintro _ w1 ⟨hk, rfl, a1, c1, hR1⟩; have K1 := hid hk; have PC := hid (piece_c r a1 c1 t k w1 hR1 (by omega)); unfold PiecePost at PC; simp only [if_neg q] at PC; clear hk hR1))
     refine ⟨rfl, ?_, rfl⟩
     first | exact K1.out | (rw [hw2]; exact K1.out)
theorem conv_noneR (w : World) (p : Option Addr) (c : Nat) : (convert 38 9 (.slice p 0 c)).run Tryz.prog w = .ok (.string ByteArray.empty) w := by
 rw [run_convert_bytes_string w 38 9 5 _ 0 c Tryz.underlying38 Tryz.underlying5 Tryz.underlying9]
 cases p <;> simp [Conv.bytesToString, loadCells]
 all_goals rfl
theorem conv_R {w : World} {pa : Option Addr} {pc : Nat} {zs : List Int} (h : IsB w pa zs.length zs) : (convert 38 9 (.slice pa zs.length pc)).run Tryz.prog w = .ok (.string (Fr.tx zs)) w := by
 by_cases hp : 0 < zs.length
 · obtain ⟨h1, h2, h3, h4⟩ := h
   obtain ⟨b, off, rfl, hc⟩ := h3 hp
   exact run_convert_bytes_arg w 38 5 Tryz.underlying38 Tryz.underlying5 b off zs.length pc zs h1 hc 9 Tryz.underlying9
 · have h0 : zs.length = 0 := by omega
   rw [h0, conv_noneR, List.eq_nil_of_length_eq_zero h0]; rfl
set_option maxRecDepth 20000 in
set_option maxHeartbeats 1000000 in
theorem rdtext_c {r : Nat} {a : Option Addr} {c : Nat} {zs : List Int} {w : World} (h : Rdr w r a c zs) :
   Calls Tryz.prog 102 #[.pointer (some ⟨r, 0, none⟩)] w (Takes w r ((shortP zs).map fun p => (.string (Fr.tx p.1), p.2))) := by
 have SC := hid (short_c h)
 clear h
 unfold ShortPost at SC
 rcases hn : shortP zs with _ | ⟨ys, t⟩
 · rw [hn] at SC
   simp only [Option.map_none] at SC ⊢
   go_enter Tryz.func102, Tryz.ntmps102
   go_wp2_with (go_at_call 124; refine SC.out.mono ?_; rintro _ w1 ⟨hk, rfl⟩)
   exact ⟨rfl, hk, rfl⟩
 · rw [hn] at SC
   simp only [Option.map_some] at SC ⊢
   go_enter Tryz.func102, Tryz.ntmps102
   go_wp2_with (go_at_call 124; refine SC.out.mono ?_; rintro _ w1 ⟨hk, ⟨p, c', rfl, hI⟩, hR⟩; have hcv := conv_R (pc := c') hI)
   go_ret
   exact ⟨hk, rfl, hR⟩
set_option maxRecDepth 20000 in
set_option maxHeartbeats 1000000 in
theorem takeFid_c {r : Nat} {a : Option Addr} {c : Nat} {zs : List Int} {w : World} (h : Rdr w r a c zs) :
   Calls Tryz.prog 101 #[.pointer (some ⟨r, 0, none⟩)] w (Takes w r ((numP 4 zs).map fun p => (.int .u32 p.1, p.2))) := by
 have NC := hid (tnum_c 4 h (by omega))
 have HBD := hid (fun m t (e : numP 4 zs = some (m, t)) => numP_bd h e)
 clear h
 unfold Takes at NC
 rcases hn : numP 4 zs with _ | ⟨m, t⟩
 · rw [hn] at NC
   simp only [Option.map_none] at NC ⊢
   go_enter Tryz.func101, Tryz.ntmps101
   go_wp2_with (go_at_call 83; refine NC.out.mono ?_; rintro _ w1 ⟨hk, rfl⟩)
   exact ⟨rfl, hk, rfl⟩
 · obtain ⟨m0, m1⟩ := HBD.out m t hn
   rw [hn] at NC
   simp only [Option.map_some] at NC ⊢
   have m1' : m < 4294967296 := by simpa using m1
   have kc : IntKind.u32.wrap m = m := by rw [IntKind.wrap_u32]; omega
   clear m1 HBD hn
   go_enter Tryz.func101, Tryz.ntmps101
   go_wp2_with (go_at_call 83; refine NC.out.mono ?_; rintro _ w1 ⟨hk, rfl, hR⟩)
   go_ret
   exact ⟨hk, rfl, hR⟩
theorem Kr.new {r B : Nat} {w w' : World} (h : Kr r w w') (hB : w.heap.size ≤ B) (i : Nat) (v : Value) : Kr r w (w'.setCell ⟨B, i, none⟩ v) :=
 ⟨h.os, h.tape, h.output, by have := h.size; simpa [World.setCell] using this, fun k hk hne => (heap_setCell_other _ _ _ _ (show k ≠ B by omega)).trans (h.block k hk hne)⟩
theorem rdr_new {w : World} {r B : Nat} {a : Option Addr} {c : Nat} {zs : List Int} (h : Rdr w r a c zs) (hB : r < B) (i : Nat) (v : Value) : Rdr (w.setCell ⟨B, i, none⟩ v) r a c zs := by
 refine ⟨(heap_setCell_other _ _ _ _ (show r ≠ B by omega)).trans h.1, ?_, h.2.2⟩
 obtain ⟨h1, h2, h3, h4⟩ := h.2.1
 refine ⟨h1, h2, fun hp => ?_, h4⟩
 obtain ⟨b, off, e, hc⟩ := h3 hp
 rcases h.2.2.2 with ⟨e', _⟩ | ⟨b', off', e', hbr⟩
 · rw [e'] at e; cases e
 · rw [e] at e'
   cases e'
   exact ⟨b, off, e, fun i hi => by rw [World.cell?_setCell_far _ _ _ _ (show B ≠ b by omega)]; exact hc i hi⟩
end Go.Proofs.YtihgiemgcmpmmaaGreat
