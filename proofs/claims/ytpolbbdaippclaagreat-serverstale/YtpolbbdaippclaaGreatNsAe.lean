/-
  
-/
import Derived.Test.YtpolbbdaippclaaGreatNsAa
import Derived.Test.YtpolbbdaippclaaGreatNsAd
import Derived.Laws.AppendOwnNone
import Derived.Deep.RegionLaw
import Derived.Deep.LoopGhost
import Derived.Laws.BitsLemmas
import Derived.Shelf.Abstract
namespace Go.Proofs.YtpolbbdaippclaaGreat
open Go.RowKit Go.ChangeShapes Go.WideShapes Go.ChangeAt
set_option linter.unusedVariables false
set_option linter.unusedSimpArgs false
theorem step_app1 (w : World) {ops : Array Oper} {o : Oper} {a : Act} {K : Act → World → Prop} {Q : Exit → Act → World → Prop} {E : Prop} (hgd : o.guard = none) (s x : Operand)
   (ho : o.op = .call { callee := .builtin .append, args := #[s, x], argTypes := #[49, 49] }) (base : Nat) (v : Value) (n : Nat) (xs : List Value) (hs : a.eval s = v) (hown : w.ownsRow base 5 1 v n xs)
   (g : Nat) (b : Int) (hx : a.eval x = .slice (some ⟨g, 0, none⟩) 1 1) (hb : w.heap[g]? = some (.cells #[.int .u8 b] 5 (0, 0))) (h63 : n ≤ 1000000) (hbase : base ≤ w.heap.size)
   (h : ∀ v' w', w'.ownsRow base 5 1 v' (n + 1) (xs ++ [.int .u8 b]) → w.grownBy w' v.ownBlock → K (a.put o.dst v') w') :
   if Region.wanted o (yielded ops a.tmps) = true then Oper.wp Tryz.prog o a w K Q else E := by
 rw [if_pos (by simp [Region.wanted, hgd])]
 obtain ⟨i0, hi, hz0, hz1, hz2⟩ := info_parts8
 refine wp_append_own w s x 49 ho base 5 i0 (.int .u8 0) 1 1 Tryz.underlying49 hi hz0 hz1 hz2 rfl (by decide) v n xs hs hown ⟨g, 0, none⟩ 1 1 [.int .u8 b] hx rfl (fun j u hu => ?_) (fun y hy => by simp at hy; subst hy; rfl) (by unfold maxLen; omega) (by omega) hbase ?_
 · have e : (⟨g, 0, none⟩ : Addr).add j = ⟨g, 0 + j, none⟩ := by unfold Addr.add; split <;> simp_all
   rw [e, cell_of_row w g _ _ _ _ hb]
   simpa using hu
 · intro v' w' h2 h3 _
   exact h v' w' h2 h3
def NotU8 (o : Obj) : Prop := ∀ cs fr, o ≠ .cells cs 5 fr
structure KpT (base g : Nat) (w w' : World) : Prop where
 os : w'.os = w.os
 tape : w'.tape = w.tape
 output : w'.output = w.output
 size : w.heap.size ≤ w'.heap.size
 block : ∀ k, k < base → k ≠ g → w'.heap[k]? = w.heap[k]?
 other : ∀ k o, w.heap[k]? = some o → k ≠ g → NotU8 o → w'.heap[k]? = some o
theorem KpT.refl (base g : Nat) (w : World) : KpT base g w w := ⟨rfl, rfl, rfl, Nat.le_refl _, fun _ _ _ => rfl, fun _ _ h _ _ => h⟩
theorem KpT.trans {base g : Nat} {a b c : World} (h : KpT base g a b) (k : KpT base g b c) : KpT base g a c :=
 ⟨k.os.trans h.os, k.tape.trans h.tape, k.output.trans h.output, Nat.le_trans h.size k.size, fun i hi hne => (k.block i hi hne).trans (h.block i hi hne), fun i o ho hne hu => k.other i o (h.other i o ho hne hu) hne hu⟩
theorem KpT.on {base g : Nat} {a b c : World} (h : KpT base g a b) (k : KpT base g b.drew c) : KpT base g a c := h.trans ⟨k.os, k.tape, k.output, k.size, k.block, k.other⟩
theorem KpT.below {base g B : Nat} {a b : World} (h : KpT base g a b) (h1 : B ≤ base) (h2 : B ≤ g) : Below B a b := ⟨h.os, h.tape, h.output, h.size, fun k hk => h.block k (by omega) (by omega)⟩
theorem own_u8 {w : World} {base n : Nat} {v : Value} {xs : List Value} (h : w.ownsRow base 5 1 v n xs) {k : Nat} {o : Obj} (hk : w.heap[k]? = some o) (hu : NotU8 o) : some k ≠ v.ownBlock := fun e => by
 rcases h.2 with ⟨rfl, _⟩ | ⟨g, cap, cur, rfl, _, hg, _⟩
 · cases e
 · cases e
   rw [hg] at hk
   exact hu _ _ (Option.some.inj hk).symm
theorem alloc_kpT {w : World} {base g : Nat} (o : Obj) (hbase : base ≤ w.heap.size) : KpT base g w (w.alloc o) :=
 ⟨rfl, rfl, rfl, (below_1 w o).size, fun k hk _ => (below_1 w o).block k (by omega), fun k o' h _ _ => ((below_1 w o).block k (lt_blkR h)).trans h⟩
theorem lay_kpT {w w5 : World} {base g : Nat} {v v' : Value} {n : Nat} {xs : List Value} {o : Obj} (hown : w.ownsRow base 5 1 v n xs) (hg : g < base) (hgrow : (w.alloc o).grownBy w5 v.ownBlock) (hbase : base ≤ w.heap.size) :
   KpT base g w (w5.setCell ⟨g, 0, none⟩ v') :=
 ⟨hgrow.os, hgrow.tape, hgrow.output, by have := hgrow.size; simp [World.setCell] at this ⊢; omega, fun k hk hne => by
   rw [heap_setCell_other _ _ _ _ hne, hgrow.block k (by simp; omega) (fun e => by have := (hown.lt k e.symm).1; omega), Below.heap_alloc _ _ _ (by omega)],
  fun k o' h hne hu => by
   rw [heap_setCell_other _ _ _ _ hne, hgrow.block k (by have := lt_blkR h; simp; omega) (own_u8 hown h hu), Below.heap_alloc _ _ _ (lt_blkR h)]; exact h⟩
theorem text_kpT {w w5 : World} {base g : Nat} {v v' : Value} {n : Nat} {xs : List Value} (hown : w.ownsRow base 5 1 v n xs) (hg : g < base) (hgrow : w.grownBy w5 v.ownBlock) (hbase : base ≤ w.heap.size) :
   KpT base g w (w5.setCell ⟨g, 0, none⟩ v') :=
 ⟨hgrow.os, hgrow.tape, hgrow.output, by have := hgrow.size; simp [World.setCell] at this ⊢; omega, fun k hk hne => by
   rw [heap_setCell_other _ _ _ _ hne, hgrow.block k (by omega) (fun e => by have := (hown.lt k e.symm).1; omega)],
  fun k o' h hne hu => by
   rw [heap_setCell_other _ _ _ _ hne, hgrow.block k (lt_blkR h) (own_u8 hown h hu)]; exact h⟩
def beF (n : Int) : Nat → List Int
 | 0 => []
 | s + 1 => (n / 256 ^ s) % 256 :: beF n s
theorem beF_len (n : Int) : ∀ s, (beF n s).length = s
 | 0 => rfl
 | s + 1 => by simp [beF, beF_len n s]
theorem beF_get (n : Int) : ∀ (s i : Nat), i < s → (beF n s)[i]? = some ((n / 256 ^ (s - 1 - i)) % 256)
 | 0, i, h => by omega
 | s + 1, 0, h => by simp [beF]
 | s + 1, i + 1, h => by
   rw [beF, List.getElem?_cons_succ, beF_get n s i (by omega), show s - 1 - i = s + 1 - 1 - (i + 1) by omega]
theorem beF_take (n : Int) (s i : Nat) (h : i < s) : (beF n s).take (i + 1) = (beF n s).take i ++ [(n / 256 ^ (s - 1 - i)) % 256] := by
 rw [List.take_add_one, beF_get n s i h]; rfl
theorem shr_u64 (n : Int) (d : Nat) (hd : d ≤ 8) : Op.shift .shr .u64 n .i64 (8 * (d : Int)) = pure (.int .u64 (n / 256 ^ d)) := by
 have h := Go.shift_shr .u64 .i64 n (8 * (d : Int)) (by omega) (by simp [IntKind.bits]; omega)
 rw [h, show ((8 * (d : Int)).toNat) = 8 * d by omega, Int.pow_mul]; rfl
set_option maxRecDepth 20000 in
set_option maxHeartbeats 1000000 in
theorem number_c (T base g : Nat) (zs : List Int) (n : Int) (s : Nat) (w : World) (hp : Pile w T base g zs) (hn : zs.length < 900000) (hs : s ≤ 8) (h0 : 0 ≤ n) (h1 : n < 18446744073709551616) :
   Calls Tryz.prog 169 #[.pointer (some ⟨g, 0, none⟩), .int .u64 n, .int .i64 s] w fun e w' => e = .returned (.tuple #[]) ∧ Pile w' T base g (zs ++ beF n s) ∧ KpT base g w w' := by
 have HP := hid hp
 clear hp
 go_enter Tryz.func169, Tryz.ntmps169
 go_wp2
 go_loopg [8] s (fun k v wr => ∃ i : Nat, i + k = s ∧ v = .int .i64 i ∧ Hid (Pile wr T base g (zs ++ (beF n s).take i)) ∧ Hid (KpT base g w wr))
 case atStart => exact ⟨0, by omega, rfl, hid (by simpa using HP.out), hid (KpT.refl _ _ _)⟩
 case round =>
   obtain ⟨i, hik, rfl, HPi, HK⟩ := hrel
   by_cases hlt : i < s
   · have hltI : (i : Int) < s := by omega
     obtain ⟨hg, hbase, v, hbox, hown⟩ := HPi.out
     obtain ⟨va, vn, vc, rfl⟩ := own_slice hown
     have hc := cell_box hbox
     have hgl : g < wr.heap.size := by omega
     have hdown : wr.drew.ownsRow base 5 1 (.slice va vn vc) (zs ++ (beF n s).take i).length ((zs ++ (beF n s).take i).map u8V) := hown
     have hll : (zs ++ (beF n s).take i).length ≤ 1000000 := by rw [List.length_append, List.length_take, beF_len]; omega
     obtain ⟨d, hd⟩ : ∃ d, d = s - 1 - i := ⟨_, rfl⟩
     have HD := hid hd
     have k1 : IntKind.i64.wrap ((s : Int) - 1) = (s : Int) - 1 := by rw [IntKind.wrap_i64]; omega
     have k2 : IntKind.i64.wrap ((s : Int) - 1 - i) = d := by rw [IntKind.wrap_i64]; omega
     have k3 : IntKind.i64.wrap (8 * (d : Int)) = 8 * (d : Int) := by rw [IntKind.wrap_i64]; omega
     have k4 := shr_u64 n d (by omega)
     have HBT := hid (beF_take n s i hlt)
     rw [← hd] at HBT
     clear hd
     go_upto_region 3 with fail
     go_region_law (first | (refine step_app1 _ (by rfl) _ _ (by rfl) base (.slice va vn vc) _ _ (by rfl) (hdown.alloc _) wr.heap.size _ (by rfl) (heap_alloc_new _ _) hll (Nat.le_trans hbase (below_1 _ _).size) ?_; intro v' w5 hown' hgrow5; (have hbox5 := lay_box (w := wr.drew) hbox hdown hg hgrow5 hgl); (have hc5 := cell_box hbox5); (have hf5 := frozen_box hbox5); obtain ⟨a5, n5, c5, rfl⟩ := own_slice hown'))
     all_goals
       have HP2 : Hid (Pile (w5.setCell ⟨g, 0, none⟩ (.slice a5 n5 c5)) T base g (zs ++ (beF n s).take (i + 1))) := hid (by
         refine ⟨hg, ?_, _, heap_setBox _ hbox5, ?_⟩
         · have := hgrow5.size; simp at this ⊢; omega
         · rw [HBT.out, ← List.append_assoc]
           have := ownsRow_setCell_below hown' (a := ⟨g, 0, none⟩) hg (.slice a5 n5 c5)
           rw [List.length_append, List.map_append]
           simpa [u8V, IntKind.wrap_u8'] using this)
       have HK2 := hid (HK.out.on (lay_kpT (w := wr.drew) (v' := .slice a5 n5 c5) hdown hg hgrow5 hbase))
       go_wp2
       go_roundg (gk - 1)
       case measure => omega
       case rel => exact ⟨i + 1, by omega, by go_num, HP2, HK2⟩
   · have em : i = s := by omega
     subst em
     have hge : ¬ (i : Int) < i := by omega
     have HP3 : Hid (Pile wr T base g (zs ++ beF n i)) := hid (by have := HPi.out; rw [List.take_of_length_le (by rw [beF_len]; omega)] at this; exact this)
     go_wp2
     exact body_end (by kernel_rfl) rfl ⟨rfl, HP3.out, HK.out⟩
def txF (s : ByteArray) : List Int := beF (s.size : Int) 1 ++ Fr.bs s
theorem txF_len (s : ByteArray) : (txF s).length = s.size + 1 := by unfold txF; rw [List.length_append, beF_len, Fr.bs_length]; omega
theorem Pile.len {w : World} {T base g : Nat} {zs : List Int} (h : Pile w T base g zs) : g < base ∧ base ≤ w.heap.size := ⟨h.1, h.2.1⟩
theorem Pile.other {w w' : World} {T base g : Nat} {zs : List Int} (h : Pile w T base g zs) (o : Obj) : Pile (w.alloc o) T base g zs := by
 obtain ⟨hg, hbase, v, hbox, hown⟩ := h
 exact ⟨hg, Nat.le_trans hbase (below_1 w o).size, v, ((below_1 w o).block _ (lt_blkR hbox)).trans hbox, hown.alloc o⟩
set_option maxRecDepth 20000 in
set_option maxHeartbeats 1000000 in
theorem wtext_c (T base g : Nat) (zs : List Int) (s : ByteArray) (w : World) (hp : Pile w T base g zs) (hn : zs.length + s.size < 800000) :
   Calls Tryz.prog 196 #[.pointer (some ⟨g, 0, none⟩), .string s] w fun e w' => e = .returned (.tuple #[]) ∧ Pile w' T base g (zs ++ txF s) ∧ KpT base g w w' := by
 have NC := hid (number_c T base g zs (s.size : Int) 1 w hp (by omega) (by omega) (by omega) (by omega))
 obtain ⟨i0, hi, hz0, hz1, hz2⟩ := info_parts8
 have ku : IntKind.u64.wrap (s.size : Int) = s.size := by rw [IntKind.wrap_u64]; omega
 clear hp
 go_enter Tryz.func196, Tryz.ntmps196
 go_wp2_with (first
   | (at_builtin; refine Lib.wpList_append_own_string _ rfl _ _ 49 9 rfl base 5 i0 Tryz.underlying49 Tryz.underlying9 hi hz0 hz1 hz2 _ _ _ rfl hown s rfl (by rw [List.length_append, beF_len]; unfold maxLen; omega) (by rw [List.length_append, beF_len]; omega) hbase ?_; intro v' w5 hown' hgrow5 hnil5; (have hbox5 := text_box hbox hown hg hgrow5 (by omega)); (have hc5 := cell_box hbox5); (have hf5 := frozen_box hbox5); obtain ⟨a5, n5, c5, rfl⟩ := own_slice hown')
   | (go_at_call 169; refine NC.out.mono ?_; rintro _ w1 ⟨rfl, ⟨hg, hbase, v, hbox, hown⟩, hk1⟩; have hc := cell_box hbox; obtain ⟨va, vn, vc, rfl⟩ := own_slice hown; have K1 := hid hk1; clear hk1))
 rw [strCells_bs] at hown'
 refine body_end (by kernel_rfl) rfl ⟨rfl, ⟨hg, ?_, _, heap_setBox _ hbox5, ?_⟩, K1.out.trans (text_kpT hown hg hgrow5 hbase)⟩
 · have := hgrow5.size; simp at this ⊢; omega
 · have := ownsRow_setCell_below hown' (a := ⟨g, 0, none⟩) hg (.slice a5 n5 c5)
   unfold txF
   rw [← List.append_assoc, List.length_append, List.map_append, Fr.bs_length]
   exact this
end Go.Proofs.YtpolbbdaippclaaGreat
namespace Go.Proofs.YtpolbbdaippclaaGreat
open Go.RowKit Go.ChangeShapes Go.WideShapes Go.ChangeAt Go.Shelf
set_option linter.unusedVariables false
set_option linter.unusedSimpArgs false
def opB (x : Rec) : List Int := beF x.k 1 ++ beF x.fid 4 ++ beF x.dir 4 ++ txF x.nm ++ beF x.to 4 ++ txF x.nm2 ++ beF x.md 2 ++ txF x.dt
theorem opB_len (x : Rec) : (opB x).length = 18 + x.nm.size + x.nm2.size + x.dt.size := by unfold opB; simp only [List.length_append, beF_len, txF_len]; omega
theorem name_size (s : ByteArray) (h : Pa.nameB s.data.toList = true) : s.size ≤ 12 := by
 unfold Pa.nameB at h
 simp only [Bool.and_eq_true, decide_eq_true_eq] at h
 exact h.1.1.1.2
theorem empty_size (s : ByteArray) (h : (s.toList == []) = true) : s.size = 0 := by
 have h1 : s.toList = [] := by simpa using h
 rw [Lib.toList_data] at h1
 have : s.data.toList.length = 0 := by rw [h1]; rfl
 simpa using this
theorem ent_size (b : Bool) (f : Int) (s : ByteArray) (h : entF b f s = true) : s.size ≤ 12 := by
 unfold entF at h
 cases b with
 | true => simp only [if_true, Bool.and_eq_true] at h; exact name_size s h.2
 | false => simp only [Bool.false_eq_true, if_false, Bool.and_eq_true] at h; have := empty_size s h.2; omega
theorem dat_size (b : Bool) (s : ByteArray) (h : datF b s = true) : s.size ≤ 64 := by
 unfold datF at h
 cases b with
 | true => simpa using h
 | false => simp only [Bool.false_eq_true, if_false] at h; have := empty_size s h; omega
theorem right_size (x : Rec) (h : rightF x = true) : x.nm.size ≤ 12 ∧ x.nm2.size ≤ 12 ∧ x.dt.size ≤ 64 := by
 unfold rightF at h
 simp only [Bool.and_eq_true] at h
 obtain ⟨_, ⟨⟨h1, h2⟩, _⟩, h4⟩ := h
 exact ⟨ent_size _ _ _ h1, ent_size _ _ _ h2, dat_size _ _ h4⟩
theorem num1_c {T base g : Nat} {zs : List Int} {n : Int} {w : World} (hp : Pile w T base g zs) (hn : zs.length < 900000) (h0 : 0 ≤ n) (h1 : n < 18446744073709551616) :
   Calls Tryz.prog 169 #[.pointer (some ⟨g, 0, none⟩), .int .u64 n, .int .i64 1] w fun e w' => e = .returned (.tuple #[]) ∧ Pile w' T base g (zs ++ beF n 1) ∧ KpT base g w w' :=
 number_c T base g zs n 1 w hp hn (by omega) h0 h1
theorem num2_c {T base g : Nat} {zs : List Int} {n : Int} {w : World} (hp : Pile w T base g zs) (hn : zs.length < 900000) (h0 : 0 ≤ n) (h1 : n < 18446744073709551616) :
   Calls Tryz.prog 169 #[.pointer (some ⟨g, 0, none⟩), .int .u64 n, .int .i64 2] w fun e w' => e = .returned (.tuple #[]) ∧ Pile w' T base g (zs ++ beF n 2) ∧ KpT base g w w' :=
 number_c T base g zs n 2 w hp hn (by omega) h0 h1
theorem num4_c {T base g : Nat} {zs : List Int} {n : Int} {w : World} (hp : Pile w T base g zs) (hn : zs.length < 900000) (h0 : 0 ≤ n) (h1 : n < 18446744073709551616) :
   Calls Tryz.prog 169 #[.pointer (some ⟨g, 0, none⟩), .int .u64 n, .int .i64 4] w fun e w' => e = .returned (.tuple #[]) ∧ Pile w' T base g (zs ++ beF n 4) ∧ KpT base g w w' :=
 number_c T base g zs n 4 w hp hn (by omega) h0 h1
theorem num8_c {T base g : Nat} {zs : List Int} {n : Int} {w : World} (hp : Pile w T base g zs) (hn : zs.length < 900000) (h0 : 0 ≤ n) (h1 : n < 18446744073709551616) :
   Calls Tryz.prog 169 #[.pointer (some ⟨g, 0, none⟩), .int .u64 n, .int .i64 8] w fun e w' => e = .returned (.tuple #[]) ∧ Pile w' T base g (zs ++ beF n 8) ∧ KpT base g w w' :=
 number_c T base g zs n 8 w hp hn (by omega) h0 h1
theorem wtx_c {T base g : Nat} {zs : List Int} {s : ByteArray} {w : World} (hp : Pile w T base g zs) (hn : zs.length + s.size < 800000) :
   Calls Tryz.prog 196 #[.pointer (some ⟨g, 0, none⟩), .string s] w fun e w' => e = .returned (.tuple #[]) ∧ Pile w' T base g (zs ++ txF s) ∧ KpT base g w w' :=
 wtext_c T base g zs s w hp hn
theorem op_notU8 (x : Rec) : NotU8 (.cells x.ops.toArray 36 (0, 0)) := fun cs fr e => by
 injection e with e1 e2
 cases e2
set_option maxRecDepth 20000 in
set_option maxHeartbeats 600000 in
theorem putOp_c (T base g : Nat) (zs : List Int) (x : Rec) (w : World) (hp : Pile w T base g zs) (hn : zs.length < 500000) (hw : x.Wf) (hs : x.nm.size + x.nm2.size + x.dt.size < 100000) :
   Calls Tryz.prog 231 #[.pointer (some ⟨g, 0, none⟩), x.opV] w fun e w' => e = .returned (.tuple #[]) ∧ Pile w' T base g (zs ++ opB x) ∧ KpT base g w w' := by
 obtain ⟨h1, h2, h3, h4, h5, h6, h7, h8, h9⟩ := hw
 have u1 : IntKind.u64.wrap x.k = x.k := by rw [IntKind.wrap_u64]; omega
 have u2 : IntKind.u64.wrap x.fid = x.fid := by rw [IntKind.wrap_u64]; omega
 have u3 : IntKind.u64.wrap x.dir = x.dir := by rw [IntKind.wrap_u64]; omega
 have u4 : IntKind.u64.wrap x.to = x.to := by rw [IntKind.wrap_u64]; omega
 have u5 : IntKind.u64.wrap x.md = x.md := by rw [IntKind.wrap_u64]; omega
 have hx : (w.alloc (.cells x.ops.toArray 36)).heap[w.heap.size]? = some (.cells x.ops.toArray 36 (0, 0)) := heap_alloc_new w _
 obtain ⟨y0, y1, y2, y3, y4, y5, y6, y7⟩ := op_all hx
 have hne : w.heap.size ≠ g := by have := hp.len; omega
 have HX := hid hx
 have HP := hid (hp.other (w' := w) (.cells x.ops.toArray 36))
 have HK : Hid (KpT base g w (w.alloc (.cells x.ops.toArray 36))) := hid (alloc_kpT _ hp.len.2)
 unfold Rec.opV
 clear hx hp h6 h7 h8 h9
 go_enter Tryz.func231, Tryz.ntmps231
 clear y1 y2 y3 y4 y5 y6 y7
 have t0 := hid True.intro
 go_wp2_with (first
   | (have _q := t0.out; clear _q; go_at_call 169; refine (num1_c HP.out (by (try simp only [List.length_append, beF_len, txF_len]); omega) (by omega) (by omega)).mono ?_; rintro _ w9 ⟨rfl, hp9, hk9⟩
      have HX9 := hid (hk9.other _ _ HX.out hne (op_notU8 x))
      have z1 := (op_all HX9.out).2.1
      have t1 := hid True.intro
      have HP9 := hid hp9
      have HK9 := hid (HK.out.trans hk9)
      clear hp9 hk9 HP HK HX t0
      have HP := HP9
      have HK := HK9
      have HX := HX9
      clear HP9 HK9 HX9)
   | (have _q := t1.out; clear _q; go_at_call 169; refine (num4_c HP.out (by (try simp only [List.length_append, beF_len, txF_len]); omega) (by omega) (by omega)).mono ?_; rintro _ w9 ⟨rfl, hp9, hk9⟩
      have HX9 := hid (hk9.other _ _ HX.out hne (op_notU8 x))
      have z2 := (op_all HX9.out).2.2.1
      have t2 := hid True.intro
      have HP9 := hid hp9
      have HK9 := hid (HK.out.trans hk9)
      clear hp9 hk9 HP HK HX t1 z1
      have HP := HP9
      have HK := HK9
      have HX := HX9
      clear HP9 HK9 HX9)
   | (have _q := t2.out; clear _q; go_at_call 169; refine (num4_c HP.out (by (try simp only [List.length_append, beF_len, txF_len]); omega) (by omega) (by omega)).mono ?_; rintro _ w9 ⟨rfl, hp9, hk9⟩
      have HX9 := hid (hk9.other _ _ HX.out hne (op_notU8 x))
      have z3 := (op_all HX9.out).2.2.2.1
      have t3 := hid True.intro
      have HP9 := hid hp9
      have HK9 := hid (HK.out.trans hk9)
      clear hp9 hk9 HP HK HX t2 z2
      have HP := HP9
      have HK := HK9
      have HX := HX9
      clear HP9 HK9 HX9)
   | (have _q := t3.out; clear _q; go_at_call 196; refine (wtx_c HP.out (by (try simp only [List.length_append, beF_len, txF_len]); omega)).mono ?_; rintro _ w9 ⟨rfl, hp9, hk9⟩
      have HX9 := hid (hk9.other _ _ HX.out hne (op_notU8 x))
      have z4 := (op_all HX9.out).2.2.2.2.1
      have t4 := hid True.intro
      have HP9 := hid hp9
      have HK9 := hid (HK.out.trans hk9)
      clear hp9 hk9 HP HK HX t3 z3
      have HP := HP9
      have HK := HK9
      have HX := HX9
      clear HP9 HK9 HX9)
   | (have _q := t4.out; clear _q; go_at_call 169; refine (num4_c HP.out (by (try simp only [List.length_append, beF_len, txF_len]); omega) (by omega) (by omega)).mono ?_; rintro _ w9 ⟨rfl, hp9, hk9⟩
      have HX9 := hid (hk9.other _ _ HX.out hne (op_notU8 x))
      have z5 := (op_all HX9.out).2.2.2.2.2.1
      have t5 := hid True.intro
      have HP9 := hid hp9
      have HK9 := hid (HK.out.trans hk9)
      clear hp9 hk9 HP HK HX t4 z4
      have HP := HP9
      have HK := HK9
      have HX := HX9
      clear HP9 HK9 HX9)
   | (have _q := t5.out; clear _q; go_at_call 196; refine (wtx_c HP.out (by (try simp only [List.length_append, beF_len, txF_len]); omega)).mono ?_; rintro _ w9 ⟨rfl, hp9, hk9⟩
      have HX9 := hid (hk9.other _ _ HX.out hne (op_notU8 x))
      have z6 := (op_all HX9.out).2.2.2.2.2.2.1
      have t6 := hid True.intro
      have HP9 := hid hp9
      have HK9 := hid (HK.out.trans hk9)
      clear hp9 hk9 HP HK HX t5 z5
      have HP := HP9
      have HK := HK9
      have HX := HX9
      clear HP9 HK9 HX9)
   | (have _q := t6.out; clear _q; go_at_call 169; refine (num2_c HP.out (by (try simp only [List.length_append, beF_len, txF_len]); omega) (by omega) (by omega)).mono ?_; rintro _ w9 ⟨rfl, hp9, hk9⟩
      have HX9 := hid (hk9.other _ _ HX.out hne (op_notU8 x))
      have z7 := (op_all HX9.out).2.2.2.2.2.2.2
      have t7 := hid True.intro
      have HP9 := hid hp9
      have HK9 := hid (HK.out.trans hk9)
      clear hp9 hk9 HP HK HX t6 z6
      have HP := HP9
      have HK := HK9
      have HX := HX9
      clear HP9 HK9 HX9)
   | (have _q := t7.out; clear _q; go_at_call 196; refine (wtx_c HP.out (by (try simp only [List.length_append, beF_len, txF_len]); omega)).mono ?_; rintro _ w9 ⟨rfl, hp9, hk9⟩
      have HX9 := hid (hk9.other _ _ HX.out hne (op_notU8 x))
      have HP9 := hid hp9
      have HK9 := hid (HK.out.trans hk9)
      clear hp9 hk9 HP HK HX t7 z7
      have HP := HP9
      have HK := HK9
      have HX := HX9
      clear HP9 HK9 HX9))
 refine body_end (by kernel_rfl) rfl ⟨rfl, ?_, HK.out⟩
 have := HP.out
 unfold opB
 simpa only [List.append_assoc] using this
end Go.Proofs.YtpolbbdaippclaaGreat
