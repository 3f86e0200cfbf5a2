/-
  
-/
import Derived.Test.YtfmghbennahlfaaGreatCnAc
import Derived.Test.YtfmghbennahlfaaGreatCnAe
import Derived.Laws.AppendOwnNone
import Derived.Deep.RegionLaw
import Derived.Deep.LoopGhost
import Derived.Laws.BitsLemmas
import Derived.Shelf.Abstract
namespace Go.Proofs.YtfmghbennahlfaaGreat
open Go.RowKit Go.ChangeShapes Go.WideShapes Go.ChangeAt
set_option linter.unusedVariables false
set_option linter.unusedSimpArgs false
theorem step_app1 (w : World) {ops : Array Oper} {o : Oper} {a : Act} {K : Act → World → Prop} {Q : Exit → Act → World → Prop} {E : Prop} (hgd : o.guard = none) (s x : Operand)
   (ho : o.op = .call { callee := .builtin .append, args := #[s, x], argTypes := #[37, 37] }) (base : Nat) (v : Value) (n : Nat) (xs : List Value) (hs : a.eval s = v) (hown : w.ownsRow base 5 1 v n xs)
   (g : Nat) (b : Int) (hx : a.eval x = .slice (some ⟨g, 0, none⟩) 1 1) (hb : w.heap[g]? = some (.cells #[.int .u8 b] 5 (0, 0))) (h63 : n ≤ 1000000) (hbase : base ≤ w.heap.size)
   (h : ∀ v' w', w'.ownsRow base 5 1 v' (n + 1) (xs ++ [.int .u8 b]) → w.grownBy w' v.ownBlock → K (a.put o.dst v') w') :
   if Region.wanted o (yielded ops a.tmps) = true then Oper.wp Tryz.prog o a w K Q else E := by
 rw [if_pos (by simp [Region.wanted, hgd])]
 obtain ⟨i0, hi, hz0, hz1, hz2⟩ := info_parts8
 refine wp_append_own w s x 37 ho base 5 i0 (.int .u8 0) 1 1 Tryz.underlying37 hi hz0 hz1 hz2 rfl (by decide) v n xs hs hown ⟨g, 0, none⟩ 1 1 [.int .u8 b] hx rfl (fun j u hu => ?_) (fun y hy => by simp at hy; subst hy; rfl) (by unfold maxLen; omega) (by omega) hbase ?_
 · have e : (⟨g, 0, none⟩ : Addr).add j = ⟨g, 0 + j, none⟩ := by unfold Addr.add; split <;> simp_all
   rw [e, cell_of_row w g _ _ _ _ hb]
   simpa using hu
 · intro v' w' h2 h3 _
   exact h v' w' h2 h3
def NotU8 (o : Obj) : Prop := ∀ cs fr, o ≠ .cells cs 5 fr
structure KpT (base g : Nat) (w w' : World) : Prop where
 os : w'.os = w.os
 tape : w'.tape = w.tape
 output : w'.output = w.output
 size : w.heap.size ≤ w'.heap.size
 block : ∀ k, k < base → k ≠ g → w'.heap[k]? = w.heap[k]?
 other : ∀ k o, w.heap[k]? = some o → k ≠ g → NotU8 o → w'.heap[k]? = some o
theorem KpT.refl (base g : Nat) (w : World) : KpT base g w w := ⟨rfl, rfl, rfl, Nat.le_refl _, fun _ _ _ => rfl, fun _ _ h _ _ => h⟩
theorem KpT.trans {base g : Nat} {a b c : World} (h : KpT base g a b) (k : KpT base g b c) : KpT base g a c :=
 ⟨k.os.trans h.os, k.tape.trans h.tape, k.output.trans h.output, Nat.le_trans h.size k.size, fun i hi hne => (k.block i hi hne).trans (h.block i hi hne), fun i o ho hne hu => k.other i o (h.other i o ho hne hu) hne hu⟩
theorem KpT.on {base g : Nat} {a b c : World} (h : KpT base g a b) (k : KpT base g b.drew c) : KpT base g a c := h.trans ⟨k.os, k.tape, k.output, k.size, k.block, k.other⟩
theorem KpT.below {base g B : Nat} {a b : World} (h : KpT base g a b) (h1 : B ≤ base) (h2 : B ≤ g) : Below B a b := ⟨h.os, h.tape, h.output, h.size, fun k hk => h.block k (by omega) (by omega)⟩
theorem own_u8 {w : World} {base n : Nat} {v : Value} {xs : List Value} (h : w.ownsRow base 5 1 v n xs) {k : Nat} {o : Obj} (hk : w.heap[k]? = some o) (hu : NotU8 o) : some k ≠ v.ownBlock := fun e => by
 rcases h.2 with ⟨rfl, _⟩ | ⟨g, cap, cur, rfl, _, hg, _⟩
 · cases e
 · cases e
   rw [hg] at hk
   exact hu _ _ (Option.some.inj hk).symm
theorem alloc_kpT {w : World} {base g : Nat} (o : Obj) (hbase : base ≤ w.heap.size) : KpT base g w (w.alloc o) :=
 ⟨rfl, rfl, rfl, (below_1 w o).size, fun k hk _ => (below_1 w o).block k (by omega), fun k o' h _ _ => ((below_1 w o).block k (lt_blkR h)).trans h⟩
theorem lay_kpT {w w5 : World} {base g : Nat} {v v' : Value} {n : Nat} {xs : List Value} {o : Obj} (hown : w.ownsRow base 5 1 v n xs) (hg : g < base) (hgrow : (w.alloc o).grownBy w5 v.ownBlock) (hbase : base ≤ w.heap.size) :
   KpT base g w (w5.setCell ⟨g, 0, none⟩ v') :=
 ⟨hgrow.os, hgrow.tape, hgrow.output, by have := hgrow.size; simp [World.setCell] at this ⊢; omega, fun k hk hne => by
   rw [heap_setCell_other _ _ _ _ hne, hgrow.block k (by simp; omega) (fun e => by have := (hown.lt k e.symm).1; omega), Below.heap_alloc _ _ _ (by omega)],
  fun k o' h hne hu => by
   rw [heap_setCell_other _ _ _ _ hne, hgrow.block k (by have := lt_blkR h; simp; omega) (own_u8 hown h hu), Below.heap_alloc _ _ _ (lt_blkR h)]; exact h⟩
theorem text_kpT {w w5 : World} {base g : Nat} {v v' : Value} {n : Nat} {xs : List Value} (hown : w.ownsRow base 5 1 v n xs) (hg : g < base) (hgrow : w.grownBy w5 v.ownBlock) (hbase : base ≤ w.heap.size) :
   KpT base g w (w5.setCell ⟨g, 0, none⟩ v') :=
 ⟨hgrow.os, hgrow.tape, hgrow.output, by have := hgrow.size; simp [World.setCell] at this ⊢; omega, fun k hk hne => by
   rw [heap_setCell_other _ _ _ _ hne, hgrow.block k (by omega) (fun e => by have := (hown.lt k e.symm).1; omega)],
  fun k o' h hne hu => by
   rw [heap_setCell_other _ _ _ _ hne, hgrow.block k (lt_blkR h) (own_u8 hown h hu)]; exact h⟩
def beF (n : Int) : Nat → List Int
 | 0 => []
 | s + 1 => (n / 256 ^ s) % 256 :: beF n s
theorem beF_len (n : Int) : ∀ s, (beF n s).length = s
 | 0 => rfl
 | s + 1 => by simp [beF, beF_len n s]
theorem beF_get (n : Int) : ∀ (s i : Nat), i < s → (beF n s)[i]? = some ((n / 256 ^ (s - 1 - i)) % 256)
 | 0, i, h => by omega
 | s + 1, 0, h => by simp [beF]
 | s + 1, i + 1, h => by
   rw [beF, List.getElem?_cons_succ, beF_get n s i (by omega), show s - 1 - i = s + 1 - 1 - (i + 1) by omega]
theorem beF_take (n : Int) (s i : Nat) (h : i < s) : (beF n s).take (i + 1) = (beF n s).take i ++ [(n / 256 ^ (s - 1 - i)) % 256] := by
 rw [List.take_add_one, beF_get n s i h]; rfl
theorem shr_u64 (n : Int) (d : Nat) (hd : d ≤ 8) : Op.shift .shr .u64 n .i64 (8 * (d : Int)) = pure (.int .u64 (n / 256 ^ d)) := by
 have h := Go.shift_shr .u64 .i64 n (8 * (d : Int)) (by omega) (by simp [IntKind.bits]; omega)
 rw [h, show ((8 * (d : Int)).toNat) = 8 * d by omega, Int.pow_mul]; rfl
set_option maxRecDepth 20000 in
set_option maxHeartbeats 1000000 in
theorem number_c (T base g : Nat) (zs : List Int) (n : Int) (s : Nat) (w : World) (hp : Pile w T base g zs) (hn : zs.length < 900000) (hs : s ≤ 8) (h0 : 0 ≤ n) (h1 : n < 18446744073709551616) :
   Calls Tryz.prog 194 #[.pointer (some ⟨g, 0, none⟩), .int .u64 n, .int .i64 s] w fun e w' => e = .returned (.tuple #[]) ∧ Pile w' T base g (zs ++ beF n s) ∧ KpT base g w w' := by
 have HP := hid hp
 clear hp
 go_enter Tryz.func194, Tryz.ntmps194
 go_wp2
 go_loopg [8] s (fun k v wr => ∃ i : Nat, i + k = s ∧ v = .int .i64 i ∧ Hid (Pile wr T base g (zs ++ (beF n s).take i)) ∧ Hid (KpT base g w wr))
 case atStart => exact ⟨0, by omega, rfl, hid (by simpa using HP.out), hid (KpT.refl _ _ _)⟩
 case round =>
   obtain ⟨i, hik, rfl, HPi, HK⟩ := hrel
   by_cases hlt : i < s
   · have hltI : (i : Int) < s := by omega
     obtain ⟨hg, hbase, v, hbox, hown⟩ := HPi.out
     obtain ⟨va, vn, vc, rfl⟩ := own_slice hown
     have hc := cell_box hbox
     have hgl : g < wr.heap.size := by omega
     have hdown : wr.drew.ownsRow base 5 1 (.slice va vn vc) (zs ++ (beF n s).take i).length ((zs ++ (beF n s).take i).map u8V) := hown
     have hll : (zs ++ (beF n s).take i).length ≤ 1000000 := by rw [List.length_append, List.length_take, beF_len]; omega
     obtain ⟨d, hd⟩ : ∃ d, d = s - 1 - i := ⟨_, rfl⟩
     have HD := hid hd
     have k1 : IntKind.i64.wrap ((s : Int) - 1) = (s : Int) - 1 := by rw [IntKind.wrap_i64]; omega
     have k2 : IntKind.i64.wrap ((s : Int) - 1 - i) = d := by rw [IntKind.wrap_i64]; omega
     have k3 : IntKind.i64.wrap (8 * (d : Int)) = 8 * (d : Int) := by rw [IntKind.wrap_i64]; omega
     have k4 := shr_u64 n d (by omega)
     have HBT := hid (beF_take n s i hlt)
     rw [← hd] at HBT
     clear hd
     go_upto_region 3 with fail
     go_region_law (first | (refine step_app1 _ (by rfl) _ _ (by rfl) base (.slice va vn vc) _ _ (by rfl) (hdown.alloc _) wr.heap.size _ (by rfl) (heap_alloc_new _ _) hll (Nat.le_trans hbase (below_1 _ _).size) ?_; intro v' w5 hown' hgrow5; (have hbox5 := lay_box (w := wr.drew) hbox hdown hg hgrow5 hgl); (have hc5 := cell_box hbox5); (have hf5 := frozen_box hbox5); obtain ⟨a5, n5, c5, rfl⟩ := own_slice hown'))
     all_goals
       have HP2 : Hid (Pile (w5.setCell ⟨g, 0, none⟩ (.slice a5 n5 c5)) T base g (zs ++ (beF n s).take (i + 1))) := hid (by
         refine ⟨hg, ?_, _, heap_setBox _ hbox5, ?_⟩
         · have := hgrow5.size; simp at this ⊢; omega
         · rw [HBT.out, ← List.append_assoc]
           have := ownsRow_setCell_below hown' (a := ⟨g, 0, none⟩) hg (.slice a5 n5 c5)
           rw [List.length_append, List.map_append]
           simpa [u8V, IntKind.wrap_u8'] using this)
       have HK2 := hid (HK.out.on (lay_kpT (w := wr.drew) (v' := .slice a5 n5 c5) hdown hg hgrow5 hbase))
       go_wp2
       go_roundg (gk - 1)
       case measure => omega
       case rel => exact ⟨i + 1, by omega, by go_num, HP2, HK2⟩
   · have em : i = s := by omega
     subst em
     have hge : ¬ (i : Int) < i := by omega
     have HP3 : Hid (Pile wr T base g (zs ++ beF n i)) := hid (by have := HPi.out; rw [List.take_of_length_le (by rw [beF_len]; omega)] at this; exact this)
     go_wp2
     exact body_end (by kernel_rfl) rfl ⟨rfl, HP3.out, HK.out⟩
def txF (s : ByteArray) : List Int := beF (s.size : Int) 1 ++ Fr.bs s
theorem txF_len (s : ByteArray) : (txF s).length = s.size + 1 := by unfold txF; rw [List.length_append, beF_len, Fr.bs_length]; omega
theorem Pile.len {w : World} {T base g : Nat} {zs : List Int} (h : Pile w T base g zs) : g < base ∧ base ≤ w.heap.size := ⟨h.1, h.2.1⟩
theorem Pile.other {w w' : World} {T base g : Nat} {zs : List Int} (h : Pile w T base g zs) (o : Obj) : Pile (w.alloc o) T base g zs := by
 obtain ⟨hg, hbase, v, hbox, hown⟩ := h
 exact ⟨hg, Nat.le_trans hbase (below_1 w o).size, v, ((below_1 w o).block _ (lt_blkR hbox)).trans hbox, hown.alloc o⟩
set_option maxRecDepth 20000 in
set_option maxHeartbeats 1000000 in
theorem wtext_c (T base g : Nat) (zs : List Int) (s : ByteArray) (w : World) (hp : Pile w T base g zs) (hn : zs.length + s.size < 800000) :
   Calls Tryz.prog 245 #[.pointer (some ⟨g, 0, none⟩), .string s] w fun e w' => e = .returned (.tuple #[]) ∧ Pile w' T base g (zs ++ txF s) ∧ KpT base g w w' := by
 have NC := hid (number_c T base g zs (s.size : Int) 1 w hp (by omega) (by omega) (by omega) (by omega))
 obtain ⟨i0, hi, hz0, hz1, hz2⟩ := info_parts8
 have ku : IntKind.u64.wrap (s.size : Int) = s.size := by rw [IntKind.wrap_u64]; omega
 clear hp
 go_enter Tryz.func245, Tryz.ntmps245
 go_wp2_with (first
   | (at_builtin; refine Lib.wpList_append_own_string _ rfl _ _ 37 9 rfl base 5 i0 Tryz.underlying37 Tryz.underlying9 hi hz0 hz1 hz2 _ _ _ rfl hown s rfl (by rw [List.length_append, beF_len]; unfold maxLen; omega) (by rw [List.length_append, beF_len]; omega) hbase ?_; intro v' w5 hown' hgrow5 hnil5; (have hbox5 := text_box hbox hown hg hgrow5 (by omega)); (have hc5 := cell_box hbox5); (have hf5 := frozen_box hbox5); obtain ⟨a5, n5, c5, rfl⟩ := own_slice hown')
   | (go_at_call 194; refine NC.out.mono ?_; rintro _ w1 ⟨rfl, ⟨hg, hbase, v, hbox, hown⟩, hk1⟩; have hc := cell_box hbox; obtain ⟨va, vn, vc, rfl⟩ := own_slice hown; have K1 := hid hk1; clear hk1))
 rw [strCells_bs] at hown'
 refine body_end (by kernel_rfl) rfl ⟨rfl, ⟨hg, ?_, _, heap_setBox _ hbox5, ?_⟩, K1.out.trans (text_kpT hown hg hgrow5 hbase)⟩
 · have := hgrow5.size; simp at this ⊢; omega
 · have := ownsRow_setCell_below hown' (a := ⟨g, 0, none⟩) hg (.slice a5 n5 c5)
   unfold txF
   rw [← List.append_assoc, List.length_append, List.map_append, Fr.bs_length]
   exact this
end Go.Proofs.YtfmghbennahlfaaGreat
namespace Go.Proofs.YtfmghbennahlfaaGreat
open Go.RowKit Go.ChangeShapes Go.WideShapes Go.ChangeAt Go.Shelf
set_option linter.unusedVariables false
set_option linter.unusedSimpArgs false
def opB (x : Rec) : List Int := beF x.k 1 ++ beF x.fid 4 ++ beF x.dir 4 ++ txF x.nm ++ beF x.to 4 ++ txF x.nm2 ++ beF x.md 2 ++ txF x.dt
theorem name_size (s : ByteArray) (h : Pa.nameB s.data.toList = true) : s.size ≤ 12 := by
 unfold Pa.nameB at h
 simp only [Bool.and_eq_true, decide_eq_true_eq] at h
 exact h.1.1.1.2
theorem empty_size (s : ByteArray) (h : (s.toList == []) = true) : s.size = 0 := by
 have h1 : s.toList = [] := by simpa using h
 rw [Lib.toList_data] at h1
 have : s.data.toList.length = 0 := by rw [h1]; rfl
 simpa using this
theorem ent_size (b : Bool) (f : Int) (s : ByteArray) (h : entF b f s = true) : s.size ≤ 12 := by
 unfold entF at h
 cases b with
 | true => simp only [if_true, Bool.and_eq_true] at h; exact name_size s h.2
 | false => simp only [Bool.false_eq_true, if_false, Bool.and_eq_true] at h; have := empty_size s h.2; omega
theorem dat_size (b : Bool) (s : ByteArray) (h : datF b s = true) : s.size ≤ 64 := by
 unfold datF at h
 cases b with
 | true => simpa using h
 | false => simp only [Bool.false_eq_true, if_false] at h; have := empty_size s h; omega
theorem right_size (x : Rec) (h : rightF x = true) : x.nm.size ≤ 12 ∧ x.nm2.size ≤ 12 ∧ x.dt.size ≤ 64 := by
 unfold rightF at h
 simp only [Bool.and_eq_true] at h
 obtain ⟨_, ⟨⟨h1, h2⟩, _⟩, h4⟩ := h
 exact ⟨ent_size _ _ _ h1, ent_size _ _ _ h2, dat_size _ _ h4⟩
theorem num1_c {T base g : Nat} {zs : List Int} {n : Int} {w : World} (hp : Pile w T base g zs) (hn : zs.length < 900000) (h0 : 0 ≤ n) (h1 : n < 18446744073709551616) :
   Calls Tryz.prog 194 #[.pointer (some ⟨g, 0, none⟩), .int .u64 n, .int .i64 1] w fun e w' => e = .returned (.tuple #[]) ∧ Pile w' T base g (zs ++ beF n 1) ∧ KpT base g w w' :=
 number_c T base g zs n 1 w hp hn (by omega) h0 h1
theorem num2_c {T base g : Nat} {zs : List Int} {n : Int} {w : World} (hp : Pile w T base g zs) (hn : zs.length < 900000) (h0 : 0 ≤ n) (h1 : n < 18446744073709551616) :
   Calls Tryz.prog 194 #[.pointer (some ⟨g, 0, none⟩), .int .u64 n, .int .i64 2] w fun e w' => e = .returned (.tuple #[]) ∧ Pile w' T base g (zs ++ beF n 2) ∧ KpT base g w w' :=
 number_c T base g zs n 2 w hp hn (by omega) h0 h1
theorem num4_c {T base g : Nat} {zs : List Int} {n : Int} {w : World} (hp : Pile w T base g zs) (hn : zs.length < 900000) (h0 : 0 ≤ n) (h1 : n < 18446744073709551616) :
   Calls Tryz.prog 194 #[.pointer (some ⟨g, 0, none⟩), .int .u64 n, .int .i64 4] w fun e w' => e = .returned (.tuple #[]) ∧ Pile w' T base g (zs ++ beF n 4) ∧ KpT base g w w' :=
 number_c T base g zs n 4 w hp hn (by omega) h0 h1
theorem num8_c {T base g : Nat} {zs : List Int} {n : Int} {w : World} (hp : Pile w T base g zs) (hn : zs.length < 900000) (h0 : 0 ≤ n) (h1 : n < 18446744073709551616) :
   Calls Tryz.prog 194 #[.pointer (some ⟨g, 0, none⟩), .int .u64 n, .int .i64 8] w fun e w' => e = .returned (.tuple #[]) ∧ Pile w' T base g (zs ++ beF n 8) ∧ KpT base g w w' :=
 number_c T base g zs n 8 w hp hn (by omega) h0 h1
theorem wtx_c {T base g : Nat} {zs : List Int} {s : ByteArray} {w : World} (hp : Pile w T base g zs) (hn : zs.length + s.size < 800000) :
   Calls Tryz.prog 245 #[.pointer (some ⟨g, 0, none⟩), .string s] w fun e w' => e = .returned (.tuple #[]) ∧ Pile w' T base g (zs ++ txF s) ∧ KpT base g w w' :=
 wtext_c T base g zs s w hp hn
end Go.Proofs.YtfmghbennahlfaaGreat
namespace Go.Proofs.YtfmghbennahlfaaGreat
open Go.RowKit Go.ChangeShapes Go.WideShapes Go.ChangeAt
set_option linter.unusedVariables false
set_option linter.unusedSimpArgs false
set_option maxRecDepth 100000
theorem own_shapeR {w : World} {base e size n : Nat} {v : Value} {xs : List Value} (h : w.ownsRow base e size v n xs) : ∃ a cap, v = .slice a n cap := by
 rcases h.2 with ⟨hv, hn⟩ | ⟨g, cap, cur, hv, _⟩
 · exact ⟨_, _, by rw [hv, hn]⟩
 · exact ⟨_, _, hv⟩
theorem own_baseR {w : World} {base base' e size n : Nat} {v : Value} {xs : List Value} (h : w.ownsRow base e size v n xs) (hB : base' ≤ base) : w.ownsRow base' e size v n xs := by
 refine ⟨h.1, ?_⟩
 rcases h.2 with h | ⟨g, cap, cur, e1, e2, e3, e4⟩
 · exact .inl h
 · exact .inr ⟨g, cap, cur, e1, Nat.le_trans hB e2, e3, e4⟩
theorem tx_size (zs : List Int) : (Fr.tx zs).size = zs.length := by
 show (Fr.tx zs).data.toList.length = _
 unfold Fr.tx
 simp
def kidB (x : Kd) : List Int := txF x.nm ++ beF x.fid 4
def kidsB (l : List Kd) : List Int := l.flatMap kidB
def nodeB (x : Nd) : List Int := beF x.fid 4 ++ beF x.k 1 ++ beF x.md 2 ++ beF x.ln 2 ++ txF (Fr.tx x.zs) ++ (beF x.ks.length 1 ++ kidsB x.ks)
def SmallK (l : List Kd) : Prop := ∀ x ∈ l, x.nm.size ≤ 100
theorem kidB_len (x : Kd) : (kidB x).length = 5 + x.nm.size := by unfold kidB; rw [List.length_append, beF_len, txF_len]; omega
theorem kidsB_snoc (l : List Kd) (x : Kd) : kidsB (l ++ [x]) = kidsB l ++ kidB x := by unfold kidsB; simp
theorem kidsB_le {l : List Kd} (h : SmallK l) : (kidsB l).length ≤ l.length * 105 := by
 unfold kidsB
 induction l with
 | nil => simp
 | cons x t ih =>
   have h1 := h x (by simp)
   have h2 := ih (fun y hy => h y (by simp [hy]))
   rw [List.flatMap_cons, List.length_append, kidB_len, List.length_cons]
   omega
theorem smallK_take {l : List Kd} (h : SmallK l) (m : Nat) : SmallK (l.take m) := fun x hx => h x (List.mem_of_mem_take hx)
theorem kid_notU8 (x : Kd) : NotU8 (.cells #[.string x.nm, .int .u32 x.fid] 66 (0, 0)) := fun cs fr e => by
 injection e with e1 e2
 cases e2
theorem node_notU8 (x : Nd) : NotU8 (.cells x.cells.toArray 40 (0, 0)) := fun cs fr e => by
 injection e with e1 e2
 cases e2
set_option maxHeartbeats 2000000 in
theorem putKid_c (T base g : Nat) (zs : List Int) (x : Kd) (w : World) (hp : Pile w T base g zs) (hn : zs.length < 400000) (hw : x.Wf) (hs : x.nm.size ≤ 100) :
   Calls Tryz.prog 337 #[.pointer (some ⟨g, 0, none⟩), x.val] w fun e w' => e = .returned (.tuple #[]) ∧ Pile w' T base g (zs ++ kidB x) ∧ KpT base g w w' := by
 have hx : (w.alloc (.cells #[.string x.nm, .int .u32 x.fid] 66)).heap[w.heap.size]? = some (.cells #[.string x.nm, .int .u32 x.fid] 66 (0, 0)) := heap_alloc_new w _
 have y0 : (w.alloc (.cells #[.string x.nm, .int .u32 x.fid] 66)).cell? ⟨w.heap.size, 0, none⟩ = some (.string x.nm) := cell_of_row2 hx 0 rfl
 have hne : w.heap.size ≠ g := by have := hp.len; omega
 have HX := hid hx
 have K0 : Hid (KpT base g w (w.alloc (.cells #[.string x.nm, .int .u32 x.fid] 66))) := hid (alloc_kpT _ hp.len.2)
 have TC := hid (wtx_c (s := x.nm) (hp.other (w' := w) (.cells #[.string x.nm, .int .u32 x.fid] 66)) (by omega))
 have NC := hid (fun W (hq : Pile W T base g (zs ++ txF x.nm)) => num4_c (n := x.fid) hq (by rw [List.length_append, txF_len]; omega) hw.2.1 (by have := hw.2.2; omega))
 have u1 : IntKind.u64.wrap x.fid = x.fid := by rw [IntKind.wrap_u64]; have := hw.2; omega
 unfold Kd.val
 clear hx hp hw
 go_enter Tryz.func337, Tryz.ntmps337
 go_wp2_with (first
   | (go_at_call 194; refine (NC.out _ HP1.out).mono ?_; rintro _ w2 ⟨rfl, hp2, hk2⟩)
   | (go_at_call 245; refine TC.out.mono ?_; rintro _ w1 ⟨rfl, hp1, hk1⟩; have HP1 := hid hp1; have K1 := hid (K0.out.trans hk1); have z1 : w1.cell? ⟨w.heap.size, 1, none⟩ = some (.int .u32 x.fid) := cell_of_row2 (hk1.other _ _ HX.out hne (kid_notU8 x)) 1 rfl; clear hp1 hk1))
 refine body_end (by kernel_rfl) rfl ⟨rfl, ?_, K1.out.trans hk2⟩
 unfold kidB
 rw [← List.append_assoc]
 exact hp2
set_option maxHeartbeats 2000000 in
theorem putListK_c (T base g : Nat) (zs : List Int) (a : Option Addr) (cap : Nat) (l : List Kd) (w : World) (hp : Pile w T base g zs) (hn : zs.length < 1000) (hl : ∀ W, KpT base g w W → IsKs W a l) (hm : l.length ≤ 255) (hs : SmallK l) :
   Calls Tryz.prog 336 #[.pointer (some ⟨g, 0, none⟩), .slice a l.length cap, .func (.func 337) #[] #[]] w fun e w' => e = .returned (.tuple #[]) ∧ Pile w' T base g (zs ++ (beF l.length 1 ++ kidsB l)) ∧ KpT base g w w' := by
 have NC := hid (num1_c (n := (l.length : Int)) hp (by omega) (by omega) (by omega))
 have HL := hid hl
 have HS := hid hs
 have ku : IntKind.u64.wrap (l.length : Int) = l.length := by rw [IntKind.wrap_u64]; omega
 clear hp hl hs
 obtain ⟨n, hnn⟩ : ∃ n, n = l.length := ⟨_, rfl⟩
 rw [← hnn] at hm NC ku ⊢
 have HN := hid hnn
 clear hnn
 go_enter Tryz.func336, Tryz.ntmps336
 go_wp2_with (go_at_call 194; refine NC.out.mono ?_; rintro _ w1 ⟨rfl, hp1, hk1⟩; have HP1 := hid hp1; have K1 := hid hk1; clear hp1 hk1)
 clear NC
 go_loopg [15] n (fun k v wr => ∃ m : Nat, m + k = n ∧ v = .int .i64 m ∧ Hid (Pile wr T base g (zs ++ beF n 1 ++ kidsB (l.take m))) ∧ Hid (KpT base g w wr))
 case atStart => exact ⟨0, by omega, rfl, hid (by simpa [kidsB] using HP1.out), K1⟩
 case round =>
   clear HP1 K1
   obtain ⟨m, hmk, rfl, HP, HK⟩ := hrel
   by_cases hlt : m < n
   · have hltI : (m : Int) < n := by omega
     have hln : m < l.length := by rw [← HN.out]; exact hlt
     have hil := HL.out wr HK.out
     obtain ⟨b, off, rfl, _⟩ := hil.2.2 (by omega)
     obtain ⟨k0, k1⟩ := hil.at (i := m) hln
     have hwf := hil.wf (i := m) hln
     have hsz := HS.out (l.getD m Kd.no) (by rw [List.getD, List.getElem?_eq_getElem hln]; exact List.getElem_mem _)
     have HT := hid (take_kid (l := l) (m := m) hln)
     have hlen : (zs ++ beF n 1 ++ kidsB (l.take m)).length < 400000 := by
       have := kidsB_le (smallK_take HS.out m)
       rw [List.length_take] at this
       rw [List.length_append, List.length_append, beF_len]
       omega
     clear hil hln
     generalize l.getD m Kd.no = x at *
     have PC := hid (putKid_c T base g _ x _ (HP.out.other (w' := wr) (.cells #[.string x.nm, .int .u32 x.fid] 66)) hlen hwf hsz)
     have KA : Hid (KpT base g w (wr.alloc (.cells #[.string x.nm, .int .u32 x.fid] 66))) := hid (HK.out.trans (alloc_kpT _ HP.out.len.2))
     unfold Kd.val at PC
     clear hwf hsz hlen
     go_wp2_with (go_at_call 337; refine PC.out.mono ?_; rintro _ w2 ⟨rfl, hp2, hk2⟩)
     go_roundg (gk - 1)
     case measure => omega
     case rel => exact ⟨m + 1, by omega, by go_num, hid (by rw [HT.out, kidsB_snoc, ← List.append_assoc]; exact hp2), hid (KA.out.trans hk2)⟩
   · have em : m = n := by omega
     have hge : ¬ (m : Int) < n := by omega
     have HP2 : Hid (Pile wr T base g (zs ++ (beF n 1 ++ kidsB l))) := hid (by
       have := HP.out
       rw [List.take_of_length_le (by rw [← HN.out]; omega), List.append_assoc] at this
       exact this)
     go_wp2
     exact body_end (by kernel_rfl) rfl ⟨rfl, HP2.out, HK.out⟩
set_option maxHeartbeats 2000000 in
theorem putNode_c (T base g : Nat) (zs : List Int) (x : Nd) (w : World) (hp : Pile w T base g zs) (hn : zs.length < 500) (hl : ∀ W, KpT base g w W → x.Ok W) (hd : x.zs.length ≤ 64) (hm : x.ks.length ≤ 255) (hs : SmallK x.ks) :
   Calls Tryz.prog 305 #[.pointer (some ⟨g, 0, none⟩), x.val] w fun e w' => e = .returned (.tuple #[]) ∧ Pile w' T base g (zs ++ nodeB x) ∧ KpT base g w w' := by
 obtain ⟨h1, h2, h3, h4, _⟩ := hl w (KpT.refl _ _ _)
 have u1 : IntKind.u64.wrap x.fid = x.fid := by rw [IntKind.wrap_u64]; omega
 have u2 : IntKind.u64.wrap x.k = x.k := by rw [IntKind.wrap_u64]; omega
 have u3 : IntKind.u64.wrap x.md = x.md := by rw [IntKind.wrap_u64]; omega
 have u4 : IntKind.u64.wrap x.ln = x.ln := by rw [IntKind.wrap_u64]; omega
 have hx : (w.alloc (.cells x.cells.toArray 40)).heap[w.heap.size]? = some (.cells x.cells.toArray 40 (0, 0)) := heap_alloc_new w _
 obtain ⟨y0, y1, y2, y3, y4, y5⟩ := nd_cells hx
 have hne : w.heap.size ≠ g := by have := hp.len; omega
 have HX := hid hx
 have HP := hid (hp.other (w' := w) (.cells x.cells.toArray 40))
 have HK : Hid (KpT base g w (w.alloc (.cells x.cells.toArray 40))) := hid (alloc_kpT _ hp.len.2)
 have HL := hid hl
 have HS := hid hs
 unfold Nd.val
 clear hx hp hl hs
 go_enter Tryz.func305, Tryz.ntmps305
 clear y1 y2 y3 y4 y5
 have t0 := hid True.intro
 go_wp2_with (first
   | (have _q := t0.out; clear _q; go_at_call 194; refine (num4_c HP.out (by (try simp only [List.length_append, beF_len, txF_len, tx_size, List.length_nil]); omega) (by omega) (by omega)).mono ?_; rintro _ w9 ⟨rfl, hp9, hk9⟩
      have HX9 := hid (hk9.other _ _ HX.out hne (node_notU8 x))
      have HP9 := hid hp9
      have HK9 := hid (HK.out.trans hk9)
      have z1 := (nd_cells HX9.out).2.1
      have t1 := hid True.intro
      clear hp9 hk9 HP HK HX t0
      have HP := HP9
      have HK := HK9
      have HX := HX9
      clear HP9 HK9 HX9)
   | (have _q := t1.out; clear _q; go_at_call 194; refine (num1_c HP.out (by (try simp only [List.length_append, beF_len, txF_len, tx_size, List.length_nil]); omega) (by omega) (by omega)).mono ?_; rintro _ w9 ⟨rfl, hp9, hk9⟩
      have HX9 := hid (hk9.other _ _ HX.out hne (node_notU8 x))
      have HP9 := hid hp9
      have HK9 := hid (HK.out.trans hk9)
      have z2 := (nd_cells HX9.out).2.2.1
      have t2 := hid True.intro
      clear hp9 hk9 HP HK HX t1 z1
      have HP := HP9
      have HK := HK9
      have HX := HX9
      clear HP9 HK9 HX9)
   | (have _q := t2.out; clear _q; go_at_call 194; refine (num2_c HP.out (by (try simp only [List.length_append, beF_len, txF_len, tx_size, List.length_nil]); omega) (by omega) (by omega)).mono ?_; rintro _ w9 ⟨rfl, hp9, hk9⟩
      have HX9 := hid (hk9.other _ _ HX.out hne (node_notU8 x))
      have HP9 := hid hp9
      have HK9 := hid (HK.out.trans hk9)
      have z3 := (nd_cells HX9.out).2.2.2.1
      have t3 := hid True.intro
      clear hp9 hk9 HP HK HX t2 z2
      have HP := HP9
      have HK := HK9
      have HX := HX9
      clear HP9 HK9 HX9)
   | (have _q := t3.out; clear _q; go_at_call 194; refine (num2_c HP.out (by (try simp only [List.length_append, beF_len, txF_len, tx_size, List.length_nil]); omega) (by omega) (by omega)).mono ?_; rintro _ w9 ⟨rfl, hp9, hk9⟩
      have HX9 := hid (hk9.other _ _ HX.out hne (node_notU8 x))
      have HP9 := hid hp9
      have HK9 := hid (HK.out.trans hk9)
      have z4 := (nd_cells HX9.out).2.2.2.2.1
      have cv := conv_anyN (pc := x.dc) (HL.out _ HK9.out).2.2.2.2.1
      have t4 := hid True.intro
      clear hp9 hk9 HP HK HX t3 z3
      have HP := HP9
      have HK := HK9
      have HX := HX9
      clear HP9 HK9 HX9)
   | (have _q := t4.out; clear _q; go_at_call 245; refine (wtx_c HP.out (by (try simp only [List.length_append, beF_len, txF_len, tx_size, List.length_nil]); omega)).mono ?_; rintro _ w9 ⟨rfl, hp9, hk9⟩
      have HX9 := hid (hk9.other _ _ HX.out hne (node_notU8 x))
      have HP9 := hid hp9
      have HK9 := hid (HK.out.trans hk9)
      have z5 := (nd_cells HX9.out).2.2.2.2.2
      have t5 := hid True.intro
      clear hp9 hk9 HP HK HX t4 z4 cv
      have HP := HP9
      have HK := HK9
      have HX := HX9
      clear HP9 HK9 HX9)
   | (have _q := t5.out; clear _q; go_at_call 336; refine (putListK_c T base g _ x.ka x.kc x.ks _ HP.out (by (try simp only [List.length_append, beF_len, txF_len, tx_size, List.length_nil]); omega) (fun W hW => (HL.out W (HK.out.trans hW)).2.2.2.2.2) hm HS.out).mono ?_; rintro _ w9 ⟨rfl, hp9, hk9⟩
      have HX9 := hid (hk9.other _ _ HX.out hne (node_notU8 x))
      have HP9 := hid hp9
      have HK9 := hid (HK.out.trans hk9)
      clear hp9 hk9 HP HK HX t5 z5
      have HP := HP9
      have HK := HK9
      have HX := HX9
      clear HP9 HK9 HX9))
 refine body_end (by kernel_rfl) rfl ⟨rfl, ?_, HK.out⟩
 have := HP.out
 unfold nodeB
 simpa only [List.append_assoc] using this
set_option maxHeartbeats 1000000 in
theorem writtenNode_c (x : Nd) (w : World) (h : x.Ok w) (hd : x.zs.length ≤ 64) (hm : x.ks.length ≤ 255) (hs : SmallK x.ks) :
   Calls Tryz.prog 304 #[x.val, .func (.func 305) #[] #[]] w fun e w' => ∃ v, e = .returned v ∧ w'.ownsRow w.heap.size 5 1 v (nodeB x).length ((nodeB x).map u8V) ∧ Below w.heap.size w w' := by
 have hx : (w.alloc (.cells x.cells.toArray 40)).heap[w.heap.size]? = some (.cells x.cells.toArray 40 (0, 0)) := heap_alloc_new w _
 have b1 := below_1 w (.cells x.cells.toArray 40)
 have hx2 := ((below_1 (w.alloc (.cells x.cells.toArray 40)) (.cells #[.slice none 0 0] 219)).block _ (lt_blkR hx)).trans hx
 obtain ⟨y0, y1, y2, y3, y4, y5⟩ := nd_cells hx2
 have hg2 := heap_alloc_new (w.alloc (.cells x.cells.toArray 40)) (.cells #[.slice none 0 0] 219)
 have hs1 : (w.alloc (.cells x.cells.toArray 40)).heap.size = w.heap.size + 1 := by simp
 have hs2 : ((w.alloc (.cells x.cells.toArray 40)).alloc (.cells #[.slice none 0 0] 219)).heap.size = w.heap.size + 2 := by simp
 rw [hs1] at hg2
 have b2 := b1.trans ((below_1 (w.alloc (.cells x.cells.toArray 40)) (.cells #[.slice none 0 0] 219)).mono b1.size)
 have B2 := hid b2
 have HP : Hid (Pile ((w.alloc (.cells x.cells.toArray 40)).alloc (.cells #[.slice none 0 0] 219)) 219 (w.heap.size + 2) (w.heap.size + 1) []) := hid ⟨by omega, by rw [hs2]; omega, _, hg2, World.ownsRow_nil _ _ _ _⟩
 have PC := hid (putNode_c 219 (w.heap.size + 2) (w.heap.size + 1) [] x _ HP.out (by simp) (fun W hW => h.later (b2.trans (hW.below (by omega) (by omega)))) hd hm hs)
 rw [List.nil_append] at PC
 unfold Nd.val at PC ⊢
 clear hx hx2 hg2 hs1 hs2 b1 HP h b2
 go_enter Tryz.func304, Tryz.ntmps304
 go_wp2_with (first | (go_at_call 305; refine PC.out.mono ?_; rintro _ w1 ⟨rfl, ⟨hg, hbase, v, hbox, hown⟩, hk⟩; have hc := cell_box hbox; obtain ⟨va, vn, vc, rfl⟩ := own_slice hown))
 go_ret
 exact ⟨_, rfl, own_baseR hown (by omega), B2.out.trans (hk.below (by omega) (by omega))⟩
theorem kidsTo_name {l : List Kd} : ∀ m, kidsTo l m = true → ∀ i, i < m → Pa.nameB (l.getD i Kd.no).nm.data.toList = true
 | 0, _, i, hi => by omega
 | m + 1, h, i, hi => by
   simp only [kidsTo, Bool.and_eq_true] at h
   by_cases e : i = m
   · subst e
     have := h.2
     unfold kOk at this
     simp only [Bool.and_eq_true] at this
     exact this.1.1
   · exact kidsTo_name m h.1 i (by omega)
theorem kname_size {s : ByteArray} (h : Pa.nameB s.data.toList = true) : s.size ≤ 12 := by
 by_cases q : 12 < s.size
 · rw [Pa.nameB_long s.data.toList (by show 12 < s.size; exact q)] at h
   cases h
 · omega
theorem node_small {x : Nd} (h : nodeOk x = true) : x.zs.length ≤ 64 ∧ x.ks.length ≤ 12 ∧ SmallK x.ks := by
 unfold nodeOk at h
 simp only [Bool.and_eq_true, Bool.not_eq_true', Bool.or_eq_false_iff, decide_eq_false_iff_not] at h
 obtain ⟨⟨⟨_, h1⟩, h2⟩, h3⟩ := h
 refine ⟨by omega, by omega, fun k hk => ?_⟩
 obtain ⟨i, hi, rfl⟩ := List.getElem_of_mem hk
 have g : x.ks.getD i Kd.no = x.ks[i] := by rw [List.getD, List.getElem?_eq_getElem hi]; rfl
 cases q : (x.k == 1 || x.k == 3) with
 | true =>
   rw [q] at h3
   simp only [cond_true, decide_eq_true_eq] at h3
   omega
 | false =>
   rw [q] at h3
   cases q2 : (x.k == 2) with
   | false => rw [q2] at h3; simp at h3
   | true =>
     rw [q2] at h3
     simp only [cond_false, cond_true, Bool.and_eq_true] at h3
     have := kname_size (kidsTo_name _ h3.2 i hi)
     rw [g] at this
     omega
end Go.Proofs.YtfmghbennahlfaaGreat
