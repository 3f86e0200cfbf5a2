/-
  The document's paths: below, Paths.
-/
import Derived.Test.YtkokjkaclcjnjaaDoorTrBt
import Derived.Test.YtkokjkaclcjnjaaDoorTrAq
namespace Go.Proofs.YtkokjkaclcjnjaaDoor
open Go.RowKit Go.ChangeShapes Go.WideShapes Go.ChangeAt Go.Maps Go.Shelf
set_option linter.unusedVariables false
set_option linter.unusedSimpArgs false
set_option maxRecDepth 100000
theorem OwS.news {w : World} {base : Nat} {v : Value} {l : List ByteArray} (h : OwS w base v l) (hp : l ≠ []) : ∃ g c, v = .slice (some ⟨g, 0, none⟩) l.length c ∧ ∀ (j : Nat) y, (l.map Value.string)[j]? = some y → w.cell? ((⟨g, 0, none⟩ : Addr).add j) = some y := by
 obtain ⟨a, c, rfl⟩ := h.shape
 obtain ⟨g, rfl, h1, h2, h3⟩ := h.cells (List.length_pos_iff.2 hp)
 refine ⟨g, c, rfl, fun j y hy => ?_⟩
 rw [List.getElem?_map] at hy
 cases e : l[j]? with
 | none => rw [e] at hy; cases hy
 | some x =>
   rw [e] at hy
   cases hy
   rw [Lib.add_plain]
   exact h3 j x e
theorem below_grownS {B : Nat} {a w w' : World} {base : Nat} {v : Value} {l : List ByteArray} (h : Below B a w) (hO : OwS w base v l) (hB : B ≤ base) (hz : B ≤ w.heap.size) (hg : w.grownBy w' v.ownBlock) : Below B a w' := below_grownI h hO hB hz hg
theorem ownsS_low {w : World} {b base : Nat} {v : Value} {l : List ByteArray} (h : OwS w base v l) (hb : b ≤ base) : OwS w b v l := ⟨h.1, by
 rcases h.2 with q | ⟨g, c, cur, q1, q2, q3⟩
 · exact .inl q
 · exact .inr ⟨g, c, cur, q1, by omega, q3⟩⟩
theorem wpList_appendS {ops : Array Oper} {rest : List Oper} {o : Oper} {a : Act} {Q : Exit → Act → World → Prop} (w : World) (hgd : o.guard = none) (s x : Operand)
   (ho : o.op = .call { callee := .builtin .append, args := #[s, x], argTypes := #[42, 42] })
   (base base2 : Nat) (v u : Value) (L M : List ByteArray) (hs : a.eval s = v) (hown : OwS w base v L) (hx : a.eval x = u) (hsrc : OwS w base2 u M) (hl : L.length ≤ 100000) (hm : M.length ≤ 100000) (hb : base ≤ w.heap.size)
   (h : ∀ v' w', OwS w' base v' (L ++ M) → w.grownBy w' v.ownBlock → wpList Tryd.prog ops Q rest (a.put o.dst v') w') : wpList Tryd.prog ops Q (o :: rest) a w := by
 obtain ⟨i0, hi0, hz0, hz1, hz2⟩ := info_strT
 by_cases hM : M = []
 · subst hM
   rcases hsrc.2 with ⟨rfl, h0⟩ | ⟨g, cap, cur, rfl, _, hg, hn, _⟩
   · refine wpList_append_own_none hgd s x 42 ho base 9 i0 1 Tryd.underlying42 hi0 v _ _ hs hown hx ?_
     exact h v w (by simpa using hown) (World.grownBy.refl w _)
   · refine wpList_append_own w hgd s x 42 ho base 9 i0 (.string ByteArray.empty) 1 16 Tryd.underlying42 hi0 hz0 hz1 hz2 (by rfl) (by decide) v L.length _ hs hown ⟨g, 0, none⟩ 0 cap [] hx rfl (fun j y hj => by cases hj) (fun y hy => by cases hy) (by unfold maxLen; omega) (by omega) hb ?_
     intro v' w' q1 q2 _
     exact h v' w' (by unfold OwS; rw [List.append_nil]; simpa using q1) q2
 · obtain ⟨g, c, rfl, hc⟩ := hsrc.news hM
   refine wpList_append_own w hgd s x 42 ho base 9 i0 (.string ByteArray.empty) 1 16 Tryd.underlying42 hi0 hz0 hz1 hz2 (by rfl) (by decide) v L.length _ hs hown ⟨g, 0, none⟩ M.length c (M.map Value.string) hx (by simp) hc (fun y hy => ?_) (by unfold maxLen; omega) (by omega) hb ?_
   · obtain ⟨p, _, rfl⟩ := List.mem_map.1 hy
     rfl
   · intro v' w' q1 q2 _
     exact h v' w' (by unfold OwS; rw [List.map_append, List.length_append]; exact q1) q2
theorem wpList_append1S {ops : Array Oper} {rest : List Oper} {o : Oper} {a : Act} {Q : Exit → Act → World → Prop} (w : World) (hgd : o.guard = none) (s x : Operand)
   (ho : o.op = .call { callee := .builtin .append, args := #[s, x], argTypes := #[42, 42] })
   (base : Nat) (v : Value) (L : List ByteArray) (hs : a.eval s = v) (hown : OwS w base v L) (g : Nat) (y : ByteArray) (hx : a.eval x = .slice (some ⟨g, 0, none⟩) 1 1) (hg : w.heap[g]? = some (.cells #[.string y] 9 (0, 0))) (hl : L.length ≤ 100000) (hb : base ≤ w.heap.size)
   (h : ∀ v' w', OwS w' base v' (L ++ [y]) → w.grownBy w' v.ownBlock → wpList Tryd.prog ops Q rest (a.put o.dst v') w') : wpList Tryd.prog ops Q (o :: rest) a w := by
 obtain ⟨i0, hi0, hz0, hz1, hz2⟩ := info_strT
 refine wpList_append_own w hgd s x 42 ho base 9 i0 (.string ByteArray.empty) 1 16 Tryd.underlying42 hi0 hz0 hz1 hz2 (by rfl) (by decide) v L.length _ hs hown ⟨g, 0, none⟩ 1 1 [.string y] hx (by simp) (fun j u hj => ?_) (fun u hu => ?_) (by unfold maxLen; omega) (by omega) hb ?_
 · match j, hj with
   | 0, hj => simp at hj; subst hj; rw [Lib.add_plain, Nat.zero_add]; exact cell_of_row2 hg 0 rfl
 · rw [List.mem_singleton] at hu
   subst hu
   rfl
 · intro v' w' q1 q2 _
   exact h v' w' (by unfold OwS; rw [List.map_append, List.length_append]; exact q1) q2
theorem bel_part {k : Nat} {L : List Nd} {f : Int} {p : ByteArray} {i : Nat} (hi : i < (kidsF L f).length) : ((kidsF L f).take (i + 1)).flatMap (fun x => ownB p x :: belF L k x.fid (ownB p x)) = ((kidsF L f).take i).flatMap (fun x => ownB p x :: belF L k x.fid (ownB p x)) ++ [ownB p ((kidsF L f).getD i Kd.no)] ++ belF L k ((kidsF L f).getD i Kd.no).fid (ownB p ((kidsF L f).getD i Kd.no)) := by
 rw [List.take_succ_eq_append_getElem hi, List.flatMap_append, List.getD, List.getElem?_eq_getElem hi]
 simp
theorem flat_take_le {α β : Type} (F : α → List β) (l : List α) (i : Nat) : ((l.take i).flatMap F).length ≤ (l.flatMap F).length := by
 conv => rhs; rw [← List.take_append_drop i l]
 rw [List.flatMap_append, List.length_append]
 omega
set_option maxHeartbeats 4000000 in
theorem rbelow_0 {a : Option Addr} {cap : Nat} {L : List Nd} (f : Int) (p : ByteArray) (w : World) (h : IsNs w a L) (hm : L.length ≤ 1000) :
   Calls Tryd.prog 42 #[.slice a L.length cap, .int .u32 f, .string p, .int .i64 ((L.length + 1 : Nat) : Int)] w (ColS [] w) := by
 have GC := hid (get2_c a cap L f w h (by omega))
 unfold gotV at GC
 generalize (getF L f).getD Nd.no = y at *
 generalize (getF L f).isSome = yb at *
 obtain ⟨yf, yk, ym, yl, yda, ydc, yzs, yka, ykc, ks⟩ := y
 simp only [Nd.val] at GC
 clear h
 generalize L.length = n at *
 have hd : ¬ (((n + 1 : Nat) : Int) ≤ n) := by omega
 generalize ((n + 1 : Nat) : Int) = d at *
 go_enter Tryd.func42, Tryd.ntmps42
 go_upto_region 3 with (go_at_call 66; refine GC.out.mono ?_; rintro _ w1 ⟨rfl, hb1⟩; have B1 := hid hb1; clear hb1)
 have hN := heap_alloc_new w1 (.cells #[.int .u32 yf, .int .u8 yk, .int .u16 ym, .int .u16 yl, .slice yda yzs.length ydc, .slice yka ks.length ykc] 35)
 have q5 : (w1.alloc (.cells #[.int .u32 yf, .int .u8 yk, .int .u16 ym, .int .u16 yl, .slice yda yzs.length ydc, .slice yka ks.length ykc] 35)).cell? ⟨w1.heap.size, 5, none⟩ = some (.slice yka ks.length ykc) := cell_of_row2 hN 5 rfl
 have B2 := hid (B1.out.trans ((below_1 w1 (.cells #[.int .u32 yf, .int .u8 yk, .int .u16 ym, .int .u16 yl, .slice yda yzs.length ydc, .slice yka ks.length ykc] 35)).mono B1.out.size))
 clear hN
 generalize (w1.alloc (.cells #[.int .u32 yf, .int .u8 yk, .int .u16 ym, .int .u16 yl, .slice yda yzs.length ydc, .slice yka ks.length ykc] 35)) = V at *
 go_wp2
 go_loopg [9, 12] 0 (fun gk v i wr => v = .slice none 0 0 ∧ i = .int .i64 0 ∧ Hid (wr = V))
 case atStart => exact ⟨rfl, rfl, hid rfl⟩
 case round =>
   obtain ⟨rfl, rfl, HW⟩ := hrel
   have hwr := HW.out
   subst hwr
   by_cases hz : 0 < ks.length
   · have hzI : (0 : Int) < ks.length := by omega
     go_wp2
     refine bodyPost_ret (v := .slice none 0 0) (by simp [results, Tryd.results42, go_sem]) rfl ⟨_, rfl, OwS.nil _ _, B2.out⟩
   · have hzI : ¬ (0 : Int) < ks.length := by omega
     go_wp2
     refine bodyPost_ret (v := .slice none 0 0) (by simp [results, Tryd.results42, go_sem]) rfl ⟨_, rfl, OwS.nil _ _, B2.out⟩
set_option maxHeartbeats 8000000 in
theorem rbelow_c {a : Option Addr} {cap : Nat} {L : List Nd} (R : Rt L) : ∀ (k : Nat) (f : Int) (p : ByteArray) (deep : Nat) (w : World), deep + k = L.length + 1 → IsNs w a L → p.size + k * 1001 ≤ 100000 → (belF L k f p).length ≤ 1000 →
   Calls Tryd.prog 42 #[.slice a L.length cap, .int .u32 f, .string p, .int .i64 (deep : Int)] w (ColS (belF L k f p) w)
 | 0, f, p, deep, w, hd, h, hp, hl => by
   obtain rfl : deep = L.length + 1 := by omega
   exact rbelow_0 f p w h (by have := R.few; omega)
 | k + 1, f, p, deep, w, hd, h, hp, hl => by
   have h40 := R.few
   have GC := hid (get2_c a cap L f w h (by omega))
   have IH := hid (fun (x : Kd) (W : World) (hW : Below w.heap.size w W) (h1 : (ownB p x).size + k * 1001 ≤ 100000) (h2 : (belF L k x.fid (ownB p x)).length ≤ 1000) => rbelow_c (a := a) (cap := cap) R k x.fid (ownB p x) (deep + 1) W (by omega) (h.later hW) h1 h2)
   have YO := getD_ok f h
   have KS := kidsF_small R f
   have HL : Hid (((kidsF L f).flatMap (fun x => ownB p x :: belF L k x.fid (ownB p x))).length ≤ 1000) := hid hl
   have BP := hid (fun i => bel_part (k := k) (L := L) (f := f) (p := p) (i := i))
   show Calls Tryd.prog _ _ w (ColS ((kidsF L f).flatMap (fun x => ownB p x :: belF L k x.fid (ownB p x))) w)
   unfold kidsF at *
   unfold gotV at GC
   generalize (getF L f).getD Nd.no = y at *
   generalize (getF L f).isSome = yb at *
   obtain ⟨yf, yk, ym, yl, yda, ydc, yzs, yka, ykc, ks⟩ := y
   obtain ⟨G, hG⟩ : ∃ G : Kd → List ByteArray, G = fun x => belF L k x.fid (ownB p x) := ⟨_, rfl⟩
   have HG := hid hG
   simp only [Nd.val] at GC
   simp only at KS HL BP ⊢
   have HK : Hid (IsKs w yka ks) := hid YO.2.2.2.2.2
   have hk12 := KS.1
   have HN := hid KS.2
   have hdI : (deep : Int) ≤ L.length := by omega
   have hd3 : (deep : Int) < 1000 := by omega
   obtain ⟨d2, hd2⟩ : ∃ d2 : Nat, d2 = deep + 1 := ⟨_, rfl⟩
   rw [← hd2] at IH
   have hd1 : (deep : Int) + 1 = d2 := by omega
   have hd4 : IntKind.i64.wrap ((deep : Int) + 1) = (d2 : Int) := by rw [IntKind.wrap_i64]; omega
   clear hd2
   have HP := hid hp
   have hps : p.size ≤ 100000 := by omega
   clear YO KS hl h hG hd hp R
   generalize L.length = n at *
   go_enter Tryd.func42, Tryd.ntmps42
   go_upto_region 3 with (go_at_call 66; refine GC.out.mono ?_; rintro _ w1 ⟨rfl, hb1⟩; have B1 := hid hb1; clear hb1)
   have B2 := hid (B1.out.trans ((below_1 w1 (.cells #[.int .u32 yf, .int .u8 yk, .int .u16 ym, .int .u16 yl, .slice yda yzs.length ydc, .slice yka ks.length ykc] 35)).mono B1.out.size))
   have Q5 : Hid (∀ W : World, W.heap[w1.heap.size]? = some (.cells #[.int .u32 yf, .int .u8 yk, .int .u16 ym, .int .u16 yl, .slice yda yzs.length ydc, .slice yka ks.length ykc] 35 (0, 0)) → W.cell? ⟨w1.heap.size, 5, none⟩ = some (.slice yka ks.length ykc)) := hid (fun W hW => cell_of_row2 hW 5 rfl)
   obtain ⟨ob, hob⟩ : ∃ ob : Obj, ob = (.cells #[.int .u32 yf, .int .u8 yk, .int .u16 ym, .int .u16 yl, .slice yda yzs.length ydc, .slice yka ks.length ykc] 35 (0, 0)) := ⟨_, rfl⟩
   rw [← hob] at Q5
   have hN : (w1.alloc (.cells #[.int .u32 yf, .int .u8 yk, .int .u16 ym, .int .u16 yl, .slice yda yzs.length ydc, .slice yka ks.length ykc] 35)).heap[w1.heap.size]? = some ob := by rw [hob]; exact heap_alloc_new w1 _
   have OBT : Hid (∀ cur, ob ≠ .cells cur 9 (0, 0)) := hid (fun cur e => by rw [hob] at e; have := (Obj.cells.inj e).2.1; revert this; decide)
   have HNB := hid hN
   have hwz := B1.out.size
   clear hN hob
   generalize (w1.alloc (.cells #[.int .u32 yf, .int .u8 yk, .int .u16 ym, .int .u16 yl, .slice yda yzs.length ydc, .slice yka ks.length ykc] 35)) = V at *
   go_wp2
   go_loopg [9, 12] ks.length (fun gk v9 v12 wr => ∃ i : Nat, i + gk = ks.length ∧ v12 = .int .i64 i ∧ Hid (OwS wr w.heap.size v9 ((ks.take i).flatMap (fun x => ownB p x :: belF L k x.fid (ownB p x)))) ∧ Hid (Below w.heap.size w wr) ∧ Hid (wr.heap[w1.heap.size]? = some ob))
   case atStart => exact ⟨0, by omega, rfl, hid (OwS.nil _ _), B2, HNB⟩
   case round =>
     clear B2 HNB
     obtain ⟨i, hi, rfl, OE, BX, NX⟩ := hrel
     have q5 := Q5.out wr NX.out
     have hlen : ((ks.take i).flatMap (fun x => ownB p x :: belF L k x.fid (ownB p x))).length ≤ 1000 := Nat.le_trans (flat_take_le _ _ _) HL.out
     obtain ⟨va, vn, vc, rfl⟩ := own_sliceS OE.out
     by_cases hlt : i < ks.length
     · have hltI : (i : Int) < ks.length := by omega
       obtain ⟨b', off, hka, _⟩ := HK.out.2.2 (by omega)
       subst hka
       have HKW : Hid (∀ W, Below w.heap.size w W → KdAt W b' (off + i * 2) (ks.getD i Kd.no)) := hid (fun W hW => (HK.out.later hW).at hlt)
       obtain ⟨c0, c1⟩ := HKW.out wr BX.out
       have hmem := getD_mem ks Kd.no hlt
       have hns := HN.out _ hmem
       have BPi := hid (BP.out i hlt)
       have HLi : Hid (((ks.take (i + 1)).flatMap (fun x => ownB p x :: belF L k x.fid (ownB p x))).length ≤ 1000) := hid (Nat.le_trans (flat_take_le _ _ _) HL.out)
       clear hmem
       generalize ks.getD i Kd.no = x at *
       generalize (ks.take i).flatMap (fun x => ownB p x :: belF L k x.fid (ownB p x)) = E at *
       generalize hE2 : (ks.take (i + 1)).flatMap (fun x => ownB p x :: belF L k x.fid (ownB p x)) = E2 at *
       have HE2 := hid hE2
       clear hE2
       obtain ⟨nm, fid⟩ := x
       have z1 : ¬ 9223372036854775807 < p.size + 1 := by omega
       have z2 : ¬ 9223372036854775807 < p.size + 1 + nm.size := by simp only at hns; omega
       have HOW : Hid (ownB p ⟨nm, fid⟩ = p ++ ⟨#[47]⟩ ++ nm) := hid rfl
       have hosz := ownB_size p ⟨nm, fid⟩
       have IHx := hid (IH.out ⟨nm, fid⟩)
       have hIH1 : (ownB p ⟨nm, fid⟩).size + k * 1001 ≤ 100000 := by have := HP.out; simp only at hns hosz; omega
       simp only at IHx BPi c0 c1
       generalize ownB p ⟨nm, fid⟩ = ow at *
       generalize belF L k fid ow = M at *
       have hM : M.length ≤ 1000 := by have := HLi.out; rw [BPi.out, List.length_append] at this; omega
       have IH2 := hid (fun W hW => IHx.out W hW hIH1 hM)
       have C1 : Hid (∀ W, Below w.heap.size w W → W.cell? ⟨b', off + i * 2 + 1, none⟩ = some (.int .u32 fid)) := hid (fun W hW => (HKW.out W hW).2)
       have hwr := BX.out.size
       clear IHx hIH1 hosz HKW
       go_upto_region 7 with fail
       rw [← HOW.out]
       go_upto_region 8 with (at_builtin; refine wpList_append1S _ rfl _ _ rfl w.heap.size _ _ rfl (OE.out.later (below_1 _ _)) wr.heap.size ow rfl (heap_alloc_new _ _) (by omega) (by simp; omega) ?_; intro v9 w9 hown9 hgrow9; have B9 : Hid (Below w.heap.size w w9) := hid (below_grownS (BX.out.trans ((below_1 wr (.cells #[.string ow] 9)).mono BX.out.size)) (OE.out.later (below_1 _ _)) (Nat.le_refl _) (by simp; omega) hgrow9); have N9 : Hid (w9.heap[w1.heap.size]? = some ob) := hid ((hgrow9.block _ (by simp; have := lt_blkR NX.out; omega) (fun e => by obtain ⟨_, _, cur, hc⟩ := OE.out.blk e.symm; rw [NX.out] at hc; exact OBT.out _ (Option.some.inj hc))).trans ((Below.heap_alloc _ _ _ (lt_blkR NX.out)).trans NX.out)); have O9 := hid hown9; clear hown9 hgrow9)
       have hw9 := B9.out.size
       have n5 := Q5.out _ N9.out
       have n1 := C1.out _ B9.out
       obtain ⟨a9, m9, c9, rfl⟩ := own_sliceS O9.out
       have hE9 : (E ++ [ow]).length ≤ 2000 := by rw [List.length_append, List.length_singleton]; omega
       clear c0 c1 q5 OE
       go_wp2_with (first
         | (have _q := T8.out; clear _q T8; at_builtin; refine wpList_appendS _ rfl _ _ rfl w.heap.size w.heap.size _ _ _ _ rfl (O9.out.later HB8.out) rfl (ownsS_low O8.out hw9) (by omega) (by omega) (Nat.le_trans hw9 HB8.out.size) ?_; intro v10 w10 hown10 hgrow10; have B10 : Hid (Below w.heap.size w w10) := hid (below_grownS (B9.out.trans (HB8.out.mono hw9)) (O9.out.later HB8.out) (Nat.le_refl _) (Nat.le_trans hw9 HB8.out.size) hgrow10); have N8 := (HB8.out.block _ (lt_blkR N9.out)).trans N9.out; have N10 : Hid (w10.heap[w1.heap.size]? = some ob) := hid ((hgrow10.block _ (lt_blkR N8) (fun e => by obtain ⟨_, _, cur, hc⟩ := (O9.out.later HB8.out).blk e.symm; rw [N8] at hc; exact OBT.out _ (Option.some.inj hc))).trans N8); have O10 := hid hown10; clear hown10 hgrow10 N8)
         | (go_at_call 42; refine (IH2.out w9 B9.out).mono ?_; rintro _ w8 ⟨v8, rfl, hO8, hB8⟩; obtain ⟨a8, c8, rfl⟩ := hO8.shape; have O8 := hid hO8; have HB8 := hid hB8; have T8 := hid True.intro; clear hO8 hB8))
       go_roundg (gk - 1)
       case measure => omega
       case rel => exact ⟨i + 1, by omega, by go_num, hid (by rw [HE2.out, BPi.out]; exact O10.out), B10, N10⟩
     · have hge : ¬ (i : Int) < ks.length := by omega
       go_wp2
       refine bodyPost_ret (v := .slice va vn vc) (by simp [results, Tryd.results42, go_sem]) rfl ⟨_, rfl, ?_, BX.out⟩
       have e := OE.out
       rw [List.take_of_length_le (by omega)] at e
       exact e
theorem rpaths_c {a : Option Addr} {L : List Nd} (cap : Nat) {w : World} (h : IsNs w a L) (R : Rt L) : Calls Tryd.prog 21 #[.slice a L.length cap] w (ColS (belF L (L.length + 1) 1 ⟨#[]⟩) w) := by
 have h40 := R.few
 have RC := hid (rRight_c a cap L w h (by omega))
 rw [rightD_rt.2 R] at RC
 obtain ⟨P, hP⟩ : ∃ P, P = belF L (L.length + 1) 1 ⟨#[]⟩ := ⟨_, rfl⟩
 have hPl : P.length ≤ 1000 := by rw [hP, bel_len]; have := cn_few R (L.length + 1); omega
 have BC : Hid (∀ w1, Below w.heap.size w w1 → Calls Tryd.prog 42 #[.slice a L.length cap, .int .u32 1, .string ⟨#[]⟩, .int .i64 0] w1 (ColS P w1)) := hid (fun w1 hb => by
   rw [hP]
   exact rbelow_c R (L.length + 1) 1 ⟨#[]⟩ 0 w1 (by omega) (h.later hb) (by show 0 + _ ≤ _; have : (L.length + 1) * 1001 ≤ 41 * 1001 := Nat.mul_le_mul_right _ (by omega); omega) (by rw [← hP]; exact hPl))
 rw [← hP]
 clear h hP
 go_enter Tryd.func21, Tryd.ntmps21
 go_wp2_with (first
   | (go_at_call 42; refine (BC.out _ B1.out).mono ?_; rintro _ w3 ⟨v3, rfl, hO3, hB3⟩; obtain ⟨a3, c3, rfl⟩ := hO3.shape; have O3 := hid hO3; have B3 := hid hB3; clear hO3 hB3)
   | (go_at_call 39; refine RC.out.mono ?_; rintro _ w1 ⟨rfl, hb1⟩; have B1 := hid hb1; clear hb1))
 refine bodyPost_ret (v := .slice a3 P.length c3) (by simp [results, Tryd.results21, go_sem]) rfl ⟨_, rfl, ownsS_low O3.out B1.out.size, B1.out.trans (B3.out.mono B1.out.size)⟩
theorem rpaths_no {a : Option Addr} {L : List Nd} (cap : Nat) {w : World} (h : IsNs w a L) (hm : L.length ≤ 100000) (hr : rightD L = false) : Calls Tryd.prog 21 #[.slice a L.length cap] w (ColS [] w) := by
 have RC := hid (rRight_c a cap L w h hm)
 rw [hr] at RC
 go_enter Tryd.func21, Tryd.ntmps21
 go_wp2_with (go_at_call 39; refine RC.out.mono ?_; rintro _ w1 ⟨rfl, hb1⟩; have B1 := hid hb1; clear hb1)
 refine bodyPost_ret (v := .slice none 0 0) (by simp [results, Tryd.results21, go_sem]) rfl ⟨_, rfl, OwS.nil _ _, B1.out⟩
end Go.Proofs.YtkokjkaclcjnjaaDoor
