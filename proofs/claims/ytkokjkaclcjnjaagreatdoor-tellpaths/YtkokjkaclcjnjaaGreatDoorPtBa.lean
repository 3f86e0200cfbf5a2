/-
  The document's tree: apply.
-/
import Derived.Test.YtkokjkaclcjnjaaGreatDoorPtAv
import Derived.Test.YtkokjkaclcjnjaaGreatDoorPtAz
import Derived.Laws.IdiomStrings
import Derived.Deep.RegionHeld3
namespace Go.Proofs.YtkokjkaclcjnjaaGreatDoor
open Go.RowKit Go.ChangeShapes Go.WideShapes Go.ChangeAt Go.Maps Go.Shelf
set_option linter.unusedVariables false
set_option linter.unusedSimpArgs false
set_option maxRecDepth 100000
structure TOK (l : List Nd) : Prop where
 few : l.length ≤ 40
 kids : ∀ x ∈ l, x.ks.length ≤ 12
 data : ∀ x ∈ l, x.zs.length ≤ 64
 links : ∀ x ∈ l, x.ln ≤ 60000
 made : ∀ x ∈ l, ∀ q ∈ x.ks, ∃ y, getF l q.fid = some y ∧ 1 ≤ y.ln
def writeL (l : List Nd) (o : Rec) : Int × List Nd :=
 if (getF l o.fid).isSome = false then (5, [])
 else if o.k = 9 then (0, setL l ⟨((getF l o.fid).getD Nd.no).fid, ((getF l o.fid).getD Nd.no).k, o.md, ((getF l o.fid).getD Nd.no).ln, none, 0, ((getF l o.fid).getD Nd.no).zs, none, 0, ((getF l o.fid).getD Nd.no).ks⟩)
 else if ((getF l o.fid).getD Nd.no).k = 2 then (8, [])
 else if ((getF l o.fid).getD Nd.no).k = 3 then (3, [])
 else (0, setL l ⟨((getF l o.fid).getD Nd.no).fid, ((getF l o.fid).getD Nd.no).k, ((getF l o.fid).getD Nd.no).md, ((getF l o.fid).getD Nd.no).ln, none, 0, txB o.dt, none, 0, ((getF l o.fid).getD Nd.no).ks⟩)
def applyL (l : List Nd) (o : Rec) : Int × List Nd :=
 if o.k = 1 ∨ o.k = 2 ∨ o.k = 3 then createL l o
 else if o.k = 4 then hardL l o
 else if o.k = 5 ∨ o.k = 6 then removeL l o
 else if o.k = 7 then renameL l o
 else writeL l o
theorem kidI_mem {l : List Kd} {s : ByteArray} (h : kidI l s ≠ 0) : ∃ q ∈ l, q.nm = s ∧ kidI l s = q.fid := by
 unfold kidI at h ⊢
 cases hf : l.find? (fun k => decide (k.nm = s)) with
 | none => rw [hf] at h; exact absurd rfl h
 | some k => exact ⟨k, List.mem_of_find?_eq_some hf, by simpa using List.find?_some hf, rfl⟩
theorem TOK.look {l : List Nd} (h : TOK l) {f : Int} {s : ByteArray} (e : lookE (getF l f) s = 0) : ∃ x, getF l (lookI (getF l f) s) = some x ∧ 1 ≤ x.ln := by
 obtain ⟨e1, e2, e3, e4⟩ := lookE_ok e
 rw [e3] at e4 ⊢
 obtain ⟨q, hq, _, e5⟩ := kidI_mem e4
 rw [e5]
 exact h.made _ (getF_mem e1).1 q hq
theorem TOK.old {l : List Nd} (h : TOK l) {f : Int} {s : ByteArray} {x : Nd} (hx : getF l (kidI (dirN (getF l f)).ks s) = some x) (hz : ∀ x ∈ l, x.fid ≠ 0) : 1 ≤ x.ln := by
 by_cases e : kidI (dirN (getF l f)).ks s = 0
 · rw [e] at hx
   exact absurd (getF_mem hx).2 (hz x (getF_mem hx).1)
 · obtain ⟨q, hq, _, e5⟩ := kidI_mem e
   cases hd : getF l f with
   | none => rw [hd] at hq; cases hq
   | some d =>
     have hm : dirN (getF l f) ∈ l ∨ (dirN (getF l f)).ks = [] := by
       rw [hd]
       unfold dirN
       simp only
       split
       · exact .inl (getF_mem hd).1
       · exact .inr rfl
     rcases hm with hm | hm
     · obtain ⟨y, hy, h1⟩ := h.made _ hm q hq
       rw [e5] at hx
       rw [hy] at hx
       cases hx
       exact h1
     · rw [hm] at hq; cases hq
theorem count_kfs {l : List Nd} {f : Int} : ∀ (n : Nat), l.length ≤ n → (∀ x ∈ l, x.ks.length ≤ 12) → (kfs l).count f ≤ 12 * n := by
 intro n hn hk
 refine Nat.le_trans List.count_le_length ?_
 have : ∀ m : List Nd, (∀ x ∈ m, x.ks.length ≤ 12) → (kfs m).length ≤ 12 * m.length := by
   intro m
   induction m with
   | nil => intro _; simp [kfs]
   | cons x t ih =>
     intro h
     have h1 := ih (fun y hy => h y (List.mem_cons_of_mem _ hy))
     have h2 := h x List.mem_cons_self
     unfold kfs at h1 ⊢
     rw [List.flatMap_cons, List.length_append, List.length_map, List.length_cons]
     omega
 have h2 := this l hk
 omega
theorem kidsTo_all {l : List Kd} : ∀ {m : Nat}, kidsTo l m = true → ∀ i, i < m → kOk l i = true
 | 0, _, i, hi => by omega
 | m + 1, h, i, hi => by
   unfold kidsTo at h
   rw [Bool.and_eq_true] at h
   by_cases e : i = m
   · subst e; exact h.2
   · exact kidsTo_all h.1 i (by omega)
theorem nodeOk_kid {x : Nd} (h : nodeOk x = true) {j : Nat} (hj : j < x.ks.length) : (x.ks[j]).fid ≠ 0 := by
 unfold nodeOk at h
 rw [Bool.and_eq_true] at h
 have h2 := h.2
 cases q1 : (x.k == 1 || x.k == 3) with
 | true =>
   rw [q1] at h2
   simp only [cond_true, decide_eq_true_eq] at h2
   omega
 | false =>
   rw [q1] at h2
   cases q2 : (x.k == 2) with
   | false => rw [q2] at h2; cases h2
   | true =>
     rw [q2] at h2
     simp only [cond_false, cond_true, Bool.and_eq_true] at h2
     have := kidsTo_all h2.2 j hj
     unfold kOk at this
     rw [show x.ks.getD j Kd.no = x.ks[j] by simp [List.getD, hj]] at this
     simp only [Bool.and_eq_true, bne_iff_ne] at this
     exact this.2
theorem stored {V : World} {G C : Nat} {f k m n : Int} {dt : ByteArray} {d e : Value} (h : V.heap[G]? = some (.cells #[.int .u32 f, .int .u8 k, .int .u16 m, .int .u16 n, d, e] 37)) :
   (((V.setCell ⟨G, 4, none⟩ (.slice (some ⟨V.heap.size, 0, none⟩) dt.size C)).alloc (.cells (bytesRow dt C) 5 ((bytesRow dt C).size, (bytesRow dt C).size + 1))).drew.heap[G]? = some (.cells #[.int .u32 f, .int .u8 k, .int .u16 m, .int .u16 n, .slice (some ⟨V.heap.size, 0, none⟩) dt.size C, e] 37)) ∧
   RowAt ((V.setCell ⟨G, 4, none⟩ (.slice (some ⟨V.heap.size, 0, none⟩) dt.size C)).alloc (.cells (bytesRow dt C) 5 ((bytesRow dt C).size, (bytesRow dt C).size + 1))).drew 0 5 (some ⟨V.heap.size, 0, none⟩) ((txB dt).map u8V) ∧
   Below G V ((V.setCell ⟨G, 4, none⟩ (.slice (some ⟨V.heap.size, 0, none⟩) dt.size C)).alloc (.cells (bytesRow dt C) 5 ((bytesRow dt C).size, (bytesRow dt C).size + 1))).drew := by
 have h2 := heap_setCell_same V G 4 _ _ (.slice (some ⟨V.heap.size, 0, none⟩) dt.size C) h
 have hs : (V.setCell ⟨G, 4, none⟩ (.slice (some ⟨V.heap.size, 0, none⟩) dt.size C)).heap.size = V.heap.size := by simp
 have hl := lt_blkR h
 have h3 := heap_alloc_new (V.setCell ⟨G, 4, none⟩ (.slice (some ⟨V.heap.size, 0, none⟩) dt.size C)) (.cells (bytesRow dt C) 5 ((bytesRow dt C).size, (bytesRow dt C).size + 1))
 rw [hs] at h3
 refine ⟨?_, ?_, ?_⟩
 · exact ((below_1 _ _).block G (by rw [hs]; exact hl)).trans h2
 · exact row_text (fr := ((bytesRow dt C).size, (bytesRow dt C).size + 1)) h3 (Nat.zero_le _)
 · exact Below.drew (((Below.refl G V).setCell (p := ⟨G, 4, none⟩) (Nat.le_refl _) _).alloc (by rw [hs]; omega) _)
theorem rightD_tok {l : List Nd} (h : rightD l = true) : TOK l ∧ ∀ x ∈ l, x.fid ≠ 0 := by
 unfold rightD at h
 simp only [Bool.and_eq_true, decide_eq_true_eq] at h
 obtain ⟨h40, hd, hr, hl⟩ := h
 have hok := dTo_ok hd
 have hk : ∀ x ∈ l, x.ks.length ≤ 12 := fun x hx => nodeOk_few (hok x hx)
 have hc : ∀ x ∈ l, lkA ((kfs l).count x.fid : Int) x = true := fun x hx => by
   obtain ⟨i, hi, rfl⟩ := List.getElem_of_mem hx
   have := lkTo_at hl i hi
   unfold lkOne at this
   rw [Bool.and_eq_true, show l.getD i Nd.no = l[i] by simp [List.getD, hi]] at this
   exact this.1
 have hcount : ∀ x ∈ l, x.fid ≠ 1 → 1 ≤ x.ln ∧ x.ln = ((kfs l).count x.fid : Int) := fun x hx hne => by
   have := hc x hx
   unfold lkA at this
   have e : (x.fid == 1) = false := beq_eq_false_iff_ne.2 hne
   rw [e] at this
   simp only [Bool.false_or, Bool.not_eq_true', Bool.or_eq_false_iff, decide_eq_false_iff_not, bne_eq_false_iff_eq] at this
   obtain ⟨h1, h2, _⟩ := this
   omega
 refine ⟨⟨h40, hk, fun x hx => ?_, fun x hx => ?_, fun x hx q hq => ?_⟩, fun x hx => nodeOk_pos (hok x hx)⟩
 · have := hok x hx
   unfold nodeOk at this
   simp only [Bool.and_eq_true, Bool.not_eq_true', Bool.or_eq_false_iff, decide_eq_false_iff_not] at this
   omega
 · by_cases e : x.fid = 1
   · obtain ⟨i, hi, hi2⟩ := rtTo_ex hr
     unfold rtB at hi2
     simp only [Bool.and_eq_true, beq_iff_eq] at hi2
     have hu : upTo l l.length = true := upTo_mk (fun j hj => by
       have := dTo_at hd j hj
       unfold dOne dA at this
       simp only [Bool.and_eq_true, decide_eq_true_eq] at this
       exact this.1.2)
     obtain ⟨j, hj, rfl⟩ := List.getElem_of_mem hx
     have : i = j := up_inj hu hi hj (by rw [hi2.1, show l.getD j Nd.no = l[j] by simp [List.getD, hj], e])
     subst this
     have e3 := hi2.2.2
     rw [show l.getD i Nd.no = l[i] by simp [List.getD, hj]] at e3
     omega
   · have h1 := (hcount x hx e).2
     have h2 := count_kfs (f := x.fid) 40 h40 hk
     omega
 · obtain ⟨i, hi, rfl⟩ := List.getElem_of_mem hx
   have h1 := dTo_at hd i hi
   unfold dOne at h1
   rw [Bool.and_eq_true, dKid_have] at h1
   have h2 := h1.2
   rw [show l.getD i Nd.no = l[i] by simp [List.getD, hi]] at h2
   obtain ⟨j, hj, rfl⟩ := List.getElem_of_mem hq
   have h3 := haveTo_all h2 j hj
   rw [show (l[i]).ks.getD j Kd.no = (l[i]).ks[j] by simp [List.getD, hj]] at h3
   rw [N0_has] at h3
   cases hg : getF l ((l[i]).ks[j]).fid with
   | none =>
     exfalso
     have := h3.2
     unfold getF at hg
     rw [List.find?_eq_none] at hg
     have hno : ∀ m, hasTo l ((l[i]).ks[j]).fid m = false := fun m => by
       induction m with
       | zero => rfl
       | succ m ih =>
         simp only [hasTo, ih, Bool.false_or]
         by_cases hm : m < l.length
         · have := hg _ (getD_mem l Nd.no hm)
           simpa using this
         · have : l.getD m Nd.no = Nd.no := by simp [List.getD, hm]
           rw [this]
           refine beq_eq_false_iff_ne.2 (fun e => ?_)
           have hp := nodeOk_kid (hok _ (List.getElem_mem hi)) hj
           exact hp e.symm
     unfold hasF at this
     rw [hno] at this
     cases this
   | some y =>
     refine ⟨y, rfl, (hcount y (getF_mem hg).1 (fun e => ?_)).1⟩
     have := (getF_mem hg).2
     rw [e] at this
     exact h3.1 this.symm
set_option maxHeartbeats 8000000 in
theorem rapply_c (a : Option Addr) (cap : Nat) (l : List Nd) (o : Rec) (w : World) (h : Tr w a l) (ht : TOK l) (hz : ∀ x ∈ l, x.fid ≠ 0) (ho : o.Wf) (hd : o.dt.size ≤ 1000) (hk9 : 1 ≤ o.k ∧ o.k ≤ 9) :
   Calls Tryz.prog 24 #[.slice a l.length cap, o.opV] w (ResT w (applyL (l.map Nd.er) o)) := by
 obtain ⟨R, hR⟩ : ∃ R, R = applyL (l.map Nd.er) o := ⟨_, rfl⟩
 rw [← hR]
 unfold applyL at hR
 have hfew := ht.few
 have b0 := below_1 w (.cells o.ops.toArray 51)
 have CC := hid (fun W (hW : Below w.heap.size w W) => rcreate_c a cap l o W (h.later hW) (by omega) ho hd)
 have CH := hid (fun W (hW : Below w.heap.size w W) => rhard_c a cap l o W (h.later hW) (by omega) ho ht.links)
 have CR := hid (fun W (hW : Below w.heap.size w W) (hk : o.k = 5 ∨ o.k = 6) => rremove_c a cap l o W (h.later hW) (by omega) ho hk (fun x hx => by have := ht.kids x hx; omega) (fun e => ht.look e))
 have CN := hid (fun W (hW : Below w.heap.size w W) => rrename_c a cap l o W (h.later hW) (by omega) ho (fun x hx => by have := ht.kids x hx; omega) (fun x hx => ht.old hx hz))
 obtain ⟨k, fid, dir, nm, tof, nm2, md, dt, sn⟩ := o
 clear b0
 have b0 := below_1 w (.cells #[.int .u8 k, .int .u32 fid, .int .u32 dir, .string nm, .int .u32 tof, .string nm2, .int .u16 md, .string dt] 51)
 have h0 := heap_alloc_new w (.cells #[.int .u8 k, .int .u32 fid, .int .u32 dir, .string nm, .int .u32 tof, .string nm2, .int .u16 md, .string dt] 51)
 have TV := hid (h.later b0)
 have B0 := hid b0
 have OPL : Hid (∀ W, Below (w.alloc (.cells #[.int .u8 k, .int .u32 fid, .int .u32 dir, .string nm, .int .u32 tof, .string nm2, .int .u16 md, .string dt] 51)).heap.size (w.alloc (.cells #[.int .u8 k, .int .u32 fid, .int .u32 dir, .string nm, .int .u32 tof, .string nm2, .int .u16 md, .string dt] 51)) W → W.heap[w.heap.size]? = some (.cells #[.int .u8 k, .int .u32 fid, .int .u32 dir, .string nm, .int .u32 tof, .string nm2, .int .u16 md, .string dt] 51)) := hid (fun W hW => (hW.block _ (lt_blkR h0)).trans h0)
 have GC := hid (get2_c a cap l fid _ TV.out.1 (by omega))
 have YD := hid (TV.out.getd fid)
 unfold gotV at GC
 have HMD : Hid (0 ≤ md ∧ md < 65536) := hid ho.2.2.2.2.1
 have HDT : Hid (dt.size ≤ 1000) := hid hd
 unfold writeL at hR
 simp only [getF_er, Option.isSome_map, getD_er2, er_ks, er_k] at hR
 simp only [Rec.opV] at CC CH CR CN ⊢
 simp only at hR hk9 CR
 generalize (getF l fid).isSome = bs at *
 generalize (getF l fid).getD Nd.no = y at *
 have HR := hid hR
 have HM : Hid (l.length ≤ 40) := hid hfew
 clear hR h b0 ho hd hz ht hfew
 obtain ⟨yf, yk, ym, yl, yda, ydc, yzs, yka, ykc, yks⟩ := y
 simp only [Nd.val] at GC
 go_enter Tryz.func24, Tryz.ntmps24
 go_upto_region 1 with fail
 generalize w.alloc (.cells #[.int .u8 k, .int .u32 fid, .int .u32 dir, .string nm, .int .u32 tof, .string nm2, .int .u16 md, .string dt] 51) = V at *
 have FB : Hid (∀ W, Below V.heap.size V W → Below w.heap.size w W) := hid (fun W h => B0.out.trans (h.mono B0.out.size))
 have o0 : V.cell? ⟨w.heap.size, 0, none⟩ = some (.int .u8 k) := cell_of_row2 h0 0 rfl
 have o1 : V.cell? ⟨w.heap.size, 1, none⟩ = some (.int .u32 fid) := cell_of_row2 h0 1 rfl
 have o2 : V.cell? ⟨w.heap.size, 2, none⟩ = some (.int .u32 dir) := cell_of_row2 h0 2 rfl
 have o3 : V.cell? ⟨w.heap.size, 3, none⟩ = some (.string nm) := cell_of_row2 h0 3 rfl
 have o4 : V.cell? ⟨w.heap.size, 4, none⟩ = some (.int .u32 tof) := cell_of_row2 h0 4 rfl
 have o5 : V.cell? ⟨w.heap.size, 5, none⟩ = some (.string nm2) := cell_of_row2 h0 5 rfl
 have o6 : V.cell? ⟨w.heap.size, 6, none⟩ = some (.int .u16 md) := cell_of_row2 h0 6 rfl
 have o7 : V.cell? ⟨w.heap.size, 7, none⟩ = some (.string dt) := cell_of_row2 h0 7 rfl
 clear h0
 have hk := hk9
 clear hk9
 by_cases q1 : k = 1
 · subst q1
   have C := hid (CC.out V B0.out)
   rw [← show R = _ from HR.out.trans (if_pos (.inl rfl))] at C
   clear HR CC CH CR CN GC
   go_wp2_with (go_at_call 45; refine C.out.mono ?_; intro e9 w9 h9; obtain ⟨a9, c9, l9, rfl, ht9, he9, hb9⟩ := h9)
   refine bodyPost_ret (v := .tuple #[.slice a9 l9.length c9, .int .i64 R.1]) (by simp [results, Tryz.results24, go_sem]) rfl ⟨a9, c9, l9, rfl, ht9, he9, B0.out.trans (hb9.mono B0.out.size)⟩
 by_cases q2 : k = 2
 · subst q2
   have C := hid (CC.out V B0.out)
   rw [← show R = _ from HR.out.trans (if_pos (.inr (.inl rfl)))] at C
   clear HR CC CH CR CN GC
   go_wp2_with (go_at_call 45; refine C.out.mono ?_; intro e9 w9 h9; obtain ⟨a9, c9, l9, rfl, ht9, he9, hb9⟩ := h9)
   refine bodyPost_ret (v := .tuple #[.slice a9 l9.length c9, .int .i64 R.1]) (by simp [results, Tryz.results24, go_sem]) rfl ⟨a9, c9, l9, rfl, ht9, he9, B0.out.trans (hb9.mono B0.out.size)⟩
 by_cases q3 : k = 3
 · subst q3
   have C := hid (CC.out V B0.out)
   rw [← show R = _ from HR.out.trans (if_pos (.inr (.inr rfl)))] at C
   clear HR CC CH CR CN GC
   go_wp2_with (go_at_call 45; refine C.out.mono ?_; intro e9 w9 h9; obtain ⟨a9, c9, l9, rfl, ht9, he9, hb9⟩ := h9)
   refine bodyPost_ret (v := .tuple #[.slice a9 l9.length c9, .int .i64 R.1]) (by simp [results, Tryz.results24, go_sem]) rfl ⟨a9, c9, l9, rfl, ht9, he9, B0.out.trans (hb9.mono B0.out.size)⟩
 by_cases q4 : k = 4
 · subst q4
   have C := hid (CH.out V B0.out)
   rw [← show R = _ from HR.out.trans ((if_neg (by decide)).trans (if_pos rfl))] at C
   clear HR CC CH CR CN GC
   go_wp2_with (go_at_call 46; refine C.out.mono ?_; intro e9 w9 h9; obtain ⟨a9, c9, l9, rfl, ht9, he9, hb9⟩ := h9)
   refine bodyPost_ret (v := .tuple #[.slice a9 l9.length c9, .int .i64 R.1]) (by simp [results, Tryz.results24, go_sem]) rfl ⟨a9, c9, l9, rfl, ht9, he9, B0.out.trans (hb9.mono B0.out.size)⟩
 by_cases q5 : k = 5
 · subst q5
   have C := hid (CR.out V B0.out (.inl rfl))
   rw [← show R = _ from HR.out.trans ((if_neg (by decide)).trans ((if_neg (by decide)).trans (if_pos (.inl rfl))))] at C
   clear HR CC CH CR CN GC
   go_wp2_with (go_at_call 47; refine C.out.mono ?_; intro e9 w9 h9; obtain ⟨a9, c9, l9, rfl, ht9, he9, hb9⟩ := h9)
   refine bodyPost_ret (v := .tuple #[.slice a9 l9.length c9, .int .i64 R.1]) (by simp [results, Tryz.results24, go_sem]) rfl ⟨a9, c9, l9, rfl, ht9, he9, B0.out.trans (hb9.mono B0.out.size)⟩
 by_cases q6 : k = 6
 · subst q6
   have C := hid (CR.out V B0.out (.inr rfl))
   rw [← show R = _ from HR.out.trans ((if_neg (by decide)).trans ((if_neg (by decide)).trans (if_pos (.inr rfl))))] at C
   clear HR CC CH CR CN GC
   go_wp2_with (go_at_call 47; refine C.out.mono ?_; intro e9 w9 h9; obtain ⟨a9, c9, l9, rfl, ht9, he9, hb9⟩ := h9)
   refine bodyPost_ret (v := .tuple #[.slice a9 l9.length c9, .int .i64 R.1]) (by simp [results, Tryz.results24, go_sem]) rfl ⟨a9, c9, l9, rfl, ht9, he9, B0.out.trans (hb9.mono B0.out.size)⟩
 by_cases q7 : k = 7
 · subst q7
   have C := hid (CN.out V B0.out)
   rw [← show R = _ from HR.out.trans ((if_neg (by decide)).trans ((if_neg (by decide)).trans ((if_neg (by decide)).trans (if_pos rfl))))] at C
   clear HR CC CH CR CN GC
   go_wp2_with (go_at_call 48; refine C.out.mono ?_; intro e9 w9 h9; obtain ⟨a9, c9, l9, rfl, ht9, he9, hb9⟩ := h9)
   refine bodyPost_ret (v := .tuple #[.slice a9 l9.length c9, .int .i64 R.1]) (by simp [results, Tryz.results24, go_sem]) rfl ⟨a9, c9, l9, rfl, ht9, he9, B0.out.trans (hb9.mono B0.out.size)⟩
 have HR1 : Hid (R = _) := hid (HR.out.trans ((if_neg (by omega)).trans ((if_neg q4).trans ((if_neg (by omega)).trans (if_neg q7)))))
 have k1 : (k == 1) = false := beq_eq_false_iff_ne.2 q1
 have k2 : (k == 2) = false := beq_eq_false_iff_ne.2 q2
 have k3 : (k == 3) = false := beq_eq_false_iff_ne.2 q3
 have k4 : (k == 4) = false := beq_eq_false_iff_ne.2 q4
 have k5 : (k == 5) = false := beq_eq_false_iff_ne.2 q5
 have k6 : (k == 6) = false := beq_eq_false_iff_ne.2 q6
 have k7 : (k == 7) = false := beq_eq_false_iff_ne.2 q7
 clear HR CC CH CR CN q1 q2 q3 q4 q5 q6 q7
 cases bs with
 | false =>
   have RE : Hid (R = (5, [])) := hid (HR1.out.trans (if_pos rfl))
   clear HR1
   go_wp2_with (go_at_call 8; refine GC.out.mono ?_; rintro _ w1 ⟨rfl, hb1⟩; have B1 := hid hb1; clear hb1)
   refine bodyPost_ret (v := .tuple #[.slice none 0 0, .int .i64 5]) (by simp [results, Tryz.results24, go_sem]) rfl (ResT.err RE.out ((FB.out _ B1.out).trans ((below_1 w1 _).mono (FB.out _ B1.out).size)))
 | true =>
   have HR2 : Hid (R = _) := hid (HR1.out.trans (if_neg (by simp)))
   clear HR1
   go_upto_region 14 with (go_at_call 8; refine GC.out.mono ?_; rintro _ w1 ⟨rfl, hb1⟩; have B1 := hid hb1; clear hb1)
   have bN := below_1 w1 (.cells #[.int .u32 yf, .int .u8 yk, .int .u16 ym, .int .u16 yl, .slice yda yzs.length ydc, .slice yka yks.length ykc] 37)
   have gN := heap_alloc_new w1 (.cells #[.int .u32 yf, .int .u8 yk, .int .u16 ym, .int .u16 yl, .slice yda yzs.length ydc, .slice yka yks.length ykc] 37)
   have C1 := hid (B1.out.trans (bN.mono B1.out.size))
   have NG : Hid (∀ W, Below (w1.alloc (.cells #[.int .u32 yf, .int .u8 yk, .int .u16 ym, .int .u16 yl, .slice yda yzs.length ydc, .slice yka yks.length ykc] 37)).heap.size (w1.alloc (.cells #[.int .u32 yf, .int .u8 yk, .int .u16 ym, .int .u16 yl, .slice yda yzs.length ydc, .slice yka yks.length ykc] 37)) W → W.heap[w1.heap.size]? = some (.cells #[.int .u32 yf, .int .u8 yk, .int .u16 ym, .int .u16 yl, .slice yda yzs.length ydc, .slice yka yks.length ykc] 37)) := hid (fun W hW => (hW.block _ (lt_blkR gN)).trans gN)
   have NL : Hid (w1.heap.size < (w1.alloc (.cells #[.int .u32 yf, .int .u8 yk, .int .u16 ym, .int .u16 yl, .slice yda yzs.length ydc, .slice yka yks.length ykc] 37)).heap.size) := hid (lt_blkR gN)
   generalize w1.alloc (.cells #[.int .u32 yf, .int .u8 yk, .int .u16 ym, .int .u16 yl, .slice yda yzs.length ydc, .slice yka yks.length ykc] 37) = V1 at *
   have LV3 : V.heap.size ≤ w1.heap.size := B1.out.size
   generalize w1.heap.size = G3 at *
   clear bN gN GC
   clear o0 o1 o2 o3 o4 o5 o6 o7
   have oh := OPL.out V1 C1.out
   have o0 : V1.cell? ⟨w.heap.size, 0, none⟩ = some (.int .u8 k) := cell_of_row2 oh 0 rfl
   have o1 : V1.cell? ⟨w.heap.size, 1, none⟩ = some (.int .u32 fid) := cell_of_row2 oh 1 rfl
   have o2 : V1.cell? ⟨w.heap.size, 2, none⟩ = some (.int .u32 dir) := cell_of_row2 oh 2 rfl
   have o3 : V1.cell? ⟨w.heap.size, 3, none⟩ = some (.string nm) := cell_of_row2 oh 3 rfl
   have o4 : V1.cell? ⟨w.heap.size, 4, none⟩ = some (.int .u32 tof) := cell_of_row2 oh 4 rfl
   have o5 : V1.cell? ⟨w.heap.size, 5, none⟩ = some (.string nm2) := cell_of_row2 oh 5 rfl
   have o6 : V1.cell? ⟨w.heap.size, 6, none⟩ = some (.int .u16 md) := cell_of_row2 oh 6 rfl
   have o7 : V1.cell? ⟨w.heap.size, 7, none⟩ = some (.string dt) := cell_of_row2 oh 7 rfl
   clear oh
   have nh := NG.out V1 (Below.refl _ _)
   have n0 : V1.cell? ⟨G3, 0, none⟩ = some (.int .u32 yf) := cell_of_row2 nh 0 rfl
   have n1 : V1.cell? ⟨G3, 1, none⟩ = some (.int .u8 yk) := cell_of_row2 nh 1 rfl
   have n2 : V1.cell? ⟨G3, 2, none⟩ = some (.int .u16 ym) := cell_of_row2 nh 2 rfl
   have n3 : V1.cell? ⟨G3, 3, none⟩ = some (.int .u16 yl) := cell_of_row2 nh 3 rfl
   have n4 : V1.cell? ⟨G3, 4, none⟩ = some (.slice yda yzs.length ydc) := cell_of_row2 nh 4 rfl
   have n5 : V1.cell? ⟨G3, 5, none⟩ = some (.slice yka yks.length ykc) := cell_of_row2 nh 5 rfl
   have fz : ∀ i, V1.frozen? ⟨G3, i, none⟩ = false := fun i => by simp [World.frozen?, nh]
   have NH := hid nh
   clear nh
   by_cases q9 : k = 9
   · have q9B : (k == 9) = true := by rw [q9]; rfl
     have RE : Hid (R = _) := hid (HR2.out.trans (if_pos q9))
     clear HR2 q9
     go_upto_region 18 with fail
     have g2 := heap_setCell_same V1 G3 2 _ _ (.int .u16 md) NH.out
     have C2 := hid (C1.out.setCell (p := ⟨G3, 2, none⟩) LV3 (.int .u16 md))
     clear n0 n1 n2 n3 n4 n5 o0 o1 o2 o3 o4 o5 o6 o7 fz
     generalize V1.setCell ⟨G3, 2, none⟩ (.int .u16 md) = V2 at *
     have n0 : V2.cell? ⟨G3, 0, none⟩ = some (.int .u32 yf) := cell_of_row2 g2 0 rfl
     have n1 : V2.cell? ⟨G3, 1, none⟩ = some (.int .u8 yk) := cell_of_row2 g2 1 rfl
     have n2 : V2.cell? ⟨G3, 2, none⟩ = some (.int .u16 md) := cell_of_row2 g2 2 rfl
     have n3 : V2.cell? ⟨G3, 3, none⟩ = some (.int .u16 yl) := cell_of_row2 g2 3 rfl
     have n4 : V2.cell? ⟨G3, 4, none⟩ = some (.slice yda yzs.length ydc) := cell_of_row2 g2 4 rfl
     have n5 : V2.cell? ⟨G3, 5, none⟩ = some (.slice yka yks.length ykc) := cell_of_row2 g2 5 rfl
     have SC := hid (set_t cap (x := ⟨yf, yk, md, yl, yda, ydc, yzs, yka, ykc, yks⟩) (TV.out.later C2.out) (by have := HM.out; omega) (by
       obtain ⟨⟨p1, p2, p3, p4, p5, p6⟩, p7⟩ := YD.out.later C2.out
       exact ⟨⟨p1, p2, HMD.out, p4, p5, p6⟩, p7⟩))
     simp only [Nd.val] at SC
     clear g2
     go_wp2_with (go_at_call 49; refine SC.out.mono ?_; intro e9 w9 h9; obtain ⟨a9, c9, rfl, ht9, hb9⟩ := h9)
     refine bodyPost_ret (v := .tuple #[.slice a9 (setL l ⟨yf, yk, md, yl, yda, ydc, yzs, yka, ykc, yks⟩).length c9, .int .i64 0]) (by simp [results, Tryz.results24, go_sem]) rfl (ResT.ok ht9 ?_ (FB.out _ (C2.out.trans (hb9.mono C2.out.size))))
     rw [RE.out, setL_er]
     rfl
   · have q9B : (k == 9) = false := beq_eq_false_iff_ne.2 q9
     have HR3 : Hid (R = _) := hid (HR2.out.trans (if_neg q9))
     clear HR2 q9
     by_cases qy2 : yk = 2
     · have y2B : (yk == 2) = true := by rw [qy2]; rfl
       have RE : Hid (R = (8, [])) := hid (HR3.out.trans (if_pos qy2))
       clear HR3 qy2
       go_wp2
       refine bodyPost_ret (v := .tuple #[.slice none 0 0, .int .i64 8]) (by simp [results, Tryz.results24, go_sem]) rfl (ResT.err RE.out (FB.out _ C1.out))
     · have y2B : (yk == 2) = false := beq_eq_false_iff_ne.2 qy2
       have HR4 : Hid (R = _) := hid (HR3.out.trans (if_neg qy2))
       clear HR3 qy2
       by_cases qy3 : yk = 3
       · have y3B : (yk == 3) = true := by rw [qy3]; rfl
         have RE : Hid (R = (3, [])) := hid (HR4.out.trans (if_pos qy3))
         clear HR4 qy3
         go_wp2
         refine bodyPost_ret (v := .tuple #[.slice none 0 0, .int .i64 3]) (by simp [results, Tryz.results24, go_sem]) rfl (ResT.err RE.out (FB.out _ C1.out))
       · have y3B : (yk == 3) = false := beq_eq_false_iff_ne.2 qy3
         have RE : Hid (R = _) := hid (HR4.out.trans (if_neg qy3))
         clear HR4 qy3
         have kc := fun (W : World) => run_bytes_of_string (P := Tryz.prog) W 9 34 5 dt Tryz.underlying9 Tryz.underlying34 Tryz.underlying5
         have hgv : G3 < V1.heap.size := lt_blkR NH.out
         have hgne : G3 ≠ V1.heap.size := by omega
         go_upto_region 24 with fail
         obtain ⟨g2, r2, b2⟩ := stored (C := grownCap V1 dt.size 0 5) (dt := dt) NH.out
         have C2 := hid (C1.out.trans (b2.mono LV3))
         have RW := hid r2
         clear n0 n1 n2 n3 n4 n5 o0 o1 o2 o3 o4 o5 o6 o7 fz b2 r2 kc hgv hgne
         have NNL : Hid (some (⟨V1.heap.size, 0, none⟩ : Addr) = none → grownCap V1 dt.size 0 5 = 0) := hid (fun e => by cases e)
         generalize (some (⟨V1.heap.size, 0, none⟩ : Addr)) = nda at *
         generalize grownCap V1 dt.size 0 5 = ndc at *
         generalize ((V1.setCell ⟨G3, 4, none⟩ (.slice nda dt.size ndc)).alloc (.cells (bytesRow dt ndc) 5 ((bytesRow dt ndc).size, (bytesRow dt ndc).size + 1))).drew = V2 at *
         have n0 : V2.cell? ⟨G3, 0, none⟩ = some (.int .u32 yf) := cell_of_row2 g2 0 rfl
         have n1 : V2.cell? ⟨G3, 1, none⟩ = some (.int .u8 yk) := cell_of_row2 g2 1 rfl
         have n2 : V2.cell? ⟨G3, 2, none⟩ = some (.int .u16 ym) := cell_of_row2 g2 2 rfl
         have n3 : V2.cell? ⟨G3, 3, none⟩ = some (.int .u16 yl) := cell_of_row2 g2 3 rfl
         have n4 : V2.cell? ⟨G3, 4, none⟩ = some (.slice nda dt.size ndc) := cell_of_row2 g2 4 rfl
         have n5 : V2.cell? ⟨G3, 5, none⟩ = some (.slice yka yks.length ykc) := cell_of_row2 g2 5 rfl
         have SC := hid (set_t cap (x := ⟨yf, yk, ym, yl, nda, ndc, txB dt, yka, ykc, yks⟩) (TV.out.later C2.out) (by have := HM.out; omega) (by
           obtain ⟨⟨p1, p2, p3, p4, p5, p6⟩, p7, p8, p9⟩ := YD.out.later C2.out
           exact ⟨⟨p1, p2, p3, p4, rowAt_isB RW.out (txB_in dt) (by rw [txB_len]; exact HDT.out), p6⟩, ⟨NNL.out, p7.2⟩, by show (txB dt).length ≤ 1000; rw [txB_len]; exact HDT.out, p9⟩))
         simp only [Nd.val] at SC
         rw [txB_len] at SC
         clear g2
         go_wp2_with (go_at_call 49; refine SC.out.mono ?_; intro e9 w9 h9; obtain ⟨a9, c9, rfl, ht9, hb9⟩ := h9)
         refine bodyPost_ret (v := .tuple #[.slice a9 (setL l ⟨yf, yk, ym, yl, nda, ndc, txB dt, yka, ykc, yks⟩).length c9, .int .i64 0]) (by simp [results, Tryz.results24, go_sem]) rfl (ResT.ok ht9 ?_ (FB.out _ (C2.out.trans (hb9.mono C2.out.size))))
         rw [RE.out, setL_er]
         rfl
end Go.Proofs.YtkokjkaclcjnjaaGreatDoor
