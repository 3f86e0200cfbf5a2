/-
  The document's tree: hard.
-/
import Derived.Test.YtkokjkaclcjnjaaGreatDoorPtAs
import Derived.Laws.IdiomStrings
import Derived.Deep.RegionHeld3
namespace Go.Proofs.YtkokjkaclcjnjaaGreatDoor
open Go.RowKit Go.ChangeShapes Go.WideShapes Go.ChangeAt Go.Maps Go.Shelf
set_option linter.unusedVariables false
set_option linter.unusedSimpArgs false
set_option maxRecDepth 100000
def hardL (l : List Nd) (o : Rec) : Int × List Nd :=
 if (getF l o.fid).isSome = false then (5, [])
 else if ((getF l o.fid).getD Nd.no).k = 2 then (8, [])
 else if dirE (getF l o.dir) ≠ 0 then (dirE (getF l o.dir), [])
 else if kidI (dirN (getF l o.dir)).ks o.nm ≠ 0 then (6, [])
 else if 12 ≤ (dirN (getF l o.dir)).ks.length then (4, [])
 else (0, setL (setL l ((dirN (getF l o.dir)).kids none 0 (entL (dirN (getF l o.dir)).ks o.nm o.fid))) (((getF l o.fid).getD Nd.no).lnk (((getF l o.fid).getD Nd.no).ln + 1)))
theorem getD_er2 (o : Option Nd) : (o.map Nd.er).getD Nd.no = (o.getD Nd.no).er := by cases o <;> rfl
set_option maxHeartbeats 8000000 in
theorem rhard_c (a : Option Addr) (cap : Nat) (l : List Nd) (o : Rec) (w : World) (h : Tr w a l) (hm : l.length ≤ 900) (ho : o.Wf) (hln : ∀ x ∈ l, x.ln ≤ 60000) :
   Calls Tryz.prog 46 #[.slice a l.length cap, o.opV] w (ResT w (hardL (l.map Nd.er) o)) := by
 obtain ⟨R, hR⟩ : ∃ R, R = hardL (l.map Nd.er) o := ⟨_, rfl⟩
 rw [← hR]
 unfold hardL at hR
 rw [getF_er, getF_er, dirE_er, dirN_er, Option.isSome_map, getD_er2] at hR
 obtain ⟨k, fid, dir, nm, tof, nm2, md, dt, sn⟩ := o
 have b0 := below_1 w (.cells #[.int .u8 k, .int .u32 fid, .int .u32 dir, .string nm, .int .u32 tof, .string nm2, .int .u16 md, .string dt] 51)
 have h0 := heap_alloc_new w (.cells #[.int .u8 k, .int .u32 fid, .int .u32 dir, .string nm, .int .u32 tof, .string nm2, .int .u16 md, .string dt] 51)
 have TV := hid (h.later b0)
 have B0 := hid b0
 have OPL : Hid (∀ W, Below (w.alloc (.cells #[.int .u8 k, .int .u32 fid, .int .u32 dir, .string nm, .int .u32 tof, .string nm2, .int .u16 md, .string dt] 51)).heap.size (w.alloc (.cells #[.int .u8 k, .int .u32 fid, .int .u32 dir, .string nm, .int .u32 tof, .string nm2, .int .u16 md, .string dt] 51)) W → W.heap[w.heap.size]? = some (.cells #[.int .u8 k, .int .u32 fid, .int .u32 dir, .string nm, .int .u32 tof, .string nm2, .int .u16 md, .string dt] 51)) := hid (fun W hW => (hW.block _ (lt_blkR h0)).trans h0)
 have DC := hid (fun W hW => rdir_c a cap l dir W (TV.out.later hW).1 (by omega))
 have GC := hid (get2_c a cap l fid _ TV.out.1 (by omega))
 have ZP : Hid (dirE (getF l dir) = 0 → NdP _ (dirN (getF l dir)) ∧ (dirN (getF l dir)).k = 2) := hid (fun e => ⟨TV.out.get (dirE_ok e).1, (dirE_ok e).2⟩)
 have YP : Hid ((getF l fid).isSome = true → NdP _ ((getF l fid).getD Nd.no) ∧ ((getF l fid).getD Nd.no).ln ≤ 60000) := hid (fun e => by
   cases hg : getF l fid with
   | none => rw [hg] at e; cases e
   | some x => exact ⟨TV.out.get hg, hln x (getF_mem hg).1⟩)
 unfold gotV at GC
 have HNM : Hid (nm.size ≤ maxLen) := hid ho.2.2.2.2.2.2.1
 have HFD : Hid (0 ≤ fid ∧ fid < 4294967296) := hid ho.2.1
 simp only [Rec.opV]
 simp only at hR
 generalize dirE (getF l dir) = de at *
 generalize dirN (getF l dir) = z at *
 generalize (getF l fid).isSome = bs at *
 generalize (getF l fid).getD Nd.no = y at *
 have HR := hid hR
 have HM := hid hm
 clear hR h b0 ho hln
 obtain ⟨zf, zk, zm, zl, zda, zdc, zzs, zka, zkc, zks⟩ := z
 obtain ⟨yf, yk, ym, yl, yda, ydc, yzs, yka, ykc, yks⟩ := y
 simp only [Nd.val] at DC GC
 go_enter Tryz.func46, Tryz.ntmps46
 go_upto_region 1 with fail
 generalize w.alloc (.cells #[.int .u8 k, .int .u32 fid, .int .u32 dir, .string nm, .int .u32 tof, .string nm2, .int .u16 md, .string dt] 51) = V at *
 have FB : Hid (∀ W, Below V.heap.size V W → Below w.heap.size w W) := hid (fun W h => B0.out.trans (h.mono B0.out.size))
 have o0 : V.cell? ⟨w.heap.size, 0, none⟩ = some (.int .u8 k) := cell_of_row2 h0 0 rfl
 have o1 : V.cell? ⟨w.heap.size, 1, none⟩ = some (.int .u32 fid) := cell_of_row2 h0 1 rfl
 have o2 : V.cell? ⟨w.heap.size, 2, none⟩ = some (.int .u32 dir) := cell_of_row2 h0 2 rfl
 have o3 : V.cell? ⟨w.heap.size, 3, none⟩ = some (.string nm) := cell_of_row2 h0 3 rfl
 have o4 : V.cell? ⟨w.heap.size, 4, none⟩ = some (.int .u32 tof) := cell_of_row2 h0 4 rfl
 have o5 : V.cell? ⟨w.heap.size, 5, none⟩ = some (.string nm2) := cell_of_row2 h0 5 rfl
 have o6 : V.cell? ⟨w.heap.size, 6, none⟩ = some (.int .u16 md) := cell_of_row2 h0 6 rfl
 have o7 : V.cell? ⟨w.heap.size, 7, none⟩ = some (.string dt) := cell_of_row2 h0 7 rfl
 clear h0
 cases bs with
 | false =>
   have RE : Hid (R = (5, [])) := hid (by rw [HR.out]; rfl)
   clear HR
   go_wp2_with (go_at_call 8; refine GC.out.mono ?_; rintro _ w1 ⟨rfl, hb1⟩; have B1 := hid hb1; clear hb1)
   refine bodyPost_ret (v := .tuple #[.slice none 0 0, .int .i64 5]) (by simp [results, Tryz.results46, go_sem]) rfl (ResT.err RE.out ((FB.out _ B1.out).trans ((below_1 w1 _).mono (FB.out _ B1.out).size)))
 | true =>
   have YD := hid (YP.out rfl).1
   have hyl := (YP.out rfl).2
   simp only at hyl
   have hyl0 := YD.out.1.2.2.2.1.1
   simp only at hyl0
   have hwr : IntKind.u16.wrap (yl + 1) = yl + 1 := by rw [IntKind.wrap_u16]; omega
   clear YP
   go_upto_region 2 with (go_at_call 8; refine GC.out.mono ?_; rintro _ w1 ⟨rfl, hb1⟩; have B1 := hid hb1; clear hb1)
   have bN := below_1 w1 (.cells #[.int .u32 yf, .int .u8 yk, .int .u16 ym, .int .u16 yl, .slice yda yzs.length ydc, .slice yka yks.length ykc] 37)
   have gN := heap_alloc_new w1 (.cells #[.int .u32 yf, .int .u8 yk, .int .u16 ym, .int .u16 yl, .slice yda yzs.length ydc, .slice yka yks.length ykc] 37)
   have C1 := hid (B1.out.trans (bN.mono B1.out.size))
   have NG : Hid (∀ W, Below (w1.alloc (.cells #[.int .u32 yf, .int .u8 yk, .int .u16 ym, .int .u16 yl, .slice yda yzs.length ydc, .slice yka yks.length ykc] 37)).heap.size (w1.alloc (.cells #[.int .u32 yf, .int .u8 yk, .int .u16 ym, .int .u16 yl, .slice yda yzs.length ydc, .slice yka yks.length ykc] 37)) W → W.heap[w1.heap.size]? = some (.cells #[.int .u32 yf, .int .u8 yk, .int .u16 ym, .int .u16 yl, .slice yda yzs.length ydc, .slice yka yks.length ykc] 37)) := hid (fun W hW => (hW.block _ (lt_blkR gN)).trans gN)
   have NL : Hid (w1.heap.size < (w1.alloc (.cells #[.int .u32 yf, .int .u8 yk, .int .u16 ym, .int .u16 yl, .slice yda yzs.length ydc, .slice yka yks.length ykc] 37)).heap.size) := hid (lt_blkR gN)
   generalize w1.alloc (.cells #[.int .u32 yf, .int .u8 yk, .int .u16 ym, .int .u16 yl, .slice yda yzs.length ydc, .slice yka yks.length ykc] 37) = V1 at *
   have GS1 : V.heap.size ≤ w1.heap.size := B1.out.size
   generalize w1.heap.size = G3 at *
   clear bN gN GC
   have LVG : Hid (V.heap.size ≤ G3) := hid GS1
   clear o0 o1 o2 o3 o4 o5 o6 o7
   have oh := OPL.out V1 C1.out
   have o0 : V1.cell? ⟨w.heap.size, 0, none⟩ = some (.int .u8 k) := cell_of_row2 oh 0 rfl
   have o1 : V1.cell? ⟨w.heap.size, 1, none⟩ = some (.int .u32 fid) := cell_of_row2 oh 1 rfl
   have o2 : V1.cell? ⟨w.heap.size, 2, none⟩ = some (.int .u32 dir) := cell_of_row2 oh 2 rfl
   have o3 : V1.cell? ⟨w.heap.size, 3, none⟩ = some (.string nm) := cell_of_row2 oh 3 rfl
   have o4 : V1.cell? ⟨w.heap.size, 4, none⟩ = some (.int .u32 tof) := cell_of_row2 oh 4 rfl
   have o5 : V1.cell? ⟨w.heap.size, 5, none⟩ = some (.string nm2) := cell_of_row2 oh 5 rfl
   have o6 : V1.cell? ⟨w.heap.size, 6, none⟩ = some (.int .u16 md) := cell_of_row2 oh 6 rfl
   have o7 : V1.cell? ⟨w.heap.size, 7, none⟩ = some (.string dt) := cell_of_row2 oh 7 rfl
   clear oh
   have nh := NG.out V1 (Below.refl _ _)
   have n0 : V1.cell? ⟨G3, 0, none⟩ = some (.int .u32 yf) := cell_of_row2 nh 0 rfl
   have n1 : V1.cell? ⟨G3, 1, none⟩ = some (.int .u8 yk) := cell_of_row2 nh 1 rfl
   have n2 : V1.cell? ⟨G3, 2, none⟩ = some (.int .u16 ym) := cell_of_row2 nh 2 rfl
   have n3 : V1.cell? ⟨G3, 3, none⟩ = some (.int .u16 yl) := cell_of_row2 nh 3 rfl
   have n4 : V1.cell? ⟨G3, 4, none⟩ = some (.slice yda yzs.length ydc) := cell_of_row2 nh 4 rfl
   have n5 : V1.cell? ⟨G3, 5, none⟩ = some (.slice yka yks.length ykc) := cell_of_row2 nh 5 rfl
   clear nh
   by_cases qy : yk = 2
   · have qyB : (yk == 2) = true := by rw [qy]; rfl
     have RE : Hid (R = (8, [])) := hid (by rw [HR.out, if_neg (by simp)]; exact if_pos qy)
     clear HR qy
     go_wp2
     refine bodyPost_ret (v := .tuple #[.slice none 0 0, .int .i64 8]) (by simp [results, Tryz.results46, go_sem]) rfl (ResT.err RE.out (FB.out _ C1.out))
   · have qyB : (yk == 2) = false := beq_eq_false_iff_ne.2 qy
     have HR1 := hid (HR.out.trans ((if_neg (by simp)).trans (if_neg (show ¬ (Nd.er ⟨yf, yk, ym, yl, yda, ydc, yzs, yka, ykc, yks⟩).k = 2 from qy))))
     clear HR qy
     by_cases qe : de = 0
     · subst qe
       obtain ⟨zp, zk2⟩ := ZP.out rfl
       try simp only at zk2
       subst zk2
       have ZD := hid zp
       clear zp ZP
       go_upto_region 7 with (go_at_call 62; refine (DC.out _ C1.out).mono ?_; rintro _ w2 ⟨rfl, hb2⟩; have B2 := hid hb2; clear hb2)
       have C2a := hid (C1.out.trans (B2.out.mono C1.out.size))
       have bN := below_1 w2 (.cells #[.int .u32 zf, .int .u8 2, .int .u16 zm, .int .u16 zl, .slice zda zzs.length zdc, .slice zka zks.length zkc] 37)
       have gN := heap_alloc_new w2 (.cells #[.int .u32 zf, .int .u8 2, .int .u16 zm, .int .u16 zl, .slice zda zzs.length zdc, .slice zka zks.length zkc] 37)
       have K2 := hid (B2.out.trans (bN.mono B2.out.size))
       have DG : Hid (∀ W, Below (w2.alloc (.cells #[.int .u32 zf, .int .u8 2, .int .u16 zm, .int .u16 zl, .slice zda zzs.length zdc, .slice zka zks.length zkc] 37)).heap.size (w2.alloc (.cells #[.int .u32 zf, .int .u8 2, .int .u16 zm, .int .u16 zl, .slice zda zzs.length zdc, .slice zka zks.length zkc] 37)) W → W.heap[w2.heap.size]? = some (.cells #[.int .u32 zf, .int .u8 2, .int .u16 zm, .int .u16 zl, .slice zda zzs.length zdc, .slice zka zks.length zkc] 37)) := hid (fun W hW => (hW.block _ (lt_blkR gN)).trans gN)
       have DL : Hid (w2.heap.size < (w2.alloc (.cells #[.int .u32 zf, .int .u8 2, .int .u16 zm, .int .u16 zl, .slice zda zzs.length zdc, .slice zka zks.length zkc] 37)).heap.size) := hid (lt_blkR gN)
       generalize w2.alloc (.cells #[.int .u32 zf, .int .u8 2, .int .u16 zm, .int .u16 zl, .slice zda zzs.length zdc, .slice zka zks.length zkc] 37) = V2 at *
       have GS2 : V1.heap.size ≤ w2.heap.size := B2.out.size
       generalize w2.heap.size = G1 at *
       have C2 := hid (C1.out.trans (K2.out.mono C1.out.size))
       have GSZ : Hid (V1.heap.size ≤ G1) := hid GS2
       clear bN gN DC B2 C2a n0 n1 n2 n3 n4 n5
       have dh := DG.out V2 (Below.refl _ _)
       have d0 : V2.cell? ⟨G1, 0, none⟩ = some (.int .u32 zf) := cell_of_row2 dh 0 rfl
       have d1 : V2.cell? ⟨G1, 1, none⟩ = some (.int .u8 2) := cell_of_row2 dh 1 rfl
       have d2 : V2.cell? ⟨G1, 2, none⟩ = some (.int .u16 zm) := cell_of_row2 dh 2 rfl
       have d3 : V2.cell? ⟨G1, 3, none⟩ = some (.int .u16 zl) := cell_of_row2 dh 3 rfl
       have d4 : V2.cell? ⟨G1, 4, none⟩ = some (.slice zda zzs.length zdc) := cell_of_row2 dh 4 rfl
       have d5 : V2.cell? ⟨G1, 5, none⟩ = some (.slice zka zks.length zkc) := cell_of_row2 dh 5 rfl
       clear dh
       clear o0 o1 o2 o3 o4 o5 o6 o7
       have oh := OPL.out V2 C2.out
       have o0 : V2.cell? ⟨w.heap.size, 0, none⟩ = some (.int .u8 k) := cell_of_row2 oh 0 rfl
       have o1 : V2.cell? ⟨w.heap.size, 1, none⟩ = some (.int .u32 fid) := cell_of_row2 oh 1 rfl
       have o2 : V2.cell? ⟨w.heap.size, 2, none⟩ = some (.int .u32 dir) := cell_of_row2 oh 2 rfl
       have o3 : V2.cell? ⟨w.heap.size, 3, none⟩ = some (.string nm) := cell_of_row2 oh 3 rfl
       have o4 : V2.cell? ⟨w.heap.size, 4, none⟩ = some (.int .u32 tof) := cell_of_row2 oh 4 rfl
       have o5 : V2.cell? ⟨w.heap.size, 5, none⟩ = some (.string nm2) := cell_of_row2 oh 5 rfl
       have o6 : V2.cell? ⟨w.heap.size, 6, none⟩ = some (.int .u16 md) := cell_of_row2 oh 6 rfl
       have o7 : V2.cell? ⟨w.heap.size, 7, none⟩ = some (.string dt) := cell_of_row2 oh 7 rfl
       clear oh
       have KC := hid (kid_c ⟨zf, 2, zm, zl, zda, zdc, zzs, zka, zkc, zks⟩ nm V2 (ZD.out.1.later C2.out) (by have := ZD.out.2.2.2; simp only at this ⊢; omega))
       simp only [Nd.val] at KC
       have HR2 : Hid (R = if kidI zks nm ≠ 0 then (6, []) else if 12 ≤ zks.length then (4, []) else (0, setL (setL (l.map Nd.er) ((Nd.er ⟨zf, 2, zm, zl, zda, zdc, zzs, zka, zkc, zks⟩).kids none 0 (entL zks nm fid))) ((Nd.er ⟨yf, yk, ym, yl, yda, ydc, yzs, yka, ykc, yks⟩).lnk (yl + 1)))) := hid (by rw [HR1.out, if_neg (by simp)]; rfl)
       generalize kidI zks nm = ki at *
       clear HR1
       by_cases q6 : ki = 0
       · subst q6
         have LW : Hid (∀ W, Below V2.heap.size V2 W → W.cell? ⟨G1, 5, none⟩ = some (.slice zka zks.length zkc)) := hid (fun W hW => cell_of_row2 (DG.out W hW) 5 rfl)
         by_cases q12 : 12 ≤ zks.length
         · have q12I : (12 : Int) ≤ zks.length := by omega
           have RE : Hid (R = (4, [])) := hid (by rw [HR2.out, if_neg (by simp), if_pos q12])
           clear HR2
           go_wp2_with (go_at_call 36; refine KC.out.mono ?_; rintro _ w3 ⟨rfl, hb3⟩; have B3 := hid hb3; (have e5 := LW.out _ hb3); clear hb3)
           refine bodyPost_ret (v := .tuple #[.slice none 0 0, .int .i64 4]) (by simp [results, Tryz.results46, go_sem]) rfl (ResT.err RE.out (FB.out _ (C2.out.trans (B3.out.mono C2.out.size))))
         · have q12I : ¬ (12 : Int) ≤ zks.length := by omega
           have QK : Hid (zks.length ≤ 12) := hid (by omega)
           have RE : Hid (R = (0, setL (setL (l.map Nd.er) ((Nd.er ⟨zf, 2, zm, zl, zda, zdc, zzs, zka, zkc, zks⟩).kids none 0 (entL zks nm fid))) ((Nd.er ⟨yf, yk, ym, yl, yda, ydc, yzs, yka, ykc, yks⟩).lnk (yl + 1)))) := hid (by rw [HR2.out, if_neg (by simp), if_neg q12])
           clear HR2
           go_upto_region 13 with (go_at_call 36; refine KC.out.mono ?_; rintro _ w3 ⟨rfl, hb3⟩; have B3 := hid hb3; (have e5 := LW.out _ hb3); clear hb3)
           have C3 := hid (C2.out.trans (B3.out.mono C2.out.size))
           have K3 := hid (K2.out.trans (B3.out.mono K2.out.size))
           have LGN : Hid (G3 < G1) := hid (by have := NL.out; have := DL.out; have := GSZ.out; omega)
           have gM := NG.out w3 K3.out
           have fz : ∀ i, w3.frozen? ⟨G3, i, none⟩ = false := fun i => by simp [World.frozen?, gM]
           clear d0 d1 d2 d3 d4 d5 e5 KC
           have n0 : w3.cell? ⟨G3, 0, none⟩ = some (.int .u32 yf) := cell_of_row2 gM 0 rfl
           have n1 : w3.cell? ⟨G3, 1, none⟩ = some (.int .u8 yk) := cell_of_row2 gM 1 rfl
           have n2 : w3.cell? ⟨G3, 2, none⟩ = some (.int .u16 ym) := cell_of_row2 gM 2 rfl
           have n3 : w3.cell? ⟨G3, 3, none⟩ = some (.int .u16 yl) := cell_of_row2 gM 3 rfl
           have n4 : w3.cell? ⟨G3, 4, none⟩ = some (.slice yda yzs.length ydc) := cell_of_row2 gM 4 rfl
           have n5 : w3.cell? ⟨G3, 5, none⟩ = some (.slice yka yks.length ykc) := cell_of_row2 gM 5 rfl
           go_upto_region 14 with fail
           have gN2 : (w3.setCell ⟨G3, 3, none⟩ (.int .u16 (yl + 1))).heap[G3]? = some (.cells #[.int .u32 yf, .int .u8 yk, .int .u16 ym, .int .u16 (yl + 1), .slice yda yzs.length ydc, .slice yka yks.length ykc] 37) := heap_setCell_same w3 G3 3 _ _ _ gM
           have C4 : Hid (Below V.heap.size V (w3.setCell ⟨G3, 3, none⟩ (.int .u16 (yl + 1)))) := hid (C3.out.setCell (p := ⟨G3, 3, none⟩) LVG.out _)
           have dM : (w3.setCell ⟨G3, 3, none⟩ (.int .u16 (yl + 1))).heap[G1]? = some (.cells #[.int .u32 zf, .int .u8 2, .int .u16 zm, .int .u16 zl, .slice zda zzs.length zdc, .slice zka zks.length zkc] 37) := (Below.heap_setCell _ _ _ _ (by show G1 ≠ G3; have := LGN.out; omega)).trans (DG.out w3 B3.out)
           clear gM n0 n1 n2 n3 n4 n5 o0 o1 o2 o3 o4 o5 o6 o7 fz C3 K3
           generalize w3.setCell ⟨G3, 3, none⟩ (.int .u16 (yl + 1)) = V3 at *
           have C3 := C4
           have DH : Hid (∀ W, Below V3.heap.size V3 W → W.heap[G1]? = some (.cells #[.int .u32 zf, .int .u8 2, .int .u16 zm, .int .u16 zl, .slice zda zzs.length zdc, .slice zka zks.length zkc] 37)) := hid (fun W hW => (hW.block _ (lt_blkR dM)).trans dM)
           have OH : Hid (∀ W, Below V3.heap.size V3 W → W.heap[w.heap.size]? = some (.cells #[.int .u8 k, .int .u32 fid, .int .u32 dir, .string nm, .int .u32 tof, .string nm2, .int .u16 md, .string dt] 51)) := hid (fun W hW => OPL.out W (C3.out.trans (hW.mono C3.out.size)))
           have NH : Hid (∀ W, Below V3.heap.size V3 W → W.heap[G3]? = some (.cells #[.int .u32 yf, .int .u8 yk, .int .u16 ym, .int .u16 (yl + 1), .slice yda yzs.length ydc, .slice yka yks.length ykc] 37)) := hid (fun W hW => (hW.block _ (lt_blkR gN2)).trans gN2)
           have NP : Hid (NdP V3 ⟨yf, yk, ym, yl + 1, yda, ydc, yzs, yka, ykc, yks⟩) := hid (by
             obtain ⟨⟨p1, p2, p3, p4, p5, p6⟩, p7, p8, p9⟩ := YD.out.later C3.out
             exact ⟨⟨p1, p2, p3, ⟨by show 0 ≤ yl + 1; omega, by show yl + 1 < 65536; omega⟩, p5, p6⟩, p7, p8, p9⟩)
           clear gN2 dM
           have KS : Hid (∀ W, Below V3.heap.size V3 W → W.cell? ⟨G1, 0, none⟩ = some (.int .u32 zf) ∧ W.cell? ⟨G1, 1, none⟩ = some (.int .u8 2) ∧ W.cell? ⟨G1, 2, none⟩ = some (.int .u16 zm) ∧ W.cell? ⟨G1, 3, none⟩ = some (.int .u16 zl) ∧ W.cell? ⟨G1, 4, none⟩ = some (.slice zda zzs.length zdc) ∧ W.cell? ⟨G1, 5, none⟩ = some (.slice zka zks.length zkc) ∧ W.cell? ⟨w.heap.size, 1, none⟩ = some (.int .u32 fid) ∧ W.cell? ⟨w.heap.size, 3, none⟩ = some (.string nm) ∧ W.cell? ⟨G3, 0, none⟩ = some (.int .u32 yf) ∧ W.cell? ⟨G3, 1, none⟩ = some (.int .u8 yk) ∧ W.cell? ⟨G3, 2, none⟩ = some (.int .u16 ym) ∧ W.cell? ⟨G3, 3, none⟩ = some (.int .u16 (yl + 1)) ∧ W.cell? ⟨G3, 4, none⟩ = some (.slice yda yzs.length ydc) ∧ W.cell? ⟨G3, 5, none⟩ = some (.slice yka yks.length ykc)) := hid (fun W h => ⟨cell_of_row2 (DH.out _ h) 0 rfl, cell_of_row2 (DH.out _ h) 1 rfl, cell_of_row2 (DH.out _ h) 2 rfl, cell_of_row2 (DH.out _ h) 3 rfl, cell_of_row2 (DH.out _ h) 4 rfl, cell_of_row2 (DH.out _ h) 5 rfl, cell_of_row2 (OH.out _ h) 1 rfl, cell_of_row2 (OH.out _ h) 3 rfl, cell_of_row2 (NH.out _ h) 0 rfl, cell_of_row2 (NH.out _ h) 1 rfl, cell_of_row2 (NH.out _ h) 2 rfl, cell_of_row2 (NH.out _ h) 3 rfl, cell_of_row2 (NH.out _ h) 4 rfl, cell_of_row2 (NH.out _ h) 5 rfl⟩)
           have EC := hid (fun W (hW : Below V3.heap.size V3 W) => enter_t (x := ⟨zf, 2, zm, zl, zda, zdc, zzs, zka, zkc, zks⟩) (s := nm) (f := fid) (w := W) ((ZD.out.later C3.out).later hW) (by have := QK.out; simp only; omega) HNM.out HFD.out)
           simp only [Nd.val] at EC
           have KS0 := KS.out V3 (Below.refl _ _)
           have KD : Hid (Below V3.heap.size V3 V3.drew) := hid (Below.drew (Below.refl _ _))
           obtain ⟨s0, s1, s2, s3, s4, s5, s6, s7, s8, s9, s10, s11, s12, s13⟩ := KS0
           go_upto_region 14 with fail
           go_region_held3 (fun w' => w'.cell? ⟨G1, 0, none⟩ = some (.int .u32 zf) ∧ w'.cell? ⟨G1, 1, none⟩ = some (.int .u8 2) ∧ w'.cell? ⟨G1, 2, none⟩ = some (.int .u16 zm) ∧ w'.cell? ⟨G1, 3, none⟩ = some (.int .u16 zl) ∧ w'.cell? ⟨G1, 4, none⟩ = some (.slice zda zzs.length zdc) ∧ w'.cell? ⟨G1, 5, none⟩ = some (.slice zka zks.length zkc) ∧ w'.cell? ⟨w.heap.size, 1, none⟩ = some (.int .u32 fid) ∧ w'.cell? ⟨w.heap.size, 3, none⟩ = some (.string nm) ∧ w'.cell? ⟨G3, 0, none⟩ = some (.int .u32 yf) ∧ w'.cell? ⟨G3, 1, none⟩ = some (.int .u8 yk) ∧ w'.cell? ⟨G3, 2, none⟩ = some (.int .u16 ym) ∧ w'.cell? ⟨G3, 3, none⟩ = some (.int .u16 (yl + 1)) ∧ w'.cell? ⟨G3, 4, none⟩ = some (.slice yda yzs.length ydc) ∧ w'.cell? ⟨G3, 5, none⟩ = some (.slice yka yks.length ykc)) (first | (with_reducible exact KS.out _ K6.out) | (with_reducible exact KS.out _ K5.out) | (with_reducible exact KS.out _ K4.out) | (with_reducible exact KS.out _ KD.out) | go_keep) (first
             | (go_at_call 49; refine S2.out.mono ?_; intro e6 w6 h6; obtain ⟨a6, c6, rfl, ht6, hb6⟩ := h6; have K6 := hid (K5.out.trans (hb6.mono K5.out.size)); have T6 := hid ht6; clear ht6 hb6)
             | (go_at_call 63; refine (EC.out _ KD.out).mono ?_; intro e4 w4 h4; obtain ⟨ka4, kc4, rfl, hn4, hb4⟩ := h4; have K4 := hid (KD.out.trans (hb4.mono KD.out.size)); (have S1 := hid (set_t cap ((TV.out.later C3.out).later K4.out) (by have := HM.out; omega) hn4)); simp only [Nd.val, Nd.kids] at S1 ⊢; clear hb4 hn4)
             | (go_at_call 49; refine S1.out.mono ?_; intro e5 w5 h5; obtain ⟨a5, c5, rfl, ht5, hb5⟩ := h5; have K5 := hid (K4.out.trans (hb5.mono K4.out.size)); (have S2 := hid (set_t c5 ht5 (by have := setL_len l ⟨zf, 2, zm, zl, zda, zdc, zzs, ka4, kc4, (entL zks nm fid)⟩; have := HM.out; omega) (NP.out.later K5.out))); simp only [Nd.val] at S2; clear ht5 hb5))
           go_wp2
           refine bodyPost_ret (v := .tuple #[.slice a6 (setL (setL l ⟨zf, 2, zm, zl, zda, zdc, zzs, ka4, kc4, (entL zks nm fid)⟩) ⟨yf, yk, ym, yl + 1, yda, ydc, yzs, yka, ykc, yks⟩).length c6, .int .i64 0]) (by simp [results, Tryz.results46, go_sem]) rfl (ResT.ok T6.out ?_ (FB.out _ (C3.out.trans (K6.out.mono C3.out.size))))
           rw [RE.out, setL_er, setL_er]
           rfl
       · have q6B : (ki != 0) = true := by simp [q6]
         have RE : Hid (R = (6, [])) := hid (by rw [HR2.out, if_pos q6])
         clear HR2
         go_wp2_with (go_at_call 36; refine KC.out.mono ?_; rintro _ w3 ⟨rfl, hb3⟩; have B3 := hid hb3; clear hb3)
         refine bodyPost_ret (v := .tuple #[.slice none 0 0, .int .i64 6]) (by simp [results, Tryz.results46, go_sem]) rfl (ResT.err RE.out (FB.out _ (C2.out.trans (B3.out.mono C2.out.size))))
     · have qeB : (de != 0) = true := by simp [qe]
       have RE : Hid (R = (de, [])) := hid (by rw [HR1.out, if_pos qe])
       clear HR1 ZP
       go_wp2_with (go_at_call 62; refine (DC.out _ C1.out).mono ?_; rintro _ w2 ⟨rfl, hb2⟩; have B2 := hid hb2; clear hb2)
       refine bodyPost_ret (v := .tuple #[.slice none 0 0, .int .i64 de]) (by simp [results, Tryz.results46, go_sem]) rfl (ResT.err RE.out ((FB.out _ (C1.out.trans (B2.out.mono C1.out.size))).trans ((below_1 w2 _).mono (FB.out _ (C1.out.trans (B2.out.mono C1.out.size))).size)))
end Go.Proofs.YtkokjkaclcjnjaaGreatDoor
