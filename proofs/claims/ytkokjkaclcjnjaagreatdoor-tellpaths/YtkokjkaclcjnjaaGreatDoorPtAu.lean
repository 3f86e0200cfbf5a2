/-
  The document's tree: remove.
-/
import Derived.Test.YtkokjkaclcjnjaaGreatDoorPtAt
import Derived.Laws.IdiomStrings
import Derived.Deep.RegionHeld3
namespace Go.Proofs.YtkokjkaclcjnjaaGreatDoor
open Go.RowKit Go.ChangeShapes Go.WideShapes Go.ChangeAt Go.Maps Go.Shelf
set_option linter.unusedVariables false
set_option linter.unusedSimpArgs false
set_option maxRecDepth 100000
def removeL (l : List Nd) (o : Rec) : Int × List Nd :=
 if lookE (getF l o.dir) o.nm ≠ 0 then (lookE (getF l o.dir) o.nm, [])
 else if o.k = 5 ∧ ((getF l (lookI (getF l o.dir) o.nm)).getD Nd.no).k = 2 then (8, [])
 else if o.k = 6 ∧ ((getF l (lookI (getF l o.dir) o.nm)).getD Nd.no).k ≠ 2 then (7, [])
 else if o.k = 6 ∧ 0 < ((getF l (lookI (getF l o.dir) o.nm)).getD Nd.no).ks.length then (9, [])
 else (0, lessL (setL l (((getF l o.dir).getD Nd.no).kids none 0 (entL ((getF l o.dir).getD Nd.no).ks o.nm 0))) ((getF l (lookI (getF l o.dir) o.nm)).getD Nd.no))
theorem lookE_er (o : Option Nd) (s : ByteArray) : lookE (o.map Nd.er) s = lookE o s := by cases o <;> rfl
theorem lookI_er (o : Option Nd) (s : ByteArray) : lookI (o.map Nd.er) s = lookI o s := by cases o <;> rfl
theorem lookE_ok {o : Option Nd} {s : ByteArray} (h : lookE o s = 0) : o = some (o.getD Nd.no) ∧ (o.getD Nd.no).k = 2 ∧ lookI o s = kidI (o.getD Nd.no).ks s ∧ lookI o s ≠ 0 := by
 cases o with
 | none => cases h
 | some x =>
   unfold lookE at h
   simp only at h
   split at h
   · rename_i q
     split at h
     · cases h
     · rename_i q2
       refine ⟨rfl, q, ?_, ?_⟩
       · simp [lookI, q]
       · simpa [lookI, q] using q2
   · cases h
set_option maxHeartbeats 8000000 in
theorem rremove_c (a : Option Addr) (cap : Nat) (l : List Nd) (o : Rec) (w : World) (h : Tr w a l) (hm : l.length ≤ 900) (ho : o.Wf) (hk : o.k = 5 ∨ o.k = 6) (h900 : ∀ x ∈ l, x.ks.length ≤ 900)
   (hlk : lookE (getF l o.dir) o.nm = 0 → ∃ x, getF l (lookI (getF l o.dir) o.nm) = some x ∧ 1 ≤ x.ln) :
   Calls Tryz.prog 47 #[.slice a l.length cap, o.opV] w (ResT w (removeL (l.map Nd.er) o)) := by
 obtain ⟨R, hR⟩ : ∃ R, R = removeL (l.map Nd.er) o := ⟨_, rfl⟩
 rw [← hR]
 unfold removeL at hR
 simp only [getF_er, lookE_er, lookI_er, getD_er2] at hR
 obtain ⟨k, fid, dir, nm, tof, nm2, md, dt, sn⟩ := o
 have b0 := below_1 w (.cells #[.int .u8 k, .int .u32 fid, .int .u32 dir, .string nm, .int .u32 tof, .string nm2, .int .u16 md, .string dt] 51)
 have h0 := heap_alloc_new w (.cells #[.int .u8 k, .int .u32 fid, .int .u32 dir, .string nm, .int .u32 tof, .string nm2, .int .u16 md, .string dt] 51)
 have TV := hid (h.later b0)
 have B0 := hid b0
 have OPL : Hid (∀ W, Below (w.alloc (.cells #[.int .u8 k, .int .u32 fid, .int .u32 dir, .string nm, .int .u32 tof, .string nm2, .int .u16 md, .string dt] 51)).heap.size (w.alloc (.cells #[.int .u8 k, .int .u32 fid, .int .u32 dir, .string nm, .int .u32 tof, .string nm2, .int .u16 md, .string dt] 51)) W → W.heap[w.heap.size]? = some (.cells #[.int .u8 k, .int .u32 fid, .int .u32 dir, .string nm, .int .u32 tof, .string nm2, .int .u16 md, .string dt] 51)) := hid (fun W hW => (hW.block _ (lt_blkR h0)).trans h0)
 have LC := hid (rlook_c a cap l dir nm _ TV.out.1 (by omega) (fun x hx => by have := h900 x hx; omega))
 have GD := hid (fun W hW => get2_c a cap l dir W (TV.out.later hW).1 (by omega))
 have GC := hid (fun W hW => get2_c a cap l (lookI (getF l dir) nm) W (TV.out.later hW).1 (by omega))
 have ZP : Hid (lookE (getF l dir) nm = 0 → NdP _ ((getF l dir).getD Nd.no) ∧ ((getF l dir).getD Nd.no).k = 2 ∧ ((getF l dir).getD Nd.no).ks.length ≤ 900 ∧ (getF l dir).isSome = true) := hid (fun e => by
   obtain ⟨e1, e2, _, _⟩ := lookE_ok e
   exact ⟨TV.out.get e1, e2, h900 _ (getF_mem e1).1, by rw [e1]; rfl⟩)
 have YP : Hid (lookE (getF l dir) nm = 0 → NdP _ ((getF l (lookI (getF l dir) nm)).getD Nd.no) ∧ 1 ≤ ((getF l (lookI (getF l dir) nm)).getD Nd.no).ln) := hid (fun e => by
   obtain ⟨x, h1, h2⟩ := hlk e
   simp only at h1
   rw [h1]
   exact ⟨TV.out.get h1, h2⟩)
 unfold gotV at GC GD
 have HNM : Hid (nm.size ≤ maxLen) := hid ho.2.2.2.2.2.2.1
 simp only [Rec.opV]
 simp only at hR hk
 generalize lookE (getF l dir) nm = le at *
 generalize lookI (getF l dir) nm = li at *
 generalize (getF l dir).isSome = zb at *
 generalize (getF l dir).getD Nd.no = z at *
 generalize (getF l li).isSome = yb at *
 generalize (getF l li).getD Nd.no = y at *
 have HR := hid hR
 have HM := hid hm
 clear hR h b0 ho hlk h900
 obtain ⟨zf, zk, zm, zl, zda, zdc, zzs, zka, zkc, zks⟩ := z
 obtain ⟨yf, yk, ym, yl, yda, ydc, yzs, yka, ykc, yks⟩ := y
 simp only [Nd.val] at GC GD
 go_enter Tryz.func47, Tryz.ntmps47
 go_upto_region 1 with fail
 generalize w.alloc (.cells #[.int .u8 k, .int .u32 fid, .int .u32 dir, .string nm, .int .u32 tof, .string nm2, .int .u16 md, .string dt] 51) = V at *
 have FB : Hid (∀ W, Below V.heap.size V W → Below w.heap.size w W) := hid (fun W h => B0.out.trans (h.mono B0.out.size))
 have o0 : V.cell? ⟨w.heap.size, 0, none⟩ = some (.int .u8 k) := cell_of_row2 h0 0 rfl
 have o1 : V.cell? ⟨w.heap.size, 1, none⟩ = some (.int .u32 fid) := cell_of_row2 h0 1 rfl
 have o2 : V.cell? ⟨w.heap.size, 2, none⟩ = some (.int .u32 dir) := cell_of_row2 h0 2 rfl
 have o3 : V.cell? ⟨w.heap.size, 3, none⟩ = some (.string nm) := cell_of_row2 h0 3 rfl
 have o4 : V.cell? ⟨w.heap.size, 4, none⟩ = some (.int .u32 tof) := cell_of_row2 h0 4 rfl
 have o5 : V.cell? ⟨w.heap.size, 5, none⟩ = some (.string nm2) := cell_of_row2 h0 5 rfl
 have o6 : V.cell? ⟨w.heap.size, 6, none⟩ = some (.int .u16 md) := cell_of_row2 h0 6 rfl
 have o7 : V.cell? ⟨w.heap.size, 7, none⟩ = some (.string dt) := cell_of_row2 h0 7 rfl
 clear h0
 by_cases qe : le = 0
 · subst qe
   obtain ⟨zp, zk2, zk9, zs⟩ := ZP.out rfl
   obtain ⟨yp, yl1⟩ := YP.out rfl
   simp only at zk2 zk9 yl1
   subst zk2
   have ZD := hid zp
   have YD := hid yp
   have HL1 := hid yl1
   have QK := hid zk9
   clear zp yp yl1 zk9 zs ZP YP
   have HR1 : Hid (R = if k = 5 ∧ yk = 2 then (8, []) else if k = 6 ∧ yk ≠ 2 then (7, []) else if k = 6 ∧ 0 < yks.length then (9, []) else (0, lessL (setL (l.map Nd.er) ((Nd.er ⟨zf, 2, zm, zl, zda, zdc, zzs, zka, zkc, zks⟩).kids none 0 (entL zks nm 0))) (Nd.er ⟨yf, yk, ym, yl, yda, ydc, yzs, yka, ykc, yks⟩))) := hid (by rw [HR.out, if_neg (by simp)]; rfl)
   clear HR
   go_upto_region 2 with (go_at_call 17; refine LC.out.mono ?_; rintro _ w1 ⟨rfl, hb1⟩; have B1 := hid hb1; clear hb1)
   clear o0 o1 o2 o3 o4 o5 o6 o7
   have oh := OPL.out w1 B1.out
   have o0 : w1.cell? ⟨w.heap.size, 0, none⟩ = some (.int .u8 k) := cell_of_row2 oh 0 rfl
   have o1 : w1.cell? ⟨w.heap.size, 1, none⟩ = some (.int .u32 fid) := cell_of_row2 oh 1 rfl
   have o2 : w1.cell? ⟨w.heap.size, 2, none⟩ = some (.int .u32 dir) := cell_of_row2 oh 2 rfl
   have o3 : w1.cell? ⟨w.heap.size, 3, none⟩ = some (.string nm) := cell_of_row2 oh 3 rfl
   have o4 : w1.cell? ⟨w.heap.size, 4, none⟩ = some (.int .u32 tof) := cell_of_row2 oh 4 rfl
   have o5 : w1.cell? ⟨w.heap.size, 5, none⟩ = some (.string nm2) := cell_of_row2 oh 5 rfl
   have o6 : w1.cell? ⟨w.heap.size, 6, none⟩ = some (.int .u16 md) := cell_of_row2 oh 6 rfl
   have o7 : w1.cell? ⟨w.heap.size, 7, none⟩ = some (.string dt) := cell_of_row2 oh 7 rfl
   clear oh
   go_upto_region 5 with (go_at_call 8; refine (GC.out _ B1.out).mono ?_; rintro _ w2 ⟨rfl, hb2⟩; have B2 := hid hb2; clear hb2)
   have C2a := hid (B1.out.trans (B2.out.mono B1.out.size))
   have bN := below_1 w2 (.cells #[.int .u32 yf, .int .u8 yk, .int .u16 ym, .int .u16 yl, .slice yda yzs.length ydc, .slice yka yks.length ykc] 37)
   have gN := heap_alloc_new w2 (.cells #[.int .u32 yf, .int .u8 yk, .int .u16 ym, .int .u16 yl, .slice yda yzs.length ydc, .slice yka yks.length ykc] 37)
   have C1 := hid (C2a.out.trans (bN.mono C2a.out.size))
   have NG : Hid (∀ W, Below (w2.alloc (.cells #[.int .u32 yf, .int .u8 yk, .int .u16 ym, .int .u16 yl, .slice yda yzs.length ydc, .slice yka yks.length ykc] 37)).heap.size (w2.alloc (.cells #[.int .u32 yf, .int .u8 yk, .int .u16 ym, .int .u16 yl, .slice yda yzs.length ydc, .slice yka yks.length ykc] 37)) W → W.heap[w2.heap.size]? = some (.cells #[.int .u32 yf, .int .u8 yk, .int .u16 ym, .int .u16 yl, .slice yda yzs.length ydc, .slice yka yks.length ykc] 37)) := hid (fun W hW => (hW.block _ (lt_blkR gN)).trans gN)
   have NL : Hid (w2.heap.size < (w2.alloc (.cells #[.int .u32 yf, .int .u8 yk, .int .u16 ym, .int .u16 yl, .slice yda yzs.length ydc, .slice yka yks.length ykc] 37)).heap.size) := hid (lt_blkR gN)
   generalize w2.alloc (.cells #[.int .u32 yf, .int .u8 yk, .int .u16 ym, .int .u16 yl, .slice yda yzs.length ydc, .slice yka yks.length ykc] 37) = V1 at *
   generalize w2.heap.size = G3 at *
   clear bN gN GC LC B2 C2a
   clear o0 o1 o2 o3 o4 o5 o6 o7
   have oh := OPL.out V1 C1.out
   have o0 : V1.cell? ⟨w.heap.size, 0, none⟩ = some (.int .u8 k) := cell_of_row2 oh 0 rfl
   have o1 : V1.cell? ⟨w.heap.size, 1, none⟩ = some (.int .u32 fid) := cell_of_row2 oh 1 rfl
   have o2 : V1.cell? ⟨w.heap.size, 2, none⟩ = some (.int .u32 dir) := cell_of_row2 oh 2 rfl
   have o3 : V1.cell? ⟨w.heap.size, 3, none⟩ = some (.string nm) := cell_of_row2 oh 3 rfl
   have o4 : V1.cell? ⟨w.heap.size, 4, none⟩ = some (.int .u32 tof) := cell_of_row2 oh 4 rfl
   have o5 : V1.cell? ⟨w.heap.size, 5, none⟩ = some (.string nm2) := cell_of_row2 oh 5 rfl
   have o6 : V1.cell? ⟨w.heap.size, 6, none⟩ = some (.int .u16 md) := cell_of_row2 oh 6 rfl
   have o7 : V1.cell? ⟨w.heap.size, 7, none⟩ = some (.string dt) := cell_of_row2 oh 7 rfl
   clear oh
   go_upto_region 6 with (go_at_call 8; refine (GD.out _ C1.out).mono ?_; rintro _ w3 ⟨rfl, hb3⟩; have B3 := hid hb3; clear hb3)
   have bN := below_1 w3 (.cells #[.int .u32 zf, .int .u8 2, .int .u16 zm, .int .u16 zl, .slice zda zzs.length zdc, .slice zka zks.length zkc] 37)
   have gN := heap_alloc_new w3 (.cells #[.int .u32 zf, .int .u8 2, .int .u16 zm, .int .u16 zl, .slice zda zzs.length zdc, .slice zka zks.length zkc] 37)
   have K2 := hid (B3.out.trans (bN.mono B3.out.size))
   have DG : Hid (∀ W, Below (w3.alloc (.cells #[.int .u32 zf, .int .u8 2, .int .u16 zm, .int .u16 zl, .slice zda zzs.length zdc, .slice zka zks.length zkc] 37)).heap.size (w3.alloc (.cells #[.int .u32 zf, .int .u8 2, .int .u16 zm, .int .u16 zl, .slice zda zzs.length zdc, .slice zka zks.length zkc] 37)) W → W.heap[w3.heap.size]? = some (.cells #[.int .u32 zf, .int .u8 2, .int .u16 zm, .int .u16 zl, .slice zda zzs.length zdc, .slice zka zks.length zkc] 37)) := hid (fun W hW => (hW.block _ (lt_blkR gN)).trans gN)
   have DL : Hid (w3.heap.size < (w3.alloc (.cells #[.int .u32 zf, .int .u8 2, .int .u16 zm, .int .u16 zl, .slice zda zzs.length zdc, .slice zka zks.length zkc] 37)).heap.size) := hid (lt_blkR gN)
   generalize w3.alloc (.cells #[.int .u32 zf, .int .u8 2, .int .u16 zm, .int .u16 zl, .slice zda zzs.length zdc, .slice zka zks.length zkc] 37) = V2 at *
   generalize w3.heap.size = G1 at *
   have C2 := hid (C1.out.trans (K2.out.mono C1.out.size))
   clear bN gN GD B3
   have nh := NG.out V2 K2.out
   have n0 : V2.cell? ⟨G3, 0, none⟩ = some (.int .u32 yf) := cell_of_row2 nh 0 rfl
   have n1 : V2.cell? ⟨G3, 1, none⟩ = some (.int .u8 yk) := cell_of_row2 nh 1 rfl
   have n2 : V2.cell? ⟨G3, 2, none⟩ = some (.int .u16 ym) := cell_of_row2 nh 2 rfl
   have n3 : V2.cell? ⟨G3, 3, none⟩ = some (.int .u16 yl) := cell_of_row2 nh 3 rfl
   have n4 : V2.cell? ⟨G3, 4, none⟩ = some (.slice yda yzs.length ydc) := cell_of_row2 nh 4 rfl
   have n5 : V2.cell? ⟨G3, 5, none⟩ = some (.slice yka yks.length ykc) := cell_of_row2 nh 5 rfl
   clear nh
   clear o0 o1 o2 o3 o4 o5 o6 o7
   have oh := OPL.out V2 C2.out
   have o0 : V2.cell? ⟨w.heap.size, 0, none⟩ = some (.int .u8 k) := cell_of_row2 oh 0 rfl
   have o1 : V2.cell? ⟨w.heap.size, 1, none⟩ = some (.int .u32 fid) := cell_of_row2 oh 1 rfl
   have o2 : V2.cell? ⟨w.heap.size, 2, none⟩ = some (.int .u32 dir) := cell_of_row2 oh 2 rfl
   have o3 : V2.cell? ⟨w.heap.size, 3, none⟩ = some (.string nm) := cell_of_row2 oh 3 rfl
   have o4 : V2.cell? ⟨w.heap.size, 4, none⟩ = some (.int .u32 tof) := cell_of_row2 oh 4 rfl
   have o5 : V2.cell? ⟨w.heap.size, 5, none⟩ = some (.string nm2) := cell_of_row2 oh 5 rfl
   have o6 : V2.cell? ⟨w.heap.size, 6, none⟩ = some (.int .u16 md) := cell_of_row2 oh 6 rfl
   have o7 : V2.cell? ⟨w.heap.size, 7, none⟩ = some (.string dt) := cell_of_row2 oh 7 rfl
   clear oh
   rcases hk with hk | hk
   · have k5 : (k == 5) = true := by rw [hk]; rfl
     have k6 : (k == 6) = false := by rw [hk]; rfl
     have HK := hid hk
     clear hk
     by_cases q8 : yk = 2
     · have q8B : (yk == 2) = true := by rw [q8]; rfl
       have RE : Hid (R = (8, [])) := hid (by rw [HR1.out]; exact if_pos ⟨HK.out, q8⟩)
       clear HR1
       go_wp2
       refine bodyPost_ret (v := .tuple #[.slice none 0 0, .int .i64 8]) (by simp [results, Tryz.results47, go_sem]) rfl (ResT.err RE.out (FB.out _ C2.out))
     · have q8B : (yk == 2) = false := beq_eq_false_iff_ne.2 q8
       have RE : Hid (R = (0, lessL (setL (l.map Nd.er) ((Nd.er ⟨zf, 2, zm, zl, zda, zdc, zzs, zka, zkc, zks⟩).kids none 0 (entL zks nm 0))) (Nd.er ⟨yf, yk, ym, yl, yda, ydc, yzs, yka, ykc, yks⟩))) := hid (by rw [HR1.out, if_neg (fun h => q8 h.2), if_neg (fun h => by have := HK.out; omega), if_neg (fun h => by have := HK.out; omega)])
       clear HR1
       go_upto_region 12 with fail
       have DH : Hid (∀ W, Below V2.heap.size V2 W → W.heap[G1]? = some (.cells #[.int .u32 zf, .int .u8 2, .int .u16 zm, .int .u16 zl, .slice zda zzs.length zdc, .slice zka zks.length zkc] 37)) := DG
       have OH : Hid (∀ W, Below V2.heap.size V2 W → W.heap[w.heap.size]? = some (.cells #[.int .u8 k, .int .u32 fid, .int .u32 dir, .string nm, .int .u32 tof, .string nm2, .int .u16 md, .string dt] 51)) := hid (fun W hW => OPL.out W (C2.out.trans (hW.mono C2.out.size)))
       have NH : Hid (∀ W, Below V2.heap.size V2 W → W.heap[G3]? = some (.cells #[.int .u32 yf, .int .u8 yk, .int .u16 ym, .int .u16 yl, .slice yda yzs.length ydc, .slice yka yks.length ykc] 37)) := hid (fun W hW => NG.out W (K2.out.trans (hW.mono K2.out.size)))
       have NP : Hid (NdP V2 ⟨yf, yk, ym, yl, yda, ydc, yzs, yka, ykc, yks⟩) := hid (YD.out.later C2.out)
       clear n0 n1 n2 n3 n4 n5 o0 o1 o2 o3 o4 o5 o6 o7
       have C3 := C2
       generalize V2 = V3 at *
       have KS : Hid (∀ W, Below V3.heap.size V3 W → W.cell? ⟨G1, 0, none⟩ = some (.int .u32 zf) ∧ W.cell? ⟨G1, 1, none⟩ = some (.int .u8 2) ∧ W.cell? ⟨G1, 2, none⟩ = some (.int .u16 zm) ∧ W.cell? ⟨G1, 3, none⟩ = some (.int .u16 zl) ∧ W.cell? ⟨G1, 4, none⟩ = some (.slice zda zzs.length zdc) ∧ W.cell? ⟨G1, 5, none⟩ = some (.slice zka zks.length zkc) ∧ W.cell? ⟨w.heap.size, 3, none⟩ = some (.string nm) ∧ W.cell? ⟨G3, 0, none⟩ = some (.int .u32 yf) ∧ W.cell? ⟨G3, 1, none⟩ = some (.int .u8 yk) ∧ W.cell? ⟨G3, 2, none⟩ = some (.int .u16 ym) ∧ W.cell? ⟨G3, 3, none⟩ = some (.int .u16 yl) ∧ W.cell? ⟨G3, 4, none⟩ = some (.slice yda yzs.length ydc) ∧ W.cell? ⟨G3, 5, none⟩ = some (.slice yka yks.length ykc)) := hid (fun W h => ⟨cell_of_row2 (DH.out _ h) 0 rfl, cell_of_row2 (DH.out _ h) 1 rfl, cell_of_row2 (DH.out _ h) 2 rfl, cell_of_row2 (DH.out _ h) 3 rfl, cell_of_row2 (DH.out _ h) 4 rfl, cell_of_row2 (DH.out _ h) 5 rfl, cell_of_row2 (OH.out _ h) 3 rfl, cell_of_row2 (NH.out _ h) 0 rfl, cell_of_row2 (NH.out _ h) 1 rfl, cell_of_row2 (NH.out _ h) 2 rfl, cell_of_row2 (NH.out _ h) 3 rfl, cell_of_row2 (NH.out _ h) 4 rfl, cell_of_row2 (NH.out _ h) 5 rfl⟩)
       have EC := hid (fun W (hW : Below V3.heap.size V3 W) => enter_t (x := ⟨zf, 2, zm, zl, zda, zdc, zzs, zka, zkc, zks⟩) (s := nm) (f := 0) (w := W) ((ZD.out.later C3.out).later hW) (by have := QK.out; simp only; omega) HNM.out ⟨by decide, by decide⟩)
       simp only [Nd.val] at EC
       have KS0 := KS.out V3 (Below.refl _ _)
       have KD : Hid (Below V3.heap.size V3 V3.drew) := hid (Below.drew (Below.refl _ _))
       obtain ⟨s0, s1, s2, s3, s4, s5, s6, s7, s8, s9, s10, s11, s12⟩ := KS0
       go_upto_region 12 with fail
       go_region_held3 (fun w' => w'.cell? ⟨G1, 0, none⟩ = some (.int .u32 zf) ∧ w'.cell? ⟨G1, 1, none⟩ = some (.int .u8 2) ∧ w'.cell? ⟨G1, 2, none⟩ = some (.int .u16 zm) ∧ w'.cell? ⟨G1, 3, none⟩ = some (.int .u16 zl) ∧ w'.cell? ⟨G1, 4, none⟩ = some (.slice zda zzs.length zdc) ∧ w'.cell? ⟨G1, 5, none⟩ = some (.slice zka zks.length zkc) ∧ w'.cell? ⟨w.heap.size, 3, none⟩ = some (.string nm) ∧ w'.cell? ⟨G3, 0, none⟩ = some (.int .u32 yf) ∧ w'.cell? ⟨G3, 1, none⟩ = some (.int .u8 yk) ∧ w'.cell? ⟨G3, 2, none⟩ = some (.int .u16 ym) ∧ w'.cell? ⟨G3, 3, none⟩ = some (.int .u16 yl) ∧ w'.cell? ⟨G3, 4, none⟩ = some (.slice yda yzs.length ydc) ∧ w'.cell? ⟨G3, 5, none⟩ = some (.slice yka yks.length ykc)) (first | (with_reducible exact KS.out _ K6.out) | (with_reducible exact KS.out _ K5.out) | (with_reducible exact KS.out _ K4.out) | (with_reducible exact KS.out _ KD.out) | go_keep) (first
         | (go_at_call 64; refine S2.out.mono ?_; intro e6 w6 h6; obtain ⟨a6, c6, rfl, ht6, hb6⟩ := h6; have K6 := hid (K5.out.trans (hb6.mono K5.out.size)); have T6 := hid ht6; clear ht6 hb6)
         | (go_at_call 63; refine (EC.out _ KD.out).mono ?_; intro e4 w4 h4; obtain ⟨ka4, kc4, rfl, hn4, hb4⟩ := h4; have K4 := hid (KD.out.trans (hb4.mono KD.out.size)); (have S1 := hid (set_t cap ((TV.out.later C3.out).later K4.out) (by have := HM.out; omega) hn4)); simp only [Nd.val, Nd.kids] at S1 ⊢; clear hb4 hn4)
         | (go_at_call 49; refine S1.out.mono ?_; intro e5 w5 h5; obtain ⟨a5, c5, rfl, ht5, hb5⟩ := h5; have K5 := hid (K4.out.trans (hb5.mono K4.out.size)); (have S2 := hid (less_t c5 ht5 (by have := setL_len l ⟨zf, 2, zm, zl, zda, zdc, zzs, ka4, kc4, (entL zks nm 0)⟩; have := HM.out; omega) (NP.out.later K5.out) HL1.out)); simp only [Nd.val] at S2; clear ht5 hb5))
       go_wp2
       refine bodyPost_ret (v := .tuple #[.slice a6 (lessL (setL l ⟨zf, 2, zm, zl, zda, zdc, zzs, ka4, kc4, (entL zks nm 0)⟩) ⟨yf, yk, ym, yl, yda, ydc, yzs, yka, ykc, yks⟩).length c6, .int .i64 0]) (by simp [results, Tryz.results47, go_sem]) rfl (ResT.ok T6.out ?_ (FB.out _ (C3.out.trans (K6.out.mono C3.out.size))))
       rw [RE.out, lessL_er, setL_er]
       rfl
   · have k5 : (k == 5) = false := by rw [hk]; rfl
     have k6 : (k == 6) = true := by rw [hk]; rfl
     have HK := hid hk
     clear hk
     by_cases q8 : yk = 2
     · have q8B : (yk == 2) = true := by rw [q8]; rfl
       have q8C : (yk != 2) = false := by rw [bne, q8B]; rfl
       by_cases q9 : 0 < yks.length
       · have q9I : (0 : Int) < yks.length := by omega
         have RE : Hid (R = (9, [])) := hid (by rw [HR1.out]; rw [if_neg (fun h => by have := HK.out; omega), if_neg (fun h => h.2 q8)]; exact if_pos ⟨HK.out, q9⟩)
         clear HR1
         go_wp2
         refine bodyPost_ret (v := .tuple #[.slice none 0 0, .int .i64 9]) (by simp [results, Tryz.results47, go_sem]) rfl (ResT.err RE.out (FB.out _ C2.out))
       · have q9I : ¬ (0 : Int) < yks.length := by omega
         have RE : Hid (R = (0, lessL (setL (l.map Nd.er) ((Nd.er ⟨zf, 2, zm, zl, zda, zdc, zzs, zka, zkc, zks⟩).kids none 0 (entL zks nm 0))) (Nd.er ⟨yf, yk, ym, yl, yda, ydc, yzs, yka, ykc, yks⟩))) := hid (by rw [HR1.out, if_neg (fun h => by have := HK.out; omega), if_neg (fun h => h.2 q8), if_neg (fun h => q9 h.2)])
         clear HR1
         go_upto_region 12 with fail
         clear q8 q8B q8C q9 q9I
         have DH : Hid (∀ W, Below V2.heap.size V2 W → W.heap[G1]? = some (.cells #[.int .u32 zf, .int .u8 2, .int .u16 zm, .int .u16 zl, .slice zda zzs.length zdc, .slice zka zks.length zkc] 37)) := DG
         have OH : Hid (∀ W, Below V2.heap.size V2 W → W.heap[w.heap.size]? = some (.cells #[.int .u8 k, .int .u32 fid, .int .u32 dir, .string nm, .int .u32 tof, .string nm2, .int .u16 md, .string dt] 51)) := hid (fun W hW => OPL.out W (C2.out.trans (hW.mono C2.out.size)))
         have NH : Hid (∀ W, Below V2.heap.size V2 W → W.heap[G3]? = some (.cells #[.int .u32 yf, .int .u8 yk, .int .u16 ym, .int .u16 yl, .slice yda yzs.length ydc, .slice yka yks.length ykc] 37)) := hid (fun W hW => NG.out W (K2.out.trans (hW.mono K2.out.size)))
         have NP : Hid (NdP V2 ⟨yf, yk, ym, yl, yda, ydc, yzs, yka, ykc, yks⟩) := hid (YD.out.later C2.out)
         clear n0 n1 n2 n3 n4 n5 o0 o1 o2 o3 o4 o5 o6 o7
         have C3 := C2
         generalize V2 = V3 at *
         have KS : Hid (∀ W, Below V3.heap.size V3 W → W.cell? ⟨G1, 0, none⟩ = some (.int .u32 zf) ∧ W.cell? ⟨G1, 1, none⟩ = some (.int .u8 2) ∧ W.cell? ⟨G1, 2, none⟩ = some (.int .u16 zm) ∧ W.cell? ⟨G1, 3, none⟩ = some (.int .u16 zl) ∧ W.cell? ⟨G1, 4, none⟩ = some (.slice zda zzs.length zdc) ∧ W.cell? ⟨G1, 5, none⟩ = some (.slice zka zks.length zkc) ∧ W.cell? ⟨w.heap.size, 3, none⟩ = some (.string nm) ∧ W.cell? ⟨G3, 0, none⟩ = some (.int .u32 yf) ∧ W.cell? ⟨G3, 1, none⟩ = some (.int .u8 yk) ∧ W.cell? ⟨G3, 2, none⟩ = some (.int .u16 ym) ∧ W.cell? ⟨G3, 3, none⟩ = some (.int .u16 yl) ∧ W.cell? ⟨G3, 4, none⟩ = some (.slice yda yzs.length ydc) ∧ W.cell? ⟨G3, 5, none⟩ = some (.slice yka yks.length ykc)) := hid (fun W h => ⟨cell_of_row2 (DH.out _ h) 0 rfl, cell_of_row2 (DH.out _ h) 1 rfl, cell_of_row2 (DH.out _ h) 2 rfl, cell_of_row2 (DH.out _ h) 3 rfl, cell_of_row2 (DH.out _ h) 4 rfl, cell_of_row2 (DH.out _ h) 5 rfl, cell_of_row2 (OH.out _ h) 3 rfl, cell_of_row2 (NH.out _ h) 0 rfl, cell_of_row2 (NH.out _ h) 1 rfl, cell_of_row2 (NH.out _ h) 2 rfl, cell_of_row2 (NH.out _ h) 3 rfl, cell_of_row2 (NH.out _ h) 4 rfl, cell_of_row2 (NH.out _ h) 5 rfl⟩)
         have EC := hid (fun W (hW : Below V3.heap.size V3 W) => enter_t (x := ⟨zf, 2, zm, zl, zda, zdc, zzs, zka, zkc, zks⟩) (s := nm) (f := 0) (w := W) ((ZD.out.later C3.out).later hW) (by have := QK.out; simp only; omega) HNM.out ⟨by decide, by decide⟩)
         simp only [Nd.val] at EC
         have KS0 := KS.out V3 (Below.refl _ _)
         have KD : Hid (Below V3.heap.size V3 V3.drew) := hid (Below.drew (Below.refl _ _))
         obtain ⟨s0, s1, s2, s3, s4, s5, s6, s7, s8, s9, s10, s11, s12⟩ := KS0
         go_upto_region 12 with fail
         go_region_held3 (fun w' => w'.cell? ⟨G1, 0, none⟩ = some (.int .u32 zf) ∧ w'.cell? ⟨G1, 1, none⟩ = some (.int .u8 2) ∧ w'.cell? ⟨G1, 2, none⟩ = some (.int .u16 zm) ∧ w'.cell? ⟨G1, 3, none⟩ = some (.int .u16 zl) ∧ w'.cell? ⟨G1, 4, none⟩ = some (.slice zda zzs.length zdc) ∧ w'.cell? ⟨G1, 5, none⟩ = some (.slice zka zks.length zkc) ∧ w'.cell? ⟨w.heap.size, 3, none⟩ = some (.string nm) ∧ w'.cell? ⟨G3, 0, none⟩ = some (.int .u32 yf) ∧ w'.cell? ⟨G3, 1, none⟩ = some (.int .u8 yk) ∧ w'.cell? ⟨G3, 2, none⟩ = some (.int .u16 ym) ∧ w'.cell? ⟨G3, 3, none⟩ = some (.int .u16 yl) ∧ w'.cell? ⟨G3, 4, none⟩ = some (.slice yda yzs.length ydc) ∧ w'.cell? ⟨G3, 5, none⟩ = some (.slice yka yks.length ykc)) (first | (with_reducible exact KS.out _ K6.out) | (with_reducible exact KS.out _ K5.out) | (with_reducible exact KS.out _ K4.out) | (with_reducible exact KS.out _ KD.out) | go_keep) (first
           | (go_at_call 64; refine S2.out.mono ?_; intro e6 w6 h6; obtain ⟨a6, c6, rfl, ht6, hb6⟩ := h6; have K6 := hid (K5.out.trans (hb6.mono K5.out.size)); have T6 := hid ht6; clear ht6 hb6)
           | (go_at_call 63; refine (EC.out _ KD.out).mono ?_; intro e4 w4 h4; obtain ⟨ka4, kc4, rfl, hn4, hb4⟩ := h4; have K4 := hid (KD.out.trans (hb4.mono KD.out.size)); (have S1 := hid (set_t cap ((TV.out.later C3.out).later K4.out) (by have := HM.out; omega) hn4)); simp only [Nd.val, Nd.kids] at S1 ⊢; clear hb4 hn4)
           | (go_at_call 49; refine S1.out.mono ?_; intro e5 w5 h5; obtain ⟨a5, c5, rfl, ht5, hb5⟩ := h5; have K5 := hid (K4.out.trans (hb5.mono K4.out.size)); (have S2 := hid (less_t c5 ht5 (by have := setL_len l ⟨zf, 2, zm, zl, zda, zdc, zzs, ka4, kc4, (entL zks nm 0)⟩; have := HM.out; omega) (NP.out.later K5.out) HL1.out)); simp only [Nd.val] at S2; clear ht5 hb5))
         go_wp2
         refine bodyPost_ret (v := .tuple #[.slice a6 (lessL (setL l ⟨zf, 2, zm, zl, zda, zdc, zzs, ka4, kc4, (entL zks nm 0)⟩) ⟨yf, yk, ym, yl, yda, ydc, yzs, yka, ykc, yks⟩).length c6, .int .i64 0]) (by simp [results, Tryz.results47, go_sem]) rfl (ResT.ok T6.out ?_ (FB.out _ (C3.out.trans (K6.out.mono C3.out.size))))
         rw [RE.out, lessL_er, setL_er]
         rfl
     · have q8B : (yk == 2) = false := beq_eq_false_iff_ne.2 q8
       have q8C : (yk != 2) = true := by rw [bne, q8B]; rfl
       have RE : Hid (R = (7, [])) := hid (by rw [HR1.out]; rw [if_neg (fun h => by have := HK.out; omega)]; exact if_pos ⟨HK.out, q8⟩)
       clear HR1
       go_wp2
       refine bodyPost_ret (v := .tuple #[.slice none 0 0, .int .i64 7]) (by simp [results, Tryz.results47, go_sem]) rfl (ResT.err RE.out (FB.out _ C2.out))
 · have qeB : (le != 0) = true := by simp [qe]
   have RE : Hid (R = (le, [])) := hid (by rw [HR.out, if_pos qe])
   clear HR ZP YP
   go_wp2_with (go_at_call 17; refine LC.out.mono ?_; rintro _ w1 ⟨rfl, hb1⟩; have B1 := hid hb1; clear hb1)
   refine bodyPost_ret (v := .tuple #[.slice none 0 0, .int .i64 le]) (by simp [results, Tryz.results47, go_sem]) rfl (ResT.err RE.out (FB.out _ B1.out))
end Go.Proofs.YtkokjkaclcjnjaaGreatDoor
