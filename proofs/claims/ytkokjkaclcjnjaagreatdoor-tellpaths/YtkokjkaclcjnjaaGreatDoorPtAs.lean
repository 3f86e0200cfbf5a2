/-
  The document's tree: create.
-/
import Derived.Test.YtkokjkaclcjnjaaGreatDoorPtAr
import Derived.Laws.IdiomStrings
import Derived.Deep.RegionHeld3
namespace Go.Proofs.YtkokjkaclcjnjaaGreatDoor
open Go.RowKit Go.ChangeShapes Go.WideShapes Go.ChangeAt Go.Maps Go.Shelf
set_option linter.unusedVariables false
set_option linter.unusedSimpArgs false
set_option maxRecDepth 100000
def ResT (w : World) (r : Int × List Nd) (e : Ending) (w' : World) : Prop := ∃ a' c' l', e = .returned (.tuple #[.slice a' l'.length c', .int .i64 r.1]) ∧ Tr w' a' l' ∧ l'.map Nd.er = r.2 ∧ Below w.heap.size w w'
theorem ResT.err {w w' : World} {r : Int × List Nd} {c : Int} (h : r = (c, [])) (hb : Below w.heap.size w w') : ResT w r (.returned (.tuple #[.slice none 0 0, .int .i64 c])) w' := ⟨none, 0, [], by rw [h]; rfl, Tr.nil _, by rw [h]; rfl, hb⟩
theorem ResT.ok {w w' : World} {r : Int × List Nd} {L : List Nd} {a : Option Addr} {c : Nat} (ht : Tr w' a L) (h : r = (0, L.map Nd.er)) (hb : Below w.heap.size w w') : ResT w r (.returned (.tuple #[.slice a L.length c, .int .i64 0])) w' := ⟨a, c, L, by rw [h], ht, by rw [h], hb⟩
def txB (s : ByteArray) : List Int := s.data.toList.map fun b => (b.toNat : Int)
theorem txB_len (s : ByteArray) : (txB s).length = s.size := by unfold txB; simp
theorem txB_in (s : ByteArray) : InB (txB s) := fun i => by
 by_cases h : i < (txB s).length
 · rw [List.getD, List.getElem?_eq_getElem h]
   obtain ⟨b, _, e⟩ := List.mem_map.1 (List.getElem_mem h)
   have := b.toNat_lt
   simp only [Option.getD_some]
   rw [← e]
   omega
 · rw [List.getD, List.getElem?_eq_none (by omega)]
   simp
theorem row_text {W : World} {s : ByteArray} {cap g base : Nat} {fr : Nat × Nat} (h : W.heap[g]? = some (.cells (bytesRow s cap) 5 fr)) (hb : base ≤ g) : RowAt W base 5 (some ⟨g, 0, none⟩) ((txB s).map u8V) := by
 refine .inr ⟨g, _, fr, rfl, hb, h, fun i u hu => ?_⟩
 have hi : i < s.data.size := by
   have := (List.getElem?_eq_some_iff.1 hu).1
   simpa [txB] using this
 rw [bytesRow_at s cap i hi, ← hu]
 simp only [txB, List.map_map, List.getElem?_map, Array.getElem?_toList, Array.getElem?_eq_getElem hi, Option.map_some]
 rfl
theorem rowAt_isB {w : World} {base : Nat} {a : Option Addr} {zs : List Int} (h : RowAt w base 5 a (zs.map u8V)) (hi : InB zs) (hl : zs.length ≤ 1000) : IsB w a zs.length zs := by
 refine ⟨rfl, by unfold maxLen; omega, fun hp => ?_, hi⟩
 rcases h with hd | ⟨g, cs, fr, e1, e2, e3, e4⟩
 · have := congrArg List.length hd
   simp at this
   rw [this] at hp
   exact absurd hp (by simp)
 · refine ⟨g, 0, e1, fun i hi => ?_⟩
   rw [cell_of_row w g _ _ _ fr e3]
   refine e4 (0 + i) _ ?_
   simp [List.getElem?_map, List.getD, hi, u8V]
theorem made_link {V : World} {G C : Nat} {fid md : Int} {dt : ByteArray} (h : V.heap[G]? = some (.cells #[.int .u32 fid, .int .u8 1, .int .u16 md, .int .u16 1, .slice none 0 0, .slice none 0 0] 37)) :
   ((((V.setCell ⟨G, 1, none⟩ (.int .u8 3)).setCell ⟨G, 4, none⟩ (.slice (some ⟨V.heap.size, 0, none⟩) dt.size C)).alloc (.cells (bytesRow dt C) 5 ((bytesRow dt C).size, (bytesRow dt C).size + 1))).drew.drew.heap[G]? = some (.cells #[.int .u32 fid, .int .u8 3, .int .u16 md, .int .u16 1, .slice (some ⟨V.heap.size, 0, none⟩) dt.size C, .slice none 0 0] 37)) ∧
   RowAt (((V.setCell ⟨G, 1, none⟩ (.int .u8 3)).setCell ⟨G, 4, none⟩ (.slice (some ⟨V.heap.size, 0, none⟩) dt.size C)).alloc (.cells (bytesRow dt C) 5 ((bytesRow dt C).size, (bytesRow dt C).size + 1))).drew.drew 0 5 (some ⟨V.heap.size, 0, none⟩) ((txB dt).map u8V) ∧
   Below G V (((V.setCell ⟨G, 1, none⟩ (.int .u8 3)).setCell ⟨G, 4, none⟩ (.slice (some ⟨V.heap.size, 0, none⟩) dt.size C)).alloc (.cells (bytesRow dt C) 5 ((bytesRow dt C).size, (bytesRow dt C).size + 1))).drew.drew := by
 have h1 := heap_setCell_same V G 1 _ _ (.int .u8 3) h
 have h2 := heap_setCell_same _ G 4 _ _ (.slice (some ⟨V.heap.size, 0, none⟩) dt.size C) h1
 have hs : ((V.setCell ⟨G, 1, none⟩ (.int .u8 3)).setCell ⟨G, 4, none⟩ (.slice (some ⟨V.heap.size, 0, none⟩) dt.size C)).heap.size = V.heap.size := by simp
 have hl := lt_blkR h
 have h3 := heap_alloc_new ((V.setCell ⟨G, 1, none⟩ (.int .u8 3)).setCell ⟨G, 4, none⟩ (.slice (some ⟨V.heap.size, 0, none⟩) dt.size C)) (.cells (bytesRow dt C) 5 ((bytesRow dt C).size, (bytesRow dt C).size + 1))
 rw [hs] at h3
 refine ⟨?_, ?_, ?_⟩
 · exact ((below_1 _ _).block G (by rw [hs]; exact hl)).trans h2
 · exact row_text (fr := ((bytesRow dt C).size, (bytesRow dt C).size + 1)) h3 (Nat.zero_le _)
 · exact Below.drew (Below.drew ((((Below.refl G V).setCell (p := ⟨G, 1, none⟩) (Nat.le_refl _) _).setCell (p := ⟨G, 4, none⟩) (Nat.le_refl _) _).alloc (by rw [hs]; omega) _))
theorem ndp_new {V : World} {fid kk md : Int} {da : Option Addr} {dc : Nat} {zs : List Int} (h1 : 0 ≤ fid ∧ fid < 4294967296) (h2 : 0 ≤ kk ∧ kk < 256) (h3 : 0 ≤ md ∧ md < 65536) (h4 : IsB V da zs.length zs) (h5 : da = none → dc = 0) (h6 : zs.length ≤ 1000) : NdP V ⟨fid, kk, md, 1, da, dc, zs, none, 0, []⟩ :=
 ⟨⟨h1, h2, h3, ⟨by show (0 : Int) ≤ 1; decide, by show (1 : Int) < 65536; decide⟩, h4, (no_ok V).2.2.2.2.2⟩, ⟨h5, fun _ => rfl⟩, h6, Nat.zero_le _⟩
theorem dirE_er (o : Option Nd) : dirE (o.map Nd.er) = dirE o := by cases o <;> rfl
theorem dirN_er (o : Option Nd) : dirN (o.map Nd.er) = (dirN o).er := by
 cases o with
 | none => rfl
 | some x =>
   show (if x.k = 2 then x.er else Nd.no) = (if x.k = 2 then x else Nd.no).er
   split <;> rfl
theorem dirE_ok {o : Option Nd} (h : dirE o = 0) : o = some (dirN o) ∧ (dirN o).k = 2 := by
 cases o with
 | none => cases h
 | some x =>
   unfold dirE at h
   simp only at h
   split at h
   · rename_i q; simp [dirN, q]
   · cases h
def newN (o : Rec) : Nd := ⟨o.fid, if o.k = 2 then 2 else if o.k = 3 then 3 else 1, o.md, 1, none, 0, if o.k = 3 then txB o.dt else [], none, 0, []⟩
def createL (l : List Nd) (o : Rec) : Int × List Nd :=
 if dirE (getF l o.dir) ≠ 0 then (dirE (getF l o.dir), [])
 else if kidI (dirN (getF l o.dir)).ks o.nm ≠ 0 ∨ (getF l o.fid).isSome = true then (6, [])
 else if 40 ≤ l.length ∨ 12 ≤ (dirN (getF l o.dir)).ks.length then (4, [])
 else (0, setL (setL l ((dirN (getF l o.dir)).kids none 0 (entL (dirN (getF l o.dir)).ks o.nm o.fid))) (newN o))
set_option maxHeartbeats 8000000 in
theorem rcreate_c (a : Option Addr) (cap : Nat) (l : List Nd) (o : Rec) (w : World) (h : Tr w a l) (hm : l.length ≤ 900) (ho : o.Wf) (hd : o.dt.size ≤ 1000) :
   Calls Tryz.prog 45 #[.slice a l.length cap, o.opV] w (ResT w (createL (l.map Nd.er) o)) := by
 obtain ⟨R, hR⟩ : ∃ R, R = createL (l.map Nd.er) o := ⟨_, rfl⟩
 rw [← hR]
 unfold createL at hR
 rw [getF_er, getF_er, dirE_er, dirN_er, List.length_map, Option.isSome_map] at hR
 obtain ⟨k, fid, dir, nm, tof, nm2, md, dt, sn⟩ := o
 have b0 := below_1 w (.cells #[.int .u8 k, .int .u32 fid, .int .u32 dir, .string nm, .int .u32 tof, .string nm2, .int .u16 md, .string dt] 51)
 have h0 := heap_alloc_new w (.cells #[.int .u8 k, .int .u32 fid, .int .u32 dir, .string nm, .int .u32 tof, .string nm2, .int .u16 md, .string dt] 51)
 have TV := hid (h.later b0)
 have B0 := hid b0
 have OPL : Hid (∀ W, Below (w.alloc (.cells #[.int .u8 k, .int .u32 fid, .int .u32 dir, .string nm, .int .u32 tof, .string nm2, .int .u16 md, .string dt] 51)).heap.size (w.alloc (.cells #[.int .u8 k, .int .u32 fid, .int .u32 dir, .string nm, .int .u32 tof, .string nm2, .int .u16 md, .string dt] 51)) W → W.heap[w.heap.size]? = some (.cells #[.int .u8 k, .int .u32 fid, .int .u32 dir, .string nm, .int .u32 tof, .string nm2, .int .u16 md, .string dt] 51)) := hid (fun W hW => (hW.block _ (lt_blkR h0)).trans h0)
 have DC := hid (rdir_c a cap l dir _ TV.out.1 (by omega))
 have GC := hid (fun W hW => get2_c a cap l fid W (TV.out.later hW).1 (by omega))
 have ZP : Hid (dirE (getF l dir) = 0 → NdP _ (dirN (getF l dir)) ∧ (dirN (getF l dir)).k = 2) := hid (fun e => ⟨TV.out.get (dirE_ok e).1, (dirE_ok e).2⟩)
 unfold gotV at GC
 have HNM : Hid (nm.size ≤ maxLen) := hid ho.2.2.2.2.2.2.1
 have HFD : Hid (0 ≤ fid ∧ fid < 4294967296) := hid ho.2.1
 have HMD : Hid (0 ≤ md ∧ md < 65536) := hid ho.2.2.2.2.1
 have HDT : Hid (dt.size ≤ 1000) := hid hd
 simp only [Rec.opV]
 simp only at hR
 generalize dirE (getF l dir) = de at *
 generalize dirN (getF l dir) = z at *
 generalize (getF l fid).isSome = bs at *
 generalize (getF l fid).getD Nd.no = y at *
 have HR := hid hR
 have HM := hid hm
 clear hR h b0 ho hd
 obtain ⟨zf, zk, zm, zl, zda, zdc, zzs, zka, zkc, zks⟩ := z
 obtain ⟨yf, yk, ym, yl, yda, ydc, yzs, yka, ykc, yks⟩ := y
 simp only [Nd.val] at DC GC
 go_enter Tryz.func45, Tryz.ntmps45
 go_upto_region 1 with fail
 generalize w.alloc (.cells #[.int .u8 k, .int .u32 fid, .int .u32 dir, .string nm, .int .u32 tof, .string nm2, .int .u16 md, .string dt] 51) = V at *
 have FB : Hid (∀ W, Below V.heap.size V W → Below w.heap.size w W) := hid (fun W h => B0.out.trans (h.mono B0.out.size))
 have o0 : V.cell? ⟨w.heap.size, 0, none⟩ = some (.int .u8 k) := cell_of_row2 h0 0 rfl
 have o1 : V.cell? ⟨w.heap.size, 1, none⟩ = some (.int .u32 fid) := cell_of_row2 h0 1 rfl
 have o2 : V.cell? ⟨w.heap.size, 2, none⟩ = some (.int .u32 dir) := cell_of_row2 h0 2 rfl
 have o3 : V.cell? ⟨w.heap.size, 3, none⟩ = some (.string nm) := cell_of_row2 h0 3 rfl
 have o4 : V.cell? ⟨w.heap.size, 4, none⟩ = some (.int .u32 tof) := cell_of_row2 h0 4 rfl
 have o5 : V.cell? ⟨w.heap.size, 5, none⟩ = some (.string nm2) := cell_of_row2 h0 5 rfl
 have o6 : V.cell? ⟨w.heap.size, 6, none⟩ = some (.int .u16 md) := cell_of_row2 h0 6 rfl
 have o7 : V.cell? ⟨w.heap.size, 7, none⟩ = some (.string dt) := cell_of_row2 h0 7 rfl
 clear h0
 by_cases qe : de = 0
 · subst qe
   obtain ⟨zp, zk2⟩ := ZP.out rfl
   simp only at zk2
   subst zk2
   have ZD := hid zp
   clear zp ZP
   go_upto_region 2 with (go_at_call 62; refine DC.out.mono ?_; rintro _ w1 ⟨rfl, hb1⟩; have B1 := hid hb1; clear hb1)
   have bN := below_1 w1 (.cells #[.int .u32 zf, .int .u8 2, .int .u16 zm, .int .u16 zl, .slice zda zzs.length zdc, .slice zka zks.length zkc] 37)
   have gN := heap_alloc_new w1 (.cells #[.int .u32 zf, .int .u8 2, .int .u16 zm, .int .u16 zl, .slice zda zzs.length zdc, .slice zka zks.length zkc] 37)
   have C1 := hid (B1.out.trans (bN.mono B1.out.size))
   have DG : Hid (∀ W, Below (w1.alloc (.cells #[.int .u32 zf, .int .u8 2, .int .u16 zm, .int .u16 zl, .slice zda zzs.length zdc, .slice zka zks.length zkc] 37)).heap.size (w1.alloc (.cells #[.int .u32 zf, .int .u8 2, .int .u16 zm, .int .u16 zl, .slice zda zzs.length zdc, .slice zka zks.length zkc] 37)) W → W.heap[w1.heap.size]? = some (.cells #[.int .u32 zf, .int .u8 2, .int .u16 zm, .int .u16 zl, .slice zda zzs.length zdc, .slice zka zks.length zkc] 37)) := hid (fun W hW => (hW.block _ (lt_blkR gN)).trans gN)
   have DL : Hid (w1.heap.size < (w1.alloc (.cells #[.int .u32 zf, .int .u8 2, .int .u16 zm, .int .u16 zl, .slice zda zzs.length zdc, .slice zka zks.length zkc] 37)).heap.size) := hid (lt_blkR gN)
   generalize w1.alloc (.cells #[.int .u32 zf, .int .u8 2, .int .u16 zm, .int .u16 zl, .slice zda zzs.length zdc, .slice zka zks.length zkc] 37) = V1 at *
   generalize w1.heap.size = G1 at *
   clear bN gN DC
   clear o0 o1 o2 o3 o4 o5 o6 o7
   have oh := OPL.out V1 C1.out
   have o0 : V1.cell? ⟨w.heap.size, 0, none⟩ = some (.int .u8 k) := cell_of_row2 oh 0 rfl
   have o1 : V1.cell? ⟨w.heap.size, 1, none⟩ = some (.int .u32 fid) := cell_of_row2 oh 1 rfl
   have o2 : V1.cell? ⟨w.heap.size, 2, none⟩ = some (.int .u32 dir) := cell_of_row2 oh 2 rfl
   have o3 : V1.cell? ⟨w.heap.size, 3, none⟩ = some (.string nm) := cell_of_row2 oh 3 rfl
   have o4 : V1.cell? ⟨w.heap.size, 4, none⟩ = some (.int .u32 tof) := cell_of_row2 oh 4 rfl
   have o5 : V1.cell? ⟨w.heap.size, 5, none⟩ = some (.string nm2) := cell_of_row2 oh 5 rfl
   have o6 : V1.cell? ⟨w.heap.size, 6, none⟩ = some (.int .u16 md) := cell_of_row2 oh 6 rfl
   have o7 : V1.cell? ⟨w.heap.size, 7, none⟩ = some (.string dt) := cell_of_row2 oh 7 rfl
   clear oh
   go_upto_region 5 with (go_at_call 8; refine (GC.out _ C1.out).mono ?_; rintro _ w2 ⟨rfl, hb2⟩; have B2 := hid hb2; clear hb2)
   have C2a := hid (C1.out.trans (B2.out.mono C1.out.size))
   have bN := below_1 w2 (.cells #[.int .u32 yf, .int .u8 yk, .int .u16 ym, .int .u16 yl, .slice yda yzs.length ydc, .slice yka yks.length ykc] 37)
   have C2 := hid (C2a.out.trans (bN.mono C2a.out.size))
   have K2 := hid (B2.out.trans (bN.mono B2.out.size))
   generalize w2.alloc (.cells #[.int .u32 yf, .int .u8 yk, .int .u16 ym, .int .u16 yl, .slice yda yzs.length ydc, .slice yka yks.length ykc] 37) = V2 at *
   clear bN
   have dh := DG.out V2 K2.out
   have d0 : V2.cell? ⟨G1, 0, none⟩ = some (.int .u32 zf) := cell_of_row2 dh 0 rfl
   have d1 : V2.cell? ⟨G1, 1, none⟩ = some (.int .u8 2) := cell_of_row2 dh 1 rfl
   have d2 : V2.cell? ⟨G1, 2, none⟩ = some (.int .u16 zm) := cell_of_row2 dh 2 rfl
   have d3 : V2.cell? ⟨G1, 3, none⟩ = some (.int .u16 zl) := cell_of_row2 dh 3 rfl
   have d4 : V2.cell? ⟨G1, 4, none⟩ = some (.slice zda zzs.length zdc) := cell_of_row2 dh 4 rfl
   have d5 : V2.cell? ⟨G1, 5, none⟩ = some (.slice zka zks.length zkc) := cell_of_row2 dh 5 rfl
   clear dh
   clear o0 o1 o2 o3 o4 o5 o6 o7
   have oh := OPL.out V2 C2.out
   have o0 : V2.cell? ⟨w.heap.size, 0, none⟩ = some (.int .u8 k) := cell_of_row2 oh 0 rfl
   have o1 : V2.cell? ⟨w.heap.size, 1, none⟩ = some (.int .u32 fid) := cell_of_row2 oh 1 rfl
   have o2 : V2.cell? ⟨w.heap.size, 2, none⟩ = some (.int .u32 dir) := cell_of_row2 oh 2 rfl
   have o3 : V2.cell? ⟨w.heap.size, 3, none⟩ = some (.string nm) := cell_of_row2 oh 3 rfl
   have o4 : V2.cell? ⟨w.heap.size, 4, none⟩ = some (.int .u32 tof) := cell_of_row2 oh 4 rfl
   have o5 : V2.cell? ⟨w.heap.size, 5, none⟩ = some (.string nm2) := cell_of_row2 oh 5 rfl
   have o6 : V2.cell? ⟨w.heap.size, 6, none⟩ = some (.int .u16 md) := cell_of_row2 oh 6 rfl
   have o7 : V2.cell? ⟨w.heap.size, 7, none⟩ = some (.string dt) := cell_of_row2 oh 7 rfl
   clear oh
   have KC := hid (kid_c ⟨zf, 2, zm, zl, zda, zdc, zzs, zka, zkc, zks⟩ nm V2 (ZD.out.1.later C2.out) (by have := ZD.out.2.2.2; simp only at this ⊢; omega))
   simp only [Nd.val] at KC
   have HR1 : Hid (R = if kidI zks nm ≠ 0 ∨ bs = true then (6, []) else if 40 ≤ l.length ∨ 12 ≤ zks.length then (4, []) else (0, setL (setL (l.map Nd.er) ((Nd.er ⟨zf, 2, zm, zl, zda, zdc, zzs, zka, zkc, zks⟩).kids none 0 (entL zks nm fid))) (newN ⟨k, fid, dir, nm, tof, nm2, md, dt, sn⟩))) := hid (by rw [HR.out, if_neg (by simp)]; rfl)
   generalize kidI zks nm = ki at *
   clear HR
   by_cases q6 : ki = 0 ∧ bs = false
   · obtain ⟨rfl, rfl⟩ := q6
     by_cases q4 : 40 ≤ l.length
     · have q4I : (40 : Int) ≤ l.length := by omega
       have RE : Hid (R = (4, [])) := hid (by rw [HR1.out, if_neg (by simp), if_pos (.inl q4)])
       clear HR1
       go_wp2_with (go_at_call 36; refine KC.out.mono ?_; rintro _ w3 ⟨rfl, hb3⟩; have B3 := hid hb3; clear hb3)
       refine bodyPost_ret (v := .tuple #[.slice none 0 0, .int .i64 4]) (by simp [results, Tryz.results45, go_sem]) rfl (ResT.err RE.out (FB.out _ (C2.out.trans (B3.out.mono C2.out.size))))
     · have q4I : ¬ (40 : Int) ≤ l.length := by omega
       have LW : Hid (∀ W, Below V2.heap.size V2 W → W.cell? ⟨G1, 5, none⟩ = some (.slice zka zks.length zkc)) := hid (fun W hW => cell_of_row2 (DG.out W (K2.out.trans (hW.mono K2.out.size))) 5 rfl)
       by_cases q12 : 12 ≤ zks.length
       · have q12I : (12 : Int) ≤ zks.length := by omega
         have RE : Hid (R = (4, [])) := hid (by rw [HR1.out, if_neg (by simp), if_pos (.inr q12)])
         clear HR1
         go_wp2_with (go_at_call 36; refine KC.out.mono ?_; rintro _ w3 ⟨rfl, hb3⟩; have B3 := hid hb3; (have e5 := LW.out _ hb3); clear hb3)
         refine bodyPost_ret (v := .tuple #[.slice none 0 0, .int .i64 4]) (by simp [results, Tryz.results45, go_sem]) rfl (ResT.err RE.out (FB.out _ (C2.out.trans (B3.out.mono C2.out.size))))
       · have q12I : ¬ (12 : Int) ≤ zks.length := by omega
         have QK : Hid (zks.length ≤ 12) := hid (by omega)
         have RE : Hid (R = (0, setL (setL (l.map Nd.er) ((Nd.er ⟨zf, 2, zm, zl, zda, zdc, zzs, zka, zkc, zks⟩).kids none 0 (entL zks nm fid))) (newN ⟨k, fid, dir, nm, tof, nm2, md, dt, sn⟩))) := hid (by rw [HR1.out, if_neg (by simp), if_neg (by omega)])
         clear HR1
         go_upto_region 9 with (go_at_call 36; refine KC.out.mono ?_; rintro _ w3 ⟨rfl, hb3⟩; have B3 := hid hb3; (have e5 := LW.out _ hb3); clear hb3)
         have C3a := hid (C2.out.trans (B3.out.mono C2.out.size))
         have K3a := hid (K2.out.trans (B3.out.mono K2.out.size))
         clear o0 o1 o2 o3 o4 o5 o6 o7
         have oh := OPL.out w3 C3a.out
         have o0 : w3.cell? ⟨w.heap.size, 0, none⟩ = some (.int .u8 k) := cell_of_row2 oh 0 rfl
         have o1 : w3.cell? ⟨w.heap.size, 1, none⟩ = some (.int .u32 fid) := cell_of_row2 oh 1 rfl
         have o2 : w3.cell? ⟨w.heap.size, 2, none⟩ = some (.int .u32 dir) := cell_of_row2 oh 2 rfl
         have o3 : w3.cell? ⟨w.heap.size, 3, none⟩ = some (.string nm) := cell_of_row2 oh 3 rfl
         have o4 : w3.cell? ⟨w.heap.size, 4, none⟩ = some (.int .u32 tof) := cell_of_row2 oh 4 rfl
         have o5 : w3.cell? ⟨w.heap.size, 5, none⟩ = some (.string nm2) := cell_of_row2 oh 5 rfl
         have o6 : w3.cell? ⟨w.heap.size, 6, none⟩ = some (.int .u16 md) := cell_of_row2 oh 6 rfl
         have o7 : w3.cell? ⟨w.heap.size, 7, none⟩ = some (.string dt) := cell_of_row2 oh 7 rfl
         clear oh
         go_upto_region 10 with fail
         have bM := below_1 w3 (.cells #[.int .u32 fid, .int .u8 1, .int .u16 md, .int .u16 1, .slice none 0 0, .slice none 0 0] 37)
         have K3 := hid (K3a.out.trans (bM.mono K3a.out.size))
         have C3 := hid (C3a.out.trans (bM.mono C3a.out.size))
         have gM := heap_alloc_new w3 (.cells #[.int .u32 fid, .int .u8 1, .int .u16 md, .int .u16 1, .slice none 0 0, .slice none 0 0] 37)
         generalize w3.alloc (.cells #[.int .u32 fid, .int .u8 1, .int .u16 md, .int .u16 1, .slice none 0 0, .slice none 0 0] 37) = V3 at *
         have LG : Hid (G1 < w3.heap.size) := hid (by have := K3a.out.size; have := DL.out; omega)
         have LO : Hid (w.heap.size < w3.heap.size) := hid (by have := lt_blkR (OPL.out w3 C3a.out); omega)
         have LVG : Hid (V.heap.size ≤ w3.heap.size) := hid C3a.out.size
         have LV1 : Hid (V1.heap.size ≤ w3.heap.size) := hid K3a.out.size
         generalize w3.heap.size = G3 at *
         clear o0 o1 o2 o3 o4 o5 o6 o7
         have oh := OPL.out V3 C3.out
         have o0 : V3.cell? ⟨w.heap.size, 0, none⟩ = some (.int .u8 k) := cell_of_row2 oh 0 rfl
         have o1 : V3.cell? ⟨w.heap.size, 1, none⟩ = some (.int .u32 fid) := cell_of_row2 oh 1 rfl
         have o2 : V3.cell? ⟨w.heap.size, 2, none⟩ = some (.int .u32 dir) := cell_of_row2 oh 2 rfl
         have o3 : V3.cell? ⟨w.heap.size, 3, none⟩ = some (.string nm) := cell_of_row2 oh 3 rfl
         have o4 : V3.cell? ⟨w.heap.size, 4, none⟩ = some (.int .u32 tof) := cell_of_row2 oh 4 rfl
         have o5 : V3.cell? ⟨w.heap.size, 5, none⟩ = some (.string nm2) := cell_of_row2 oh 5 rfl
         have o6 : V3.cell? ⟨w.heap.size, 6, none⟩ = some (.int .u16 md) := cell_of_row2 oh 6 rfl
         have o7 : V3.cell? ⟨w.heap.size, 7, none⟩ = some (.string dt) := cell_of_row2 oh 7 rfl
         clear oh
         have GM := hid gM
         have fz : ∀ i, V3.frozen? ⟨G3, i, none⟩ = false := fun i => by simp [World.frozen?, gM]
         have n0 : V3.cell? ⟨G3, 0, none⟩ = some (.int .u32 fid) := cell_of_row2 gM 0 rfl
         have n1 : V3.cell? ⟨G3, 1, none⟩ = some (.int .u8 1) := cell_of_row2 gM 1 rfl
         have n2 : V3.cell? ⟨G3, 2, none⟩ = some (.int .u16 md) := cell_of_row2 gM 2 rfl
         have n3 : V3.cell? ⟨G3, 3, none⟩ = some (.int .u16 1) := cell_of_row2 gM 3 rfl
         have n4 : V3.cell? ⟨G3, 4, none⟩ = some (.slice none 0 0) := cell_of_row2 gM 4 rfl
         have n5 : V3.cell? ⟨G3, 5, none⟩ = some (.slice none 0 0) := cell_of_row2 gM 5 rfl
         clear gM bM
         clear d0 d1 d2 d3 d4 d5 e5 KC
         by_cases qk2 : k = 2
         · have qk2B : (k == 2) = true := by rw [qk2]; rfl
           have qk3B : (k == 3) = false := by rw [qk2]; rfl
           have HK2 := hid qk2
           clear qk2
           go_upto_region 14 with fail
           have DH : Hid (∀ W, Below (V3.setCell ⟨G3, 1, none⟩ (.int .u8 2)).heap.size (V3.setCell ⟨G3, 1, none⟩ (.int .u8 2)) W → W.heap[G1]? = some (.cells #[.int .u32 zf, .int .u8 2, .int .u16 zm, .int .u16 zl, .slice zda zzs.length zdc, .slice zka zks.length zkc] 37)) := hid (fun W hW => DG.out W ((K3.out.setCell (p := ⟨G3, 1, none⟩) LV1.out _).trans (hW.mono (K3.out.setCell (p := ⟨G3, 1, none⟩) LV1.out _).size)))
           have OH : Hid (∀ W, Below (V3.setCell ⟨G3, 1, none⟩ (.int .u8 2)).heap.size (V3.setCell ⟨G3, 1, none⟩ (.int .u8 2)) W → W.heap[w.heap.size]? = some (.cells #[.int .u8 k, .int .u32 fid, .int .u32 dir, .string nm, .int .u32 tof, .string nm2, .int .u16 md, .string dt] 51)) := hid (fun W hW => OPL.out W ((C3.out.setCell (p := ⟨G3, 1, none⟩) LVG.out _).trans (hW.mono (C3.out.setCell (p := ⟨G3, 1, none⟩) LVG.out _).size)))
           have gN2 : (V3.setCell ⟨G3, 1, none⟩ (.int .u8 2)).heap[G3]? = some (.cells #[.int .u32 fid, .int .u8 2, .int .u16 md, .int .u16 1, .slice none 0 0, .slice none 0 0] 37) := heap_setCell_same V3 G3 1 _ _ _ GM.out
           have NH : Hid (∀ W, Below (V3.setCell ⟨G3, 1, none⟩ (.int .u8 2)).heap.size (V3.setCell ⟨G3, 1, none⟩ (.int .u8 2)) W → W.heap[G3]? = some (.cells #[.int .u32 fid, .int .u8 2, .int .u16 md, .int .u16 1, .slice none 0 0, .slice none 0 0] 37)) := hid (fun W hW => (hW.block _ (lt_blkR gN2)).trans gN2)
           have C4 := hid (C3.out.setCell (p := ⟨G3, 1, none⟩) LVG.out (.int .u8 2))
           clear gN2 n0 n1 n2 n3 n4 n5 o0 o1 o2 o3 o4 o5 o6 o7 fz C3 K3 GM
           generalize V3.setCell ⟨G3, 1, none⟩ (.int .u8 2) = V3 at *
           have C3 := C4
           have NP : Hid (NdP V3 ⟨fid, 2, md, 1, none, 0, [], none, 0, []⟩) := hid (ndp_new HFD.out ⟨by decide, by decide⟩ HMD.out (no_ok V3).2.2.2.2.1 (fun _ => rfl) (Nat.zero_le _))
           have KS : Hid (∀ W, Below V3.heap.size V3 W → W.cell? ⟨G1, 0, none⟩ = some (.int .u32 zf) ∧ W.cell? ⟨G1, 1, none⟩ = some (.int .u8 2) ∧ W.cell? ⟨G1, 2, none⟩ = some (.int .u16 zm) ∧ W.cell? ⟨G1, 3, none⟩ = some (.int .u16 zl) ∧ W.cell? ⟨G1, 4, none⟩ = some (.slice zda zzs.length zdc) ∧ W.cell? ⟨G1, 5, none⟩ = some (.slice zka zks.length zkc) ∧ W.cell? ⟨w.heap.size, 1, none⟩ = some (.int .u32 fid) ∧ W.cell? ⟨w.heap.size, 3, none⟩ = some (.string nm) ∧ W.cell? ⟨G3, 0, none⟩ = some (.int .u32 fid) ∧ W.cell? ⟨G3, 1, none⟩ = some (.int .u8 2) ∧ W.cell? ⟨G3, 2, none⟩ = some (.int .u16 md) ∧ W.cell? ⟨G3, 3, none⟩ = some (.int .u16 1) ∧ W.cell? ⟨G3, 4, none⟩ = some (.slice none 0 0) ∧ W.cell? ⟨G3, 5, none⟩ = some (.slice none 0 0)) := hid (fun W h => ⟨cell_of_row2 (DH.out _ h) 0 rfl, cell_of_row2 (DH.out _ h) 1 rfl, cell_of_row2 (DH.out _ h) 2 rfl, cell_of_row2 (DH.out _ h) 3 rfl, cell_of_row2 (DH.out _ h) 4 rfl, cell_of_row2 (DH.out _ h) 5 rfl, cell_of_row2 (OH.out _ h) 1 rfl, cell_of_row2 (OH.out _ h) 3 rfl, cell_of_row2 (NH.out _ h) 0 rfl, cell_of_row2 (NH.out _ h) 1 rfl, cell_of_row2 (NH.out _ h) 2 rfl, cell_of_row2 (NH.out _ h) 3 rfl, cell_of_row2 (NH.out _ h) 4 rfl, cell_of_row2 (NH.out _ h) 5 rfl⟩)
           have EC := hid (fun W (hW : Below V3.heap.size V3 W) => enter_t (x := ⟨zf, 2, zm, zl, zda, zdc, zzs, zka, zkc, zks⟩) (s := nm) (f := fid) (w := W) ((ZD.out.later C3.out).later hW) (by have := QK.out; simp only; omega) HNM.out HFD.out)
           simp only [Nd.val] at EC
           have KS0 := KS.out V3 (Below.refl _ _)
           have KD : Hid (Below V3.heap.size V3 V3.drew) := hid (Below.drew (Below.refl _ _))
           obtain ⟨s0, s1, s2, s3, s4, s5, s6, s7, s8, s9, s10, s11, s12, s13⟩ := KS0
           go_upto_region 14 with fail
           go_region_held3 (fun w' => w'.cell? ⟨G1, 0, none⟩ = some (.int .u32 zf) ∧ w'.cell? ⟨G1, 1, none⟩ = some (.int .u8 2) ∧ w'.cell? ⟨G1, 2, none⟩ = some (.int .u16 zm) ∧ w'.cell? ⟨G1, 3, none⟩ = some (.int .u16 zl) ∧ w'.cell? ⟨G1, 4, none⟩ = some (.slice zda zzs.length zdc) ∧ w'.cell? ⟨G1, 5, none⟩ = some (.slice zka zks.length zkc) ∧ w'.cell? ⟨w.heap.size, 1, none⟩ = some (.int .u32 fid) ∧ w'.cell? ⟨w.heap.size, 3, none⟩ = some (.string nm) ∧ w'.cell? ⟨G3, 0, none⟩ = some (.int .u32 fid) ∧ w'.cell? ⟨G3, 1, none⟩ = some (.int .u8 2) ∧ w'.cell? ⟨G3, 2, none⟩ = some (.int .u16 md) ∧ w'.cell? ⟨G3, 3, none⟩ = some (.int .u16 1) ∧ w'.cell? ⟨G3, 4, none⟩ = some (.slice none 0 0) ∧ w'.cell? ⟨G3, 5, none⟩ = some (.slice none 0 0)) (first | (with_reducible exact KS.out _ K6.out) | (with_reducible exact KS.out _ K5.out) | (with_reducible exact KS.out _ K4.out) | (with_reducible exact KS.out _ KD.out) | go_keep) (first
             | (go_at_call 49; refine S2.out.mono ?_; intro e6 w6 h6; obtain ⟨a6, c6, rfl, ht6, hb6⟩ := h6; have K6 := hid (K5.out.trans (hb6.mono K5.out.size)); have T6 := hid ht6; clear ht6 hb6)
             | (go_at_call 63; refine (EC.out _ KD.out).mono ?_; intro e4 w4 h4; obtain ⟨ka4, kc4, rfl, hn4, hb4⟩ := h4; have K4 := hid (KD.out.trans (hb4.mono KD.out.size)); (have S1 := hid (set_t cap ((TV.out.later C3.out).later K4.out) (by have := HM.out; omega) hn4)); simp only [Nd.val, Nd.kids] at S1 ⊢; clear hb4 hn4)
             | (go_at_call 49; refine S1.out.mono ?_; intro e5 w5 h5; obtain ⟨a5, c5, rfl, ht5, hb5⟩ := h5; have K5 := hid (K4.out.trans (hb5.mono K4.out.size)); (have S2 := hid (set_t c5 ht5 (by have := setL_len l ⟨zf, 2, zm, zl, zda, zdc, zzs, ka4, kc4, (entL zks nm fid)⟩; have := HM.out; omega) (NP.out.later K5.out))); simp only [Nd.val] at S2; clear ht5 hb5))
           go_wp2
           refine bodyPost_ret (v := .tuple #[.slice a6 (setL (setL l ⟨zf, 2, zm, zl, zda, zdc, zzs, ka4, kc4, entL zks nm fid⟩) ⟨fid, 2, md, 1, none, 0, [], none, 0, []⟩).length c6, .int .i64 0]) (by simp [results, Tryz.results45, go_sem]) rfl (ResT.ok T6.out ?_ (FB.out _ (C3.out.trans (K6.out.mono C3.out.size))))
           rw [RE.out, setL_er, setL_er]
           unfold newN
           simp only [HK2.out]
           rfl
         · have qk2B : (k == 2) = false := beq_eq_false_iff_ne.2 qk2
           by_cases qk3 : k = 3
           · have qk3B : (k == 3) = true := by rw [qk3]; rfl
             have HK2 := hid qk2
             have HK3 := hid qk3
             clear qk2 qk3
             have kc := fun (W : World) => run_bytes_of_string (P := Tryz.prog) W 9 34 5 dt Tryz.underlying9 Tryz.underlying34 Tryz.underlying5
             have hgv : G3 < V3.heap.size := lt_blkR GM.out
             have hgne : G3 ≠ V3.heap.size := by omega
             go_upto_region 13 with fail
             go_cut [4] from 59 to 73 (fun s4 wx => s4 = .slice none 0 0 ∧ ∃ wy nda ndc, wy = wx ∧ Hid (wy.heap[G3]? = some (.cells #[.int .u32 fid, .int .u8 3, .int .u16 md, .int .u16 1, .slice nda dt.size ndc, .slice none 0 0] 37)) ∧ Hid (RowAt wy 0 5 nda ((txB dt).map u8V)) ∧ Hid (Below G3 V3 wy) ∧ Hid (nda = none → ndc = 0))
             case first =>
               go_region
               all_goals go_wp2
               all_goals go_meet
               all_goals exact ⟨rfl, _, _, _, rfl, hid (made_link GM.out).1, hid (made_link GM.out).2.1, hid (made_link GM.out).2.2, hid (fun e => by cases e)⟩
             case rest =>
               obtain ⟨rfl, V4, nda, ndc, rfl, NB4, NR4, BL4, NN4⟩ := hcut
               have K4a := hid (K3.out.trans (BL4.out.mono LV1.out))
               have C4a := hid (C3.out.trans (BL4.out.mono LVG.out))
               clear n0 n1 n2 n3 n4 n5 o0 o1 o2 o3 o4 o5 o6 o7 fz hgv hgne kc K3 C3 GM BL4
               generalize V4 = V3 at *
               have C3 := C4a
               have DH : Hid (∀ W, Below V3.heap.size V3 W → W.heap[G1]? = some (.cells #[.int .u32 zf, .int .u8 2, .int .u16 zm, .int .u16 zl, .slice zda zzs.length zdc, .slice zka zks.length zkc] 37)) := hid (fun W hW => DG.out W (K4a.out.trans (hW.mono K4a.out.size)))
               have OH : Hid (∀ W, Below V3.heap.size V3 W → W.heap[w.heap.size]? = some (.cells #[.int .u8 k, .int .u32 fid, .int .u32 dir, .string nm, .int .u32 tof, .string nm2, .int .u16 md, .string dt] 51)) := hid (fun W hW => OPL.out W (C3.out.trans (hW.mono C3.out.size)))
               have NH : Hid (∀ W, Below V3.heap.size V3 W → W.heap[G3]? = some (.cells #[.int .u32 fid, .int .u8 3, .int .u16 md, .int .u16 1, .slice nda dt.size ndc, .slice none 0 0] 37)) := hid (fun W hW => (hW.block _ (lt_blkR NB4.out)).trans NB4.out)
               have NP : Hid (NdP V3 ⟨fid, 3, md, 1, nda, ndc, txB dt, none, 0, []⟩) := hid (ndp_new HFD.out ⟨by decide, by decide⟩ HMD.out (rowAt_isB NR4.out (txB_in dt) (by rw [txB_len]; exact HDT.out)) NN4.out (by rw [txB_len]; exact HDT.out))
               clear NB4 NR4
               have KS : Hid (∀ W, Below V3.heap.size V3 W → W.cell? ⟨G1, 0, none⟩ = some (.int .u32 zf) ∧ W.cell? ⟨G1, 1, none⟩ = some (.int .u8 2) ∧ W.cell? ⟨G1, 2, none⟩ = some (.int .u16 zm) ∧ W.cell? ⟨G1, 3, none⟩ = some (.int .u16 zl) ∧ W.cell? ⟨G1, 4, none⟩ = some (.slice zda zzs.length zdc) ∧ W.cell? ⟨G1, 5, none⟩ = some (.slice zka zks.length zkc) ∧ W.cell? ⟨w.heap.size, 1, none⟩ = some (.int .u32 fid) ∧ W.cell? ⟨w.heap.size, 3, none⟩ = some (.string nm) ∧ W.cell? ⟨G3, 0, none⟩ = some (.int .u32 fid) ∧ W.cell? ⟨G3, 1, none⟩ = some (.int .u8 3) ∧ W.cell? ⟨G3, 2, none⟩ = some (.int .u16 md) ∧ W.cell? ⟨G3, 3, none⟩ = some (.int .u16 1) ∧ W.cell? ⟨G3, 4, none⟩ = some (.slice nda dt.size ndc) ∧ W.cell? ⟨G3, 5, none⟩ = some (.slice none 0 0)) := hid (fun W h => ⟨cell_of_row2 (DH.out _ h) 0 rfl, cell_of_row2 (DH.out _ h) 1 rfl, cell_of_row2 (DH.out _ h) 2 rfl, cell_of_row2 (DH.out _ h) 3 rfl, cell_of_row2 (DH.out _ h) 4 rfl, cell_of_row2 (DH.out _ h) 5 rfl, cell_of_row2 (OH.out _ h) 1 rfl, cell_of_row2 (OH.out _ h) 3 rfl, cell_of_row2 (NH.out _ h) 0 rfl, cell_of_row2 (NH.out _ h) 1 rfl, cell_of_row2 (NH.out _ h) 2 rfl, cell_of_row2 (NH.out _ h) 3 rfl, cell_of_row2 (NH.out _ h) 4 rfl, cell_of_row2 (NH.out _ h) 5 rfl⟩)
               have EC := hid (fun W (hW : Below V3.heap.size V3 W) => enter_t (x := ⟨zf, 2, zm, zl, zda, zdc, zzs, zka, zkc, zks⟩) (s := nm) (f := fid) (w := W) ((ZD.out.later C3.out).later hW) (by have := QK.out; simp only; omega) HNM.out HFD.out)
               simp only [Nd.val] at EC
               have KS0 := KS.out V3 (Below.refl _ _)
               have KD : Hid (Below V3.heap.size V3 V3.drew) := hid (Below.drew (Below.refl _ _))
               obtain ⟨s0, s1, s2, s3, s4, s5, s6, s7, s8, s9, s10, s11, s12, s13⟩ := KS0
               go_upto_region 14 with fail
               go_region_held3 (fun w' => w'.cell? ⟨G1, 0, none⟩ = some (.int .u32 zf) ∧ w'.cell? ⟨G1, 1, none⟩ = some (.int .u8 2) ∧ w'.cell? ⟨G1, 2, none⟩ = some (.int .u16 zm) ∧ w'.cell? ⟨G1, 3, none⟩ = some (.int .u16 zl) ∧ w'.cell? ⟨G1, 4, none⟩ = some (.slice zda zzs.length zdc) ∧ w'.cell? ⟨G1, 5, none⟩ = some (.slice zka zks.length zkc) ∧ w'.cell? ⟨w.heap.size, 1, none⟩ = some (.int .u32 fid) ∧ w'.cell? ⟨w.heap.size, 3, none⟩ = some (.string nm) ∧ w'.cell? ⟨G3, 0, none⟩ = some (.int .u32 fid) ∧ w'.cell? ⟨G3, 1, none⟩ = some (.int .u8 3) ∧ w'.cell? ⟨G3, 2, none⟩ = some (.int .u16 md) ∧ w'.cell? ⟨G3, 3, none⟩ = some (.int .u16 1) ∧ w'.cell? ⟨G3, 4, none⟩ = some (.slice nda dt.size ndc) ∧ w'.cell? ⟨G3, 5, none⟩ = some (.slice none 0 0)) (first | (with_reducible exact KS.out _ K6.out) | (with_reducible exact KS.out _ K5.out) | (with_reducible exact KS.out _ K4.out) | (with_reducible exact KS.out _ KD.out) | go_keep) (first
                 | (go_at_call 49; refine S2.out.mono ?_; intro e6 w6 h6; obtain ⟨a6, c6, rfl, ht6, hb6⟩ := h6; have K6 := hid (K5.out.trans (hb6.mono K5.out.size)); have T6 := hid ht6; clear ht6 hb6)
                 | (go_at_call 63; refine (EC.out _ KD.out).mono ?_; intro e4 w4 h4; obtain ⟨ka4, kc4, rfl, hn4, hb4⟩ := h4; have K4 := hid (KD.out.trans (hb4.mono KD.out.size)); (have S1 := hid (set_t cap ((TV.out.later C3.out).later K4.out) (by have := HM.out; omega) hn4)); simp only [Nd.val, Nd.kids] at S1 ⊢; clear hb4 hn4)
                 | (go_at_call 49; refine S1.out.mono ?_; intro e5 w5 h5; obtain ⟨a5, c5, rfl, ht5, hb5⟩ := h5; have K5 := hid (K4.out.trans (hb5.mono K4.out.size)); (have S2 := hid (set_t c5 ht5 (by have := setL_len l ⟨zf, 2, zm, zl, zda, zdc, zzs, ka4, kc4, (entL zks nm fid)⟩; have := HM.out; omega) (NP.out.later K5.out))); simp only [Nd.val] at S2; rw [txB_len] at S2; clear ht5 hb5))
               go_wp2
               refine bodyPost_ret (v := .tuple #[.slice a6 (setL (setL l ⟨zf, 2, zm, zl, zda, zdc, zzs, ka4, kc4, entL zks nm fid⟩) ⟨fid, 3, md, 1, nda, ndc, txB dt, none, 0, []⟩).length c6, .int .i64 0]) (by simp [results, Tryz.results45, go_sem]) rfl (ResT.ok T6.out ?_ (FB.out _ (C3.out.trans (K6.out.mono C3.out.size))))
               rw [RE.out, setL_er, setL_er]
               unfold newN
               simp only [if_neg HK2.out, if_pos HK3.out]
               rfl
           · have qk3B : (k == 3) = false := beq_eq_false_iff_ne.2 qk3
             have HK2 := hid qk2
             have HK3 := hid qk3
             clear qk2 qk3
             go_upto_region 14 with fail
             have DH : Hid (∀ W, Below V3.heap.size V3 W → W.heap[G1]? = some (.cells #[.int .u32 zf, .int .u8 2, .int .u16 zm, .int .u16 zl, .slice zda zzs.length zdc, .slice zka zks.length zkc] 37)) := hid (fun W hW => DG.out W (K3.out.trans (hW.mono K3.out.size)))
             have OH : Hid (∀ W, Below V3.heap.size V3 W → W.heap[w.heap.size]? = some (.cells #[.int .u8 k, .int .u32 fid, .int .u32 dir, .string nm, .int .u32 tof, .string nm2, .int .u16 md, .string dt] 51)) := hid (fun W hW => OPL.out W (C3.out.trans (hW.mono C3.out.size)))
             have NH : Hid (∀ W, Below V3.heap.size V3 W → W.heap[G3]? = some (.cells #[.int .u32 fid, .int .u8 1, .int .u16 md, .int .u16 1, .slice none 0 0, .slice none 0 0] 37)) := hid (fun W hW => (hW.block _ (lt_blkR GM.out)).trans GM.out)
             clear n0 n1 n2 n3 n4 n5 o0 o1 o2 o3 o4 o5 o6 o7 fz
             have NP : Hid (NdP V3 ⟨fid, 1, md, 1, none, 0, [], none, 0, []⟩) := hid (ndp_new HFD.out ⟨by decide, by decide⟩ HMD.out (no_ok V3).2.2.2.2.1 (fun _ => rfl) (Nat.zero_le _))
             have KS : Hid (∀ W, Below V3.heap.size V3 W → W.cell? ⟨G1, 0, none⟩ = some (.int .u32 zf) ∧ W.cell? ⟨G1, 1, none⟩ = some (.int .u8 2) ∧ W.cell? ⟨G1, 2, none⟩ = some (.int .u16 zm) ∧ W.cell? ⟨G1, 3, none⟩ = some (.int .u16 zl) ∧ W.cell? ⟨G1, 4, none⟩ = some (.slice zda zzs.length zdc) ∧ W.cell? ⟨G1, 5, none⟩ = some (.slice zka zks.length zkc) ∧ W.cell? ⟨w.heap.size, 1, none⟩ = some (.int .u32 fid) ∧ W.cell? ⟨w.heap.size, 3, none⟩ = some (.string nm) ∧ W.cell? ⟨G3, 0, none⟩ = some (.int .u32 fid) ∧ W.cell? ⟨G3, 1, none⟩ = some (.int .u8 1) ∧ W.cell? ⟨G3, 2, none⟩ = some (.int .u16 md) ∧ W.cell? ⟨G3, 3, none⟩ = some (.int .u16 1) ∧ W.cell? ⟨G3, 4, none⟩ = some (.slice none 0 0) ∧ W.cell? ⟨G3, 5, none⟩ = some (.slice none 0 0)) := hid (fun W h => ⟨cell_of_row2 (DH.out _ h) 0 rfl, cell_of_row2 (DH.out _ h) 1 rfl, cell_of_row2 (DH.out _ h) 2 rfl, cell_of_row2 (DH.out _ h) 3 rfl, cell_of_row2 (DH.out _ h) 4 rfl, cell_of_row2 (DH.out _ h) 5 rfl, cell_of_row2 (OH.out _ h) 1 rfl, cell_of_row2 (OH.out _ h) 3 rfl, cell_of_row2 (NH.out _ h) 0 rfl, cell_of_row2 (NH.out _ h) 1 rfl, cell_of_row2 (NH.out _ h) 2 rfl, cell_of_row2 (NH.out _ h) 3 rfl, cell_of_row2 (NH.out _ h) 4 rfl, cell_of_row2 (NH.out _ h) 5 rfl⟩)
             have EC := hid (fun W (hW : Below V3.heap.size V3 W) => enter_t (x := ⟨zf, 2, zm, zl, zda, zdc, zzs, zka, zkc, zks⟩) (s := nm) (f := fid) (w := W) ((ZD.out.later C3.out).later hW) (by have := QK.out; simp only; omega) HNM.out HFD.out)
             simp only [Nd.val] at EC
             have KS0 := KS.out V3 (Below.refl _ _)
             have KD : Hid (Below V3.heap.size V3 V3.drew) := hid (Below.drew (Below.refl _ _))
             obtain ⟨s0, s1, s2, s3, s4, s5, s6, s7, s8, s9, s10, s11, s12, s13⟩ := KS0
             go_upto_region 14 with fail
             go_region_held3 (fun w' => w'.cell? ⟨G1, 0, none⟩ = some (.int .u32 zf) ∧ w'.cell? ⟨G1, 1, none⟩ = some (.int .u8 2) ∧ w'.cell? ⟨G1, 2, none⟩ = some (.int .u16 zm) ∧ w'.cell? ⟨G1, 3, none⟩ = some (.int .u16 zl) ∧ w'.cell? ⟨G1, 4, none⟩ = some (.slice zda zzs.length zdc) ∧ w'.cell? ⟨G1, 5, none⟩ = some (.slice zka zks.length zkc) ∧ w'.cell? ⟨w.heap.size, 1, none⟩ = some (.int .u32 fid) ∧ w'.cell? ⟨w.heap.size, 3, none⟩ = some (.string nm) ∧ w'.cell? ⟨G3, 0, none⟩ = some (.int .u32 fid) ∧ w'.cell? ⟨G3, 1, none⟩ = some (.int .u8 1) ∧ w'.cell? ⟨G3, 2, none⟩ = some (.int .u16 md) ∧ w'.cell? ⟨G3, 3, none⟩ = some (.int .u16 1) ∧ w'.cell? ⟨G3, 4, none⟩ = some (.slice none 0 0) ∧ w'.cell? ⟨G3, 5, none⟩ = some (.slice none 0 0)) (first | (with_reducible exact KS.out _ K6.out) | (with_reducible exact KS.out _ K5.out) | (with_reducible exact KS.out _ K4.out) | (with_reducible exact KS.out _ KD.out) | go_keep) (first
               | (go_at_call 49; refine S2.out.mono ?_; intro e6 w6 h6; obtain ⟨a6, c6, rfl, ht6, hb6⟩ := h6; have K6 := hid (K5.out.trans (hb6.mono K5.out.size)); have T6 := hid ht6; clear ht6 hb6)
               | (go_at_call 63; refine (EC.out _ KD.out).mono ?_; intro e4 w4 h4; obtain ⟨ka4, kc4, rfl, hn4, hb4⟩ := h4; have K4 := hid (KD.out.trans (hb4.mono KD.out.size)); (have S1 := hid (set_t cap ((TV.out.later C3.out).later K4.out) (by have := HM.out; omega) hn4)); simp only [Nd.val, Nd.kids] at S1 ⊢; clear hb4 hn4)
               | (go_at_call 49; refine S1.out.mono ?_; intro e5 w5 h5; obtain ⟨a5, c5, rfl, ht5, hb5⟩ := h5; have K5 := hid (K4.out.trans (hb5.mono K4.out.size)); (have S2 := hid (set_t c5 ht5 (by have := setL_len l ⟨zf, 2, zm, zl, zda, zdc, zzs, ka4, kc4, (entL zks nm fid)⟩; have := HM.out; omega) (NP.out.later K5.out))); simp only [Nd.val] at S2; clear ht5 hb5))
             go_wp2
             refine bodyPost_ret (v := .tuple #[.slice a6 (setL (setL l ⟨zf, 2, zm, zl, zda, zdc, zzs, ka4, kc4, entL zks nm fid⟩) ⟨fid, 1, md, 1, none, 0, [], none, 0, []⟩).length c6, .int .i64 0]) (by simp [results, Tryz.results45, go_sem]) rfl (ResT.ok T6.out ?_ (FB.out _ (C3.out.trans (K6.out.mono C3.out.size))))
             rw [RE.out, setL_er, setL_er]
             unfold newN
             simp only [if_neg HK2.out, if_neg HK3.out]
             rfl
   · have RE : Hid (R = (6, [])) := hid (by rw [HR1.out, if_pos (by rcases Decidable.em (ki = 0) with e | e; exact .inr (by cases bs; exact absurd ⟨e, rfl⟩ q6; rfl); exact .inl e)])
     clear HR1
     by_cases qk : ki = 0
     · have qb : bs = true := by cases bs; exact absurd ⟨qk, rfl⟩ q6; rfl
       subst qk qb
       go_wp2_with (go_at_call 36; refine KC.out.mono ?_; rintro _ w3 ⟨rfl, hb3⟩; have B3 := hid hb3; clear hb3)
       refine bodyPost_ret (v := .tuple #[.slice none 0 0, .int .i64 6]) (by simp [results, Tryz.results45, go_sem]) rfl (ResT.err RE.out (FB.out _ (C2.out.trans (B3.out.mono C2.out.size))))
     · have qkB : (ki != 0) = true := by simp [qk]
       go_wp2_with (go_at_call 36; refine KC.out.mono ?_; rintro _ w3 ⟨rfl, hb3⟩; have B3 := hid hb3; clear hb3)
       refine bodyPost_ret (v := .tuple #[.slice none 0 0, .int .i64 6]) (by simp [results, Tryz.results45, go_sem]) rfl (ResT.err RE.out (FB.out _ (C2.out.trans (B3.out.mono C2.out.size))))
 · have qeB : (de != 0) = true := by simp [qe]
   have RE : Hid (R = (de, [])) := hid (by rw [HR.out, if_pos qe])
   clear HR ZP
   go_wp2_with (go_at_call 62; refine DC.out.mono ?_; rintro _ w1 ⟨rfl, hb1⟩; have B1 := hid hb1; clear hb1)
   refine bodyPost_ret (v := .tuple #[.slice none 0 0, .int .i64 de]) (by simp [results, Tryz.results45, go_sem]) rfl (ResT.err RE.out ((FB.out _ B1.out).trans ((below_1 w1 _).mono (FB.out _ B1.out).size)))
end Go.Proofs.YtkokjkaclcjnjaaGreatDoor
