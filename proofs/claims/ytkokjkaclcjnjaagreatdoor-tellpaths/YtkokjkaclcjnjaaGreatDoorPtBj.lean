/-
  The package tree: copyAll, placeOf, entryOf, New.
  Nodes of an input, in memory.
  Get of the program's tree, its copy's place told.
-/
import Derived.Test.YtkokjkaclcjnjaaGreatDoorPtBi
import Derived.Deep.RegionHeld3
import Derived.Test.YtkokjkaclcjnjaaGreatDoorPtBc
namespace Go.Proofs.YtkokjkaclcjnjaaGreatDoor
open Go.RowKit Go.ChangeShapes Go.WideShapes Go.ChangeAt Go.Maps Go.Shelf
set_option linter.unusedVariables false
set_option linter.unusedSimpArgs false
set_option maxRecDepth 100000
def kb (x : Nd) : Option Nat := x.ka.map (·.block)
theorem NdW.grown {w w' : World} {base b : Nat} {x : Nd} {v : Value} {L : List Nd} (h : NdW w base x) (hown : OwN w b v L) (hg : w.grownBy w' v.ownBlock) : NdW w' base x :=
 ⟨h.1, h.2.1, h.2.2.1.grown hown (by decide) hg, own_other h.2.2.2 hown (by decide) hg⟩
def plI (l : List Nd) (f : Int) : Int := match l.findIdx? (fun x => x.fid == f) with
 | some i => i
 | none => -1
theorem findIdx_at {α : Type} {p : α → Bool} {d : α} : ∀ {l : List α} {m : Nat}, m < l.length → (∀ i, i < m → p (l.getD i d) = false) → p (l.getD m d) = true → l.findIdx? p = some m
 | [], m, hm, _, _ => by cases hm
 | x :: t, 0, _, _, h1 => by
   have : p x = true := h1
   simp [List.findIdx?_cons, this]
 | x :: t, m + 1, hm, h0, h1 => by
   have hx : p x = false := h0 0 (by omega)
   rw [List.findIdx?_cons, hx]
   have := findIdx_at (l := t) (m := m) (p := p) (d := d) (by simpa using hm) (fun i hi => h0 (i + 1) (by omega)) h1
   simp [this]
theorem findIdx_no {α : Type} {p : α → Bool} {d : α} {l : List α} (h : ∀ i, i < l.length → p (l.getD i d) = false) : l.findIdx? p = none := by
 rw [List.findIdx?_eq_none_iff]
 intro x hx
 obtain ⟨i, hi, rfl⟩ := List.getElem_of_mem hx
 have := h i hi
 rwa [List.getD, List.getElem?_eq_getElem hi] at this
set_option maxHeartbeats 2000000 in
theorem plIx_c (g : Nat) (a : Option Addr) (cap : Nat) (l : List Nd) (f : Int) (w : World) (h : IsNs w a l) (hg : w.heap[g]? = some (.cells #[.int .u32 f] 31)) (hm : l.length ≤ 100000) :
   Calls Tryz.prog 67 #[.slice a l.length cap, .func (.func 68) #[] #[.pointer (some ⟨g, 0, none⟩)]] w fun e w' => e = .returned (.int .i64 (plI l f)) ∧ Below w.heap.size w w' := by
 have H := hid h
 have HG := hid hg
 obtain ⟨R, hR⟩ : ∃ R, R = plI l f := ⟨_, rfl⟩
 rw [← hR]
 have HR := hid hR
 obtain ⟨n, hn⟩ : ∃ n, n = l.length := ⟨_, rfl⟩
 have HN := hid hn
 rw [← hn] at hm ⊢
 clear h hg hR hn
 go_enter Tryz.func67, Tryz.ntmps67
 go_wp2
 go_loopg [8] n (fun gk i wr => ∃ m : Nat, m + gk = n ∧ i = .int .i64 m ∧ Hid (Below w.heap.size w wr) ∧ Hid (∀ i, i < m → ((l.getD i Nd.no).fid == f) = false))
 case atStart => exact ⟨0, by omega, rfl, hid (Below.refl _ _), hid (fun i hi => by omega)⟩
 case round =>
   obtain ⟨m, hm2, rfl, HB, HF⟩ := hrel
   by_cases hlt : m < n
   · have hltI : (m : Int) < n := by omega
     have hln : m < l.length := by rw [← HN.out]; exact hlt
     obtain ⟨b, off, rfl, _⟩ := H.out.2.2 (by omega)
     obtain ⟨y0, y1, y2, y3, y4, y5⟩ := ((H.out.later HB.out).at (i := m) hln).all
     have YES : Hid (((l.getD m Nd.no).fid == f) = true → R = m) := hid (fun e => by rw [HR.out]; unfold plI; rw [findIdx_at (d := Nd.no) hln HF.out e])
     have NX : Hid (((l.getD m Nd.no).fid == f) = false → ∀ i, i < m + 1 → ((l.getD i Nd.no).fid == f) = false) := hid (fun e i hi => by
       by_cases q : i = m
       · rw [q]; exact e
       · exact HF.out i (by omega))
     have c0 : wr.cell? ⟨g, 0, none⟩ = some (.int .u32 f) := cell_of_row2 ((HB.out.block _ (lt_blkR HG.out)).trans HG.out) 0 rfl
     have hgl : g < wr.heap.size := lt_blkR ((HB.out.block _ (lt_blkR HG.out)).trans HG.out)
     clear hln
     generalize l.getD m Nd.no = x at *
     have BX := hid (HB.out.trans ((below_1 wr (.cells #[.int .u32 x.fid, .int .u8 x.k, .int .u16 x.md, .int .u16 x.ln, .slice x.da x.zs.length x.dc, .slice x.ka x.ks.length x.kc] 37)).mono HB.out.size))
     cases q : ((x).fid == f) with
     | true =>
       have ET := hid (YES.out q)
       clear YES NX HF
       skip
       go_wp2
       go_ret
       exact ⟨by rw [ET.out]; rfl, BX.out⟩
     | false =>
       have EX := hid (NX.out q)
       clear YES NX HF
       skip
       go_wp2
       go_roundg (gk - 1)
       case measure => omega
       case rel => exact ⟨m + 1, by omega, by go_num, BX, EX⟩
   · have hge : ¬ (m : Int) < n := by omega
     have EF : Hid (R = -1) := hid (by rw [HR.out]; unfold plI; rw [findIdx_no (d := Nd.no) (fun i hi => HF.out i (by have := HN.out; omega))])
     go_wp2
     go_ret
     exact ⟨by rw [EF.out]; rfl, HB.out⟩
set_option maxHeartbeats 1000000 in
theorem placeOf_c (a : Option Addr) (cap : Nat) (l : List Nd) (f : Int) (w : World) (h : IsNs w a l) (hm : l.length ≤ 100000) :
   Calls Tryz.prog 53 #[.slice a l.length cap, .int .u32 f] w fun e w' => e = .returned (.int .i64 (plI l f)) ∧ Below w.heap.size w w' := by
 have b0 := below_1 w (.cells #[.int .u32 f] 31)
 have IC := hid (plIx_c w.heap.size a cap l f _ (h.later b0) (heap_alloc_new w _) hm)
 have B0 := hid b0
 clear h b0
 go_enter Tryz.func53, Tryz.ntmps53
 go_wp2_with (go_at_call 67; refine IC.out.mono ?_; rintro _ w1 ⟨rfl, hb1⟩)
 go_ret
 exact ⟨rfl, B0.out.trans (hb1.mono B0.out.size)⟩
end Go.Proofs.YtkokjkaclcjnjaaGreatDoor
namespace Go.Proofs.YtkokjkaclcjnjaaGreatDoor
open Go.RowKit Go.ChangeShapes Go.WideShapes Go.ChangeAt
set_option linter.unusedVariables false
set_option linter.unusedSimpArgs false
set_option maxRecDepth 100000
theorem pl_none {l : List Nd} {f : Int} (h : getF l f = none) : plI l f = -1 := by
 unfold plI
 have e : l.findIdx? (fun x => x.fid == f) = none := by
   rw [List.findIdx?_eq_none_iff]
   intro x hx
   unfold getF at h
   rw [List.find?_eq_none] at h
   have := h x hx
   simpa using this
 rw [e]
theorem pl_some {l : List Nd} {f : Int} {x : Nd} (h : getF l f = some x) : ∃ i : Nat, plI l f = (i : Int) ∧ i < l.length ∧ l.getD i Nd.no = x := by
 induction l with
 | nil => cases h
 | cons y t ih =>
   unfold getF at h
   rw [List.find?_cons] at h
   cases e : y.fid == f with
   | true =>
     rw [e] at h
     cases h
     refine ⟨0, ?_, by simp, rfl⟩
     unfold plI
     simp only [List.findIdx?_cons, e, if_true]
   | false =>
     rw [e] at h
     obtain ⟨i, h1, h2, h3⟩ := ih h
     refine ⟨i + 1, ?_, by simpa using h2, by simpa [List.getD] using h3⟩
     unfold plI at h1 ⊢
     rw [List.findIdx?_cons, e]
     cases q : t.findIdx? (fun x => x.fid == f) with
     | none => rw [q] at h1; simp only at h1; omega
     | some k => rw [q] at h1; simp only at h1 ⊢; simp; omega
theorem RowAt.setLow {w : World} {base : Nat} {t : TypeId} {p : Option Addr} {vs : List Value} (h : RowAt w base t p vs) {g o : Nat} {v : Value} (hg : g < base) : RowAt (w.setCell ⟨g, o, none⟩ v) base t p vs := by
 rcases h with h | ⟨k, cs, fr, h1, h2, h3, h4⟩
 · exact .inl h
 · exact .inr ⟨k, cs, fr, h1, h2, by rw [heap_setCell_other _ _ _ _ (by show k ≠ g; omega)]; exact h3, h4⟩
theorem NdR.setLow {w : World} {base : Nat} {x : Nd} (h : NdR w base x) {g o : Nat} {v : Value} (hg : g < base) : NdR (w.setCell ⟨g, o, none⟩ v) base x := ⟨h.1, h.2.1, h.2.2.1.setLow hg, h.2.2.2.setLow hg⟩
def GtQ (o : Option Nd) (w : World) (e : Ending) (w' : World) : Prop := (match o with
 | none => e = .returned (.tuple #[Nd.no.val, .bool false])
 | some x => ∃ y : Nd, e = .returned (.tuple #[y.val, .bool true]) ∧ y.er = x.er ∧ NdR w' w.heap.size y) ∧ Below w.heap.size w w'
set_option maxHeartbeats 2000000 in
theorem tGet_c (a : Option Addr) (cap : Nat) (l : List Nd) (f : Int) (w : World) (h : Tr w a l) (hm : l.length ≤ 100000) :
   Calls Tryz.prog 33 #[.slice a l.length cap, .int .u32 f] w (GtQ (getF l f) w) := by
 have b0 := below_1 w (.cells Nd.no.cells.toArray 37)
 have h0 := heap_alloc_new w (.cells Nd.no.cells.toArray 37)
 have hV := h.later b0
 have PC := hid (placeOf_c a cap l f _ hV.1 hm)
 have B0 := hid b0
 have H0 := hid h0
 have hsV : w.heap.size < (w.alloc (.cells Nd.no.cells.toArray 37)).heap.size := lt_blkR h0
 have H := hid hV
 clear b0 h0 h hV
 cases hx : getF l f with
 | none =>
   rw [pl_none hx] at PC
   clear H hx
   generalize l.length = n at *
   go_enter Tryz.func33, Tryz.ntmps33
   go_upto_region 1 with fail
   change Code.wp _ _ _ _ (w.alloc (.cells Nd.no.cells.toArray 37))
   generalize (w.alloc (.cells Nd.no.cells.toArray 37)) = V at *
   go_wp2_with (go_at_call 53; refine PC.out.mono ?_; rintro _ w1 ⟨rfl, hb1⟩; have h1 := (hb1.block _ hsV).trans H0.out; have fz : ∀ i, w1.frozen? ⟨w.heap.size, i, none⟩ = false := (fun i => by simp [World.frozen?, h1]); obtain ⟨q0, q1, q2, q3, q4, q5⟩ := nd_cells h1; simp only [Nd.no, List.length_nil] at q0 q1 q2 q3 q4 q5; have B1 := hid (B0.out.trans (hb1.mono B0.out.size)); clear hb1 h1)
   refine bodyPost_ret (v := .tuple #[Nd.no.val, .bool false]) (by simp [results, Tryz.results33, go_sem, Nd.val, Nd.no, q0, q1, q2, q3, q4, q5]) rfl ⟨rfl, ?_⟩
   exact (((((B1.out.setCell (p := ⟨w.heap.size, 0, none⟩) (Nat.le_refl _) _).setCell (p := ⟨w.heap.size, 1, none⟩) (Nat.le_refl _) _).setCell (p := ⟨w.heap.size, 2, none⟩) (Nat.le_refl _) _).setCell (p := ⟨w.heap.size, 3, none⟩) (Nat.le_refl _) _).setCell (p := ⟨w.heap.size, 4, none⟩) (Nat.le_refl _) _).setCell (p := ⟨w.heap.size, 5, none⟩) (Nat.le_refl _) _
 | some x =>
   obtain ⟨i, e1, e2, e3⟩ := pl_some hx
   rw [e1] at PC
   obtain ⟨b, off, rfl, _⟩ := H.out.1.2.2 (by omega)
   have hxm : x ∈ l := by rw [← e3]; exact getD_mem _ _ e2
   have NP := hid (H.out.nd hxm)
   have HA := hid (H.out.1.at (i := i) e2)
   rw [e3] at HA
   have e2I : (i : Int) < l.length := by omega
   clear H hx e1 e3 hxm
   generalize l.length = n at *
   go_enter Tryz.func33, Tryz.ntmps33
   go_upto_region 1 with fail
   change Code.wp _ _ _ _ (w.alloc (.cells Nd.no.cells.toArray 37))
   generalize (w.alloc (.cells Nd.no.cells.toArray 37)) = V at *
   obtain ⟨xf, xk, xm, xl, xda, xdc, xzs, xka, xkc, xks⟩ := x
   have CO : Hid (∀ W, Below V.heap.size V W → Calls Tryz.prog 54 #[.agg #[.int .u32 xf, .int .u8 xk, .int .u16 xm, .int .u16 xl, .slice xda xzs.length xdc, .slice xka xks.length xkc]] W fun e w' => ∃ da dc ka kc, e = .returned (.agg #[.int .u32 xf, .int .u8 xk, .int .u16 xm, .int .u16 xl, .slice da xzs.length dc, .slice ka xks.length kc]) ∧ NdW w' W.heap.size ⟨xf, xk, xm, xl, da, dc, xzs, ka, kc, xks⟩ ∧ Below W.heap.size W w') := hid (fun W hW => copyOf_c ⟨xf, xk, xm, xl, xda, xdc, xzs, xka, xkc, xks⟩ W (NP.out.later hW))
   have CC : Hid (∀ W, Below V.heap.size V W → NdC W b (off + i * 6) ⟨xf, xk, xm, xl, xda, xdc, xzs, xka, xkc, xks⟩) := hid (fun W hW => HA.out.later hW)
   clear NP HA
   go_wp2_with (first
     | (go_at_call 53; refine PC.out.mono ?_; rintro _ w1 ⟨rfl, hb1⟩; have B1 := hid hb1; clear hb1; obtain ⟨y0, y1, y2, y3, y4, y5⟩ := (CC.out w1 B1.out).all; have E1 := hid (CO.out w1 B1.out))
     | (go_at_call 54; refine E1.out.mono ?_; rintro _ w2 ⟨da, dc, ka, kc, rfl, hW2, hb2⟩; have B2 := hid (B1.out.trans (hb2.mono B1.out.size)); have W2 := hid hW2.r; clear hb2 hW2; have h1 := (B2.out.block _ hsV).trans H0.out; have fz : ∀ i, w2.frozen? ⟨w.heap.size, i, none⟩ = false := (fun i => by simp [World.frozen?, h1]); obtain ⟨q0, q1, q2, q3, q4, q5⟩ := nd_cells h1; simp only [Nd.no, List.length_nil] at q0 q1 q2 q3 q4 q5; clear h1))
   have hs1 : w.heap.size < w1.heap.size := Nat.lt_of_lt_of_le hsV B1.out.size
   have B0z : w.heap.size ≤ w1.heap.size := by omega
   have B3 : Below w.heap.size w w2 := B0.out.trans (B2.out.mono B0.out.size)
   refine bodyPost_ret (v := .tuple #[(⟨xf, xk, xm, xl, da, dc, xzs, ka, kc, xks⟩ : Nd).val, .bool true]) (by simp [results, Tryz.results33, go_sem, Nd.val, q0, q1, q2, q3, q4, q5]) rfl ⟨⟨⟨xf, xk, xm, xl, da, dc, xzs, ka, kc, xks⟩, rfl, rfl, ?_⟩, ?_⟩
   · exact ((((((W2.out.setLow hs1).setLow hs1).setLow hs1).setLow hs1).setLow hs1).setLow hs1).low B0z
   · exact (((((B3.setCell (p := ⟨w.heap.size, 0, none⟩) (Nat.le_refl _) _).setCell (p := ⟨w.heap.size, 1, none⟩) (Nat.le_refl _) _).setCell (p := ⟨w.heap.size, 2, none⟩) (Nat.le_refl _) _).setCell (p := ⟨w.heap.size, 3, none⟩) (Nat.le_refl _) _).setCell (p := ⟨w.heap.size, 4, none⟩) (Nat.le_refl _) _).setCell (p := ⟨w.heap.size, 5, none⟩) (Nat.le_refl _) _
end Go.Proofs.YtkokjkaclcjnjaaGreatDoor
