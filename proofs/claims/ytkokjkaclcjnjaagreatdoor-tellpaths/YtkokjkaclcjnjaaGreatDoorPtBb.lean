/-
  The document's Same, of the same contents. (Written by nodebase.py out of SnapSame.)
  The document's tree: Apply, New.
-/
import Derived.Test.YtkokjkaclcjnjaaGreatDoorPtAz
import Derived.BigQuiet
import Derived.Test.YtkokjkaclcjnjaaGreatDoorPtBa
namespace Go.Proofs.YtkokjkaclcjnjaaGreatDoor
open Go.RowKit Go.ChangeShapes Go.WideShapes Go.ChangeAt Go.Maps Go.Shelf
set_option linter.unusedVariables false
set_option linter.unusedSimpArgs false
set_option maxRecDepth 100000
def ApplyL (l : List Nd) (o : Rec) : Int × List Nd := if (rightD l && rightF o) = true then applyL l o else (3, [])
theorem rightD_er (l : List Nd) : rightD (l.map Nd.er) = rightD l := by
 rw [Bool.eq_iff_iff, ← rightD_iff, ← rightD_iff]
 exact right_er l
theorem rightF_dt {o : Rec} (h : rightF o = true) : o.dt.size ≤ 64 := by
 unfold rightF at h
 simp only [Bool.and_eq_true] at h
 have h1 : datF (pData o.k) o.dt = true := by
   obtain ⟨_, h2⟩ := h
   simp_all
 unfold datF at h1
 split at h1
 · exact of_decide_eq_true h1
 · have := (ba_nil o.dt).1 h1
   rw [this]; decide
theorem rightF_k {o : Rec} (h : rightF o = true) : 1 ≤ o.k ∧ o.k ≤ 9 := by
 cases hp : pOk o.k with
 | true => exact pOk_lo hp
 | false => rw [right_no hp] at h; cases h
def Gd (n : Nat) (r : Int × List Nd) : Prop := (r.1 ≠ 0 → r.2 = []) ∧ r.2.length ≤ n
theorem Gd.err (n : Nat) (c : Int) : Gd n (c, []) := ⟨fun _ => rfl, Nat.zero_le _⟩
theorem Gd.ok {n : Nat} {L : List Nd} (h : L.length ≤ n) : Gd n (0, L) := ⟨fun h => absurd rfl h, h⟩
theorem Gd.ite {n : Nat} {c : Prop} [Decidable c] {a b : Int × List Nd} (h1 : Gd n a) (h2 : Gd n b) : Gd n (if c then a else b) := by split <;> assumption
theorem applyL_gd (l : List Nd) (o : Rec) : Gd (l.length + 3) (applyL l o) := by
 have s1 := fun (m : List Nd) (x : Nd) => setL_len m x
 have s2 := fun (m : List Nd) (x : Nd) => lessL_len m x
 unfold applyL
 refine Gd.ite ?_ (Gd.ite ?_ (Gd.ite ?_ (Gd.ite ?_ ?_)))
 · exact Gd.ite (Gd.err _ _) (Gd.ite (Gd.err _ _) (Gd.ite (Gd.err _ _) (Gd.ok (Nat.le_trans (s1 _ _) (by have := s1 l ((dirN (getF l o.dir)).kids none 0 (entL (dirN (getF l o.dir)).ks o.nm o.fid)); omega)))))
 · exact Gd.ite (Gd.err _ _) (Gd.ite (Gd.err _ _) (Gd.ite (Gd.err _ _) (Gd.ite (Gd.err _ _) (Gd.ite (Gd.err _ _) (Gd.ok (Nat.le_trans (s1 _ _) (by have := s1 l ((dirN (getF l o.dir)).kids none 0 (entL (dirN (getF l o.dir)).ks o.nm o.fid)); omega)))))))
 · exact Gd.ite (Gd.err _ _) (Gd.ite (Gd.err _ _) (Gd.ite (Gd.err _ _) (Gd.ite (Gd.err _ _) (Gd.ok (Nat.le_trans (s2 _ _) (by have := s1 l (((getF l o.dir).getD Nd.no).kids none 0 (entL ((getF l o.dir).getD Nd.no).ks o.nm 0)); omega))))))
 · refine Gd.ite (Gd.err _ _) (Gd.ite (Gd.err _ _) (Gd.ite (Gd.err _ _) (Gd.ite (Gd.ok (by omega)) (Gd.ite (Gd.err _ _) (Gd.ite (Gd.err _ _) (Gd.ite (Gd.err _ _) (Gd.ite (Gd.err _ _) (Gd.ok ?_))))))))
   have hf : ∀ q : Option Nd, (freeL l q).length ≤ l.length + 1 := fun q => by
     cases q with
     | none => simp [freeL]
     | some x => exact s2 l x
   unfold movedL
   refine Nat.le_trans (s1 _ _) ?_
   refine Nat.le_trans (Nat.succ_le_succ (s1 _ _)) ?_
   have := hf (getF l (kidI (dirN (getF l o.to)).ks o.nm2))
   omega
 · exact Gd.ite (Gd.err _ _) (Gd.ite (Gd.ok (by have := s1 l ⟨((getF l o.fid).getD Nd.no).fid, ((getF l o.fid).getD Nd.no).k, o.md, ((getF l o.fid).getD Nd.no).ln, none, 0, ((getF l o.fid).getD Nd.no).zs, none, 0, ((getF l o.fid).getD Nd.no).ks⟩; omega)) (Gd.ite (Gd.err _ _) (Gd.ite (Gd.err _ _) (Gd.ok (by have := s1 l ⟨((getF l o.fid).getD Nd.no).fid, ((getF l o.fid).getD Nd.no).k, ((getF l o.fid).getD Nd.no).md, ((getF l o.fid).getD Nd.no).ln, none, 0, txB o.dt, none, 0, ((getF l o.fid).getD Nd.no).ks⟩; omega)))))
theorem ApplyL_gd (l : List Nd) (o : Rec) : Gd 43 (ApplyL l o) := by
 unfold ApplyL
 split
 · rename_i h
   rw [Bool.and_eq_true] at h
   have h40 := (rightD_tok h.1).1.few
   obtain ⟨h1, h2⟩ := applyL_gd l o
   exact ⟨h1, by omega⟩
 · exact Gd.err _ _
def NsO (w : World) (base : Nat) (v : Value) (l : List Nd) : Prop := OwN w base v l ∧ ∀ x ∈ l, NdR w base x
theorem NsO.nil (w : World) (base : Nat) : NsO w base (.slice none 0 0) [] := ⟨OwN.nil _ _, fun x hx => by cases hx⟩
theorem NsO.later {w w' : World} {base : Nat} {v : Value} {l : List Nd} (h : NsO w base v l) (hb : Below w.heap.size w w') : NsO w' base v l := ⟨h.1.later hb, fun x hx => (h.2 x hx).later hb⟩
theorem NsO.low {w : World} {base b : Nat} {v : Value} {l : List Nd} (h : NsO w base v l) (hb : b ≤ base) : NsO w b v l := ⟨own_low h.1 hb, fun x hx => (h.2 x hx).low hb⟩
theorem NsO.tr {w : World} {base : Nat} {v : Value} {l : List Nd} (h : NsO w base v l) (hm : l.length ≤ 100000) : ∃ a c, v = .slice a l.length c ∧ Tr w a l := Tr.of h.1 (fun x hx => (h.2 x hx).p) hm
def ResO (w : World) (r : Int × List Nd) (e : Ending) (w' : World) : Prop := ∃ v l', e = .returned (.tuple #[v, .int .i64 r.1]) ∧ NsO w' w.heap.size v l' ∧ l'.map Nd.er = r.2 ∧ Below w.heap.size w w'
theorem ResO.err {w w' : World} {r : Int × List Nd} {c : Int} (h : r = (c, [])) (hb : Below w.heap.size w w') : ResO w r (.returned (.tuple #[.slice none 0 0, .int .i64 c])) w' := ⟨_, [], by rw [h], NsO.nil _ _, by rw [h]; rfl, hb⟩
set_option maxHeartbeats 4000000 in
theorem rApply_c (a : Option Addr) (cap : Nat) (l : List Nd) (o : Rec) (w : World) (h : Tr w a l) (hm : l.length ≤ 900) (ho : o.Wf) :
   Calls Tryz.prog 12 #[.slice a l.length cap, o.opV] w (ResO w (ApplyL (l.map Nd.er) o)) := by
 obtain ⟨R, hR⟩ : ∃ R, R = ApplyL (l.map Nd.er) o := ⟨_, rfl⟩
 rw [← hR]
 unfold ApplyL at hR
 rw [rightD_er] at hR
 have GDR : Hid (rightD l = true → Gd 43 (applyL (l.map Nd.er) o)) := hid (fun h1 => ⟨(applyL_gd (l.map Nd.er) o).1, by have h2 := (applyL_gd (l.map Nd.er) o).2; rw [List.length_map] at h2; have := (rightD_tok h1).1.few; omega⟩)
 have RC := hid (fun W (hW : Below w.heap.size w W) => rRight_c a cap l W (h.later hW).1 (by omega))
 have OC := hid (fun W => rright_c o W ho)
 have AC : Hid (rightD l = true → rightF o = true → ∀ W, Below w.heap.size w W → Calls Tryz.prog 24 #[.slice a l.length cap, o.opV] W (ResT W (applyL (l.map Nd.er) o))) := hid (fun h1 h2 W hW => rapply_c a cap l o W (h.later hW) (rightD_tok h1).1 (rightD_tok h1).2 ho (by have := rightF_dt h2; omega) (rightF_k h2))
 have b0 := below_1 w (.cells o.ops.toArray 51)
 have h0 := heap_alloc_new w (.cells o.ops.toArray 51)
 have B0 := hid b0
 have OPL : Hid (∀ W, Below (w.alloc (.cells o.ops.toArray 51)).heap.size (w.alloc (.cells o.ops.toArray 51)) W → W.heap[w.heap.size]? = some (.cells o.ops.toArray 51)) := hid (fun W hW => (hW.block _ (lt_blkR h0)).trans h0)
 have HR := hid hR
 generalize rightD l = br at *
 generalize rightF o = bo at *
 generalize applyL (l.map Nd.er) o = r at *
 obtain ⟨k, fid, dir, nm, tof, nm2, md, dt, sn⟩ := o
 simp only [Rec.opV, Rec.ops] at *
 clear h b0 ho hR
 go_enter Tryz.func12, Tryz.ntmps12
 go_upto_region 1 with fail
 generalize w.alloc (.cells #[.int .u8 k, .int .u32 fid, .int .u32 dir, .string nm, .int .u32 tof, .string nm2, .int .u16 md, .string dt] 51) = V at *
 have FB : Hid (∀ W, Below V.heap.size V W → Below w.heap.size w W) := hid (fun W h => B0.out.trans (h.mono B0.out.size))
 have o0 : V.cell? ⟨w.heap.size, 0, none⟩ = some (.int .u8 k) := cell_of_row2 h0 0 rfl
 have o1 : V.cell? ⟨w.heap.size, 1, none⟩ = some (.int .u32 fid) := cell_of_row2 h0 1 rfl
 have o2 : V.cell? ⟨w.heap.size, 2, none⟩ = some (.int .u32 dir) := cell_of_row2 h0 2 rfl
 have o3 : V.cell? ⟨w.heap.size, 3, none⟩ = some (.string nm) := cell_of_row2 h0 3 rfl
 have o4 : V.cell? ⟨w.heap.size, 4, none⟩ = some (.int .u32 tof) := cell_of_row2 h0 4 rfl
 have o5 : V.cell? ⟨w.heap.size, 5, none⟩ = some (.string nm2) := cell_of_row2 h0 5 rfl
 have o6 : V.cell? ⟨w.heap.size, 6, none⟩ = some (.int .u16 md) := cell_of_row2 h0 6 rfl
 have o7 : V.cell? ⟨w.heap.size, 7, none⟩ = some (.string dt) := cell_of_row2 h0 7 rfl
 clear h0
 have RV := hid (RC.out V B0.out)
 cases br with
 | false =>
   have RE : Hid (R = (3, [])) := hid (by rw [HR.out]; rfl)
   clear HR RC OC AC
   go_wp2_with (go_at_call 10; refine RV.out.mono ?_; rintro _ w1 ⟨rfl, hb1⟩; have B1 := hid hb1; clear hb1)
   refine bodyPost_ret (v := .tuple #[.slice none 0 0, .int .i64 3]) (by simp [results, Tryz.results12, go_sem]) rfl (ResO.err RE.out (FB.out _ B1.out))
 | true =>
   cases bo with
   | false =>
     have RE : Hid (R = (3, [])) := hid (by rw [HR.out]; rfl)
     clear HR RC AC
     go_wp2_with (first
       | (go_at_call 23; refine (OC.out _).mono ?_; rintro _ w2 ⟨rfl, hb2⟩; have B2 := hid hb2; clear hb2)
       | (go_at_call 10; refine RV.out.mono ?_; rintro _ w1 ⟨rfl, hb1⟩; (have oh := OPL.out _ hb1); (have o0 : w1.cell? ⟨w.heap.size, 0, none⟩ = some (.int .u8 k) := cell_of_row2 oh 0 rfl); (have o1 : w1.cell? ⟨w.heap.size, 1, none⟩ = some (.int .u32 fid) := cell_of_row2 oh 1 rfl); (have o2 : w1.cell? ⟨w.heap.size, 2, none⟩ = some (.int .u32 dir) := cell_of_row2 oh 2 rfl); (have o3 : w1.cell? ⟨w.heap.size, 3, none⟩ = some (.string nm) := cell_of_row2 oh 3 rfl); (have o4 : w1.cell? ⟨w.heap.size, 4, none⟩ = some (.int .u32 tof) := cell_of_row2 oh 4 rfl); (have o5 : w1.cell? ⟨w.heap.size, 5, none⟩ = some (.string nm2) := cell_of_row2 oh 5 rfl); (have o6 : w1.cell? ⟨w.heap.size, 6, none⟩ = some (.int .u16 md) := cell_of_row2 oh 6 rfl); (have o7 : w1.cell? ⟨w.heap.size, 7, none⟩ = some (.string dt) := cell_of_row2 oh 7 rfl); clear oh ; have B1 := hid hb1; clear hb1))
     refine bodyPost_ret (v := .tuple #[.slice none 0 0, .int .i64 3]) (by simp [results, Tryz.results12, go_sem]) rfl (ResO.err RE.out (FB.out _ (B1.out.trans (B2.out.mono B1.out.size))))
   | true =>
     have RE : Hid (R = r) := hid (by rw [HR.out]; rfl)
     have GR := hid (GDR.out rfl)
     have AP := hid (AC.out rfl rfl)
     clear HR RC AC GDR
     go_upto_region 4 with (first
       | (go_at_call 24; refine (AP.out _ (FB.out _ C2.out)).mono ?_; intro e3 w3 h3; obtain ⟨a3, c3, l3, rfl, ht3, he3, hb3⟩ := h3; have T3 := hid ht3; have E3 := hid he3; have C3 := hid (C2.out.trans (hb3.mono C2.out.size)); clear ht3 he3 hb3)
       | (go_at_call 23; refine (OC.out _).mono ?_; rintro _ w2 ⟨rfl, hb2⟩; have C2 := hid (B1.out.trans (hb2.mono B1.out.size)); (have oh := OPL.out _ C2.out); (have o0 : w2.cell? ⟨w.heap.size, 0, none⟩ = some (.int .u8 k) := cell_of_row2 oh 0 rfl); (have o1 : w2.cell? ⟨w.heap.size, 1, none⟩ = some (.int .u32 fid) := cell_of_row2 oh 1 rfl); (have o2 : w2.cell? ⟨w.heap.size, 2, none⟩ = some (.int .u32 dir) := cell_of_row2 oh 2 rfl); (have o3 : w2.cell? ⟨w.heap.size, 3, none⟩ = some (.string nm) := cell_of_row2 oh 3 rfl); (have o4 : w2.cell? ⟨w.heap.size, 4, none⟩ = some (.int .u32 tof) := cell_of_row2 oh 4 rfl); (have o5 : w2.cell? ⟨w.heap.size, 5, none⟩ = some (.string nm2) := cell_of_row2 oh 5 rfl); (have o6 : w2.cell? ⟨w.heap.size, 6, none⟩ = some (.int .u16 md) := cell_of_row2 oh 6 rfl); (have o7 : w2.cell? ⟨w.heap.size, 7, none⟩ = some (.string dt) := cell_of_row2 oh 7 rfl); clear oh hb2)
       | (go_at_call 10; refine RV.out.mono ?_; rintro _ w1 ⟨rfl, hb1⟩; (have oh := OPL.out _ hb1); (have o0 : w1.cell? ⟨w.heap.size, 0, none⟩ = some (.int .u8 k) := cell_of_row2 oh 0 rfl); (have o1 : w1.cell? ⟨w.heap.size, 1, none⟩ = some (.int .u32 fid) := cell_of_row2 oh 1 rfl); (have o2 : w1.cell? ⟨w.heap.size, 2, none⟩ = some (.int .u32 dir) := cell_of_row2 oh 2 rfl); (have o3 : w1.cell? ⟨w.heap.size, 3, none⟩ = some (.string nm) := cell_of_row2 oh 3 rfl); (have o4 : w1.cell? ⟨w.heap.size, 4, none⟩ = some (.int .u32 tof) := cell_of_row2 oh 4 rfl); (have o5 : w1.cell? ⟨w.heap.size, 5, none⟩ = some (.string nm2) := cell_of_row2 oh 5 rfl); (have o6 : w1.cell? ⟨w.heap.size, 6, none⟩ = some (.int .u16 md) := cell_of_row2 oh 6 rfl); (have o7 : w1.cell? ⟨w.heap.size, 7, none⟩ = some (.string dt) := cell_of_row2 oh 7 rfl); clear oh; have B1 := hid hb1; clear hb1))
     clear RV OC AP
     obtain ⟨re, rl⟩ := r
     simp only at E3
     by_cases q : re = 0
     · subst q
       have hl3 : l3.length ≤ 43 := by have := GR.out.2; simp only at this; rw [← E3.out, List.length_map] at this; exact this
       have CC := hid (rcopied_c a3 c3 l3 w3 T3.out.1 (by omega) T3.out.2)
       go_wp2_with (go_at_call 11; refine CC.out.mono ?_; intro e4 w4 h4; obtain ⟨v4, L4, rfl, ho4, he4, hr4, hb4⟩ := h4)
       obtain ⟨a4, c4, hv4⟩ := ho4.shape
       have N4 : Hid (NsO w4 w.heap.size v4 L4) := hid ((show NsO w4 w3.heap.size v4 L4 from ⟨ho4, hr4⟩).low (FB.out _ C3.out).size)
       subst hv4
       refine bodyPost_ret (v := .tuple #[.slice a4 L4.length c4, .int .i64 0]) (by simp [results, Tryz.results12, go_sem]) rfl ⟨_, L4, by rw [RE.out], N4.out, ?_, FB.out _ (C3.out.trans (hb4.mono C3.out.size))⟩
       rw [RE.out, he4, E3.out]
     · have qB : (re != 0) = true := by simp [q]
       have RE2 : Hid (R = (re, [])) := hid (by rw [RE.out]; have := GR.out.1 q; simp only at this; rw [this])
       go_wp2
       refine bodyPost_ret (v := .tuple #[.slice none 0 0, .int .i64 re]) (by simp [results, Tryz.results12, go_sem]) rfl (ResO.err RE2.out (FB.out _ C3.out))
end Go.Proofs.YtkokjkaclcjnjaaGreatDoor
