/-
  Nodes: what lies in memory, what came in; rightKids, rightNode of the package record.
-/
import Derived.Test.YthoaiapfjbgfhaaDoorLiBf
import Derived.Test.YthoaiapfjbgfhaaDoorLiAk
namespace Go.Proofs.YthoaiapfjbgfhaaDoor
open Go.RowKit Go.ChangeShapes Go.WideShapes Go.ChangeAt
set_option linter.unusedVariables false
set_option linter.unusedSimpArgs false
set_option maxRecDepth 100000
set_option maxHeartbeats 4000000 in
theorem rightKids_c (a : Option Addr) (cap : Nat) (l : List Kd) (w : World) (h : IsKs w a l) (hm : l.length ≤ 100000) :
   Calls Tryd.prog 80 #[.slice a l.length cap] w fun e w' => e = .returned (.bool (kidsOk l)) ∧ Below w.heap.size w w' := by
 have H := hid h
 clear h
 obtain ⟨n, hn⟩ : ∃ n, n = l.length := ⟨_, rfl⟩
 rw [← hn] at hm ⊢
 have HN := hid hn
 clear hn
 go_enter Tryd.func80, Tryd.ntmps80
 go_wp2
 go_loopg [3, 8] n (fun gk v i wr => ∃ m : Nat, m + gk = n ∧ i = .int .i64 m ∧ v = .string (lastK l m) ∧ Hid (Below w.heap.size w wr) ∧ Hid (kidsTo l m = true))
 case atStart => exact ⟨0, by omega, rfl, rfl, hid (Below.refl _ _), hid rfl⟩
 case round =>
   obtain ⟨m, hm2, rfl, rfl, HB, HK⟩ := hrel
   by_cases hlt : m < n
   · have hltI : (m : Int) < n := by omega
     have hln : m < l.length := by rw [← HN.out]; exact hlt
     obtain ⟨b, off, rfl, _⟩ := H.out.2.2 (by omega)
     have hK := H.out.later HB.out
     obtain ⟨k0, k1⟩ := hK.at (i := m) hln
     have hwf := hK.wf (i := m) hln
     have NO := hid (kidsOk_no (l := l) (m := m) hln)
     have NX : Hid (kOk l m = true → kidsTo l (m + 1) = true) := hid (fun h => by simp [kidsTo, HK.out, h])
     have LX := hid (lastK_next l m)
     unfold kOk at NO NX
     clear hK hln
     generalize l.getD m Kd.no = x at *
     have NC := hid (name_c x.nm (wr.alloc (.cells #[.string x.nm, .int .u32 x.fid] 71)) hwf.1)
     have hbx := heap_alloc_new wr (.cells #[.string x.nm, .int .u32 x.fid] 71)
     have HX := hid hbx
     have BA := hid (HB.out.trans ((below_1 wr (.cells #[.string x.nm, .int .u32 x.fid] 71)).mono HB.out.size))
     clear hbx hwf
     generalize hlast : lastK l m = lst at *
     clear hlast
     unfold leS at NO NX
     cases q1 : Pa.nameB x.nm.data.toList with
     | false =>
       rw [q1] at NC NO
       have EF := hid (NO.out rfl)
       clear NO NX
       go_wp2_with (go_at_call 103; refine NC.out.mono ?_; rintro _ w1 ⟨rfl, hb1⟩)
       go_ret
       exact ⟨ret_bool' EF.out.symm, BA.out.trans (hb1.mono BA.out.size)⟩
     | true =>
       rw [q1] at NC NO NX
       cases q2 : (Op.bytesLess x.nm.toList lst.toList || x.nm.toList == lst.toList) with
       | true =>
         rw [q2] at NO
         have EF := hid (NO.out (by simp))
         clear NO NX
         go_wp2_with (go_at_call 103; refine NC.out.mono ?_; rintro _ w1 ⟨rfl, hb1⟩; (have c0 : w1.cell? ⟨wr.heap.size, 0, none⟩ = some (.string x.nm) := cell_of_row2 ((hb1.block _ (lt_blkR HX.out)).trans HX.out) 0 rfl))
         all_goals go_ret
         all_goals exact ⟨ret_bool' EF.out.symm, BA.out.trans (hb1.mono BA.out.size)⟩
       | false =>
         rw [q2] at NO NX
         cases q3 : (x.fid == 0) with
         | true =>
           have EF := hid (NO.out (by simp [bne, q3]))
           clear NO NX
           go_wp2_with (go_at_call 103; refine NC.out.mono ?_; rintro _ w1 ⟨rfl, hb1⟩; (have c0 : w1.cell? ⟨wr.heap.size, 0, none⟩ = some (.string x.nm) := cell_of_row2 ((hb1.block _ (lt_blkR HX.out)).trans HX.out) 0 rfl); (have c1 : w1.cell? ⟨wr.heap.size, 1, none⟩ = some (.int .u32 x.fid) := cell_of_row2 ((hb1.block _ (lt_blkR HX.out)).trans HX.out) 1 rfl))
           all_goals go_ret
           all_goals exact ⟨ret_bool' EF.out.symm, BA.out.trans (hb1.mono BA.out.size)⟩
         | false =>
           have ET := hid (NX.out (by simp [bne, q3]))
           clear NO NX
           go_wp2_with (go_at_call 103; refine NC.out.mono ?_; rintro _ w1 ⟨rfl, hb1⟩; (have c0 : w1.cell? ⟨wr.heap.size, 0, none⟩ = some (.string x.nm) := cell_of_row2 ((hb1.block _ (lt_blkR HX.out)).trans HX.out) 0 rfl); (have c1 : w1.cell? ⟨wr.heap.size, 1, none⟩ = some (.int .u32 x.fid) := cell_of_row2 ((hb1.block _ (lt_blkR HX.out)).trans HX.out) 1 rfl))
           go_roundg (gk - 1)
           case measure => omega
           case rel => exact ⟨m + 1, by omega, by go_num, by rw [LX.out], hid (BA.out.trans (hb1.mono BA.out.size)), ET⟩
   · have em : m = n := by omega
     have hge : ¬ (m : Int) < n := by omega
     have EF : Hid (kidsOk l = true) := hid (by unfold kidsOk; rw [← HN.out, ← em]; exact HK.out)
     go_wp2
     go_ret
     exact ⟨ret_bool' EF.out.symm, HB.out⟩
set_option maxHeartbeats 4000000 in
theorem rightNode_c (x : Nd) (w : World) (h : x.Ok w) :
   Calls Tryd.prog 50 #[x.val] w fun e w' => e = .returned (.bool (nodeOk x)) ∧ Below w.heap.size w w' := by
 obtain ⟨_, _, _, _, hB, hK⟩ := h
 have hx : (w.alloc (.cells x.cells.toArray 35)).heap[w.heap.size]? = some (.cells x.cells.toArray 35 (0, 0)) := heap_alloc_new w _
 obtain ⟨y0, y1, y2, y3, y4, y5⟩ := nd_cells hx
 have b0 := below_1 w (.cells x.cells.toArray 35)
 have B0 := hid b0
 have RK := hid (fun (hm : x.ks.length ≤ 100000) => rightKids_c x.ka x.kc x.ks (w.alloc (.cells x.cells.toArray 35)) (hK.later b0) hm)
 obtain ⟨nk, hnk⟩ : ∃ nk, nk = nodeOk x := ⟨_, rfl⟩
 rw [← hnk]
 unfold nodeOk at hnk
 have HE := hid hnk
 clear hx b0 hB hK hnk
 obtain ⟨fid, k, md, ln, da, dc, zs, ka, kc, ks⟩ := x
 simp only [Nd.val, Nd.cells] at *
 cases q1 : (fid == 0) with
 | true =>
   rw [q1] at HE
   go_enter Tryd.func50, Tryd.ntmps50
   go_wp2
   go_ret
   exact ⟨ret_bool' (by rw [HE.out]; rfl), B0.out⟩
 | false =>
   rw [q1] at HE
   by_cases q2 : 64 < zs.length
   · have q2I : (64 : Int) < zs.length := by omega
     rw [decide_eq_true q2] at HE
     go_enter Tryd.func50, Tryd.ntmps50
     go_wp2
     go_ret
     exact ⟨ret_bool' (by rw [HE.out]; rfl), B0.out⟩
   · have q2I : ¬ (64 : Int) < zs.length := by omega
     rw [decide_eq_false q2] at HE
     by_cases q3 : 12 < ks.length
     · have q3I : (12 : Int) < ks.length := by omega
       rw [decide_eq_true q3] at HE
       go_enter Tryd.func50, Tryd.ntmps50
       go_wp2
       go_ret
       exact ⟨ret_bool' (by rw [HE.out]; rfl), B0.out⟩
     · have q3I : ¬ (12 : Int) < ks.length := by omega
       rw [decide_eq_false q3] at HE
       have RK2 := hid (RK.out (by omega))
       clear RK
       by_cases e1 : k = 1
       · subst e1
         go_enter Tryd.func50, Tryd.ntmps50
         go_wp2
         go_ret
         exact ⟨ret_bool' (by rw [HE.out]; first | rfl | (simp; done) | (rw [Bool.eq_iff_iff]; simp; done)), B0.out⟩
       · by_cases e3 : k = 3
         · subst e3
           go_enter Tryd.func50, Tryd.ntmps50
           go_wp2
           go_ret
           exact ⟨ret_bool' (by rw [HE.out]; first | rfl | (simp; done) | (rw [Bool.eq_iff_iff]; simp; done)), B0.out⟩
         · by_cases e2 : k = 2
           · subst e2
             by_cases q4 : zs.length = 0
             · have q4B : ((zs.length : Int) == 0) = true := by rw [q4]; rfl
               rw [decide_eq_true q4] at HE
               clear q4
               go_enter Tryd.func50, Tryd.ntmps50
               go_wp2_with (go_at_call 80; refine RK2.out.mono ?_; rintro _ w1 ⟨rfl, hb1⟩)
               go_ret
               exact ⟨ret_bool' (by rw [HE.out]; first | rfl | simp), B0.out.trans (hb1.mono B0.out.size)⟩
             · have q4B : ((zs.length : Int) == 0) = false := beq_eq_false_iff_ne.2 (by omega)
               rw [decide_eq_false q4] at HE
               go_enter Tryd.func50, Tryd.ntmps50
               go_wp2
               go_ret
               exact ⟨ret_bool' (by rw [HE.out]; first | rfl | (simp; done) | (rw [Bool.eq_iff_iff]; simp; done)), B0.out⟩
           · have r1 : (k == 1) = false := beq_eq_false_iff_ne.2 e1
             have r2 : (k == 2) = false := beq_eq_false_iff_ne.2 e2
             have r3 : (k == 3) = false := beq_eq_false_iff_ne.2 e3
             rw [r1, r2, r3] at HE
             go_enter Tryd.func50, Tryd.ntmps50
             go_wp2
             go_ret
             exact ⟨ret_bool' (by rw [HE.out]; first | rfl | (simp; done) | (rw [Bool.eq_iff_iff]; simp; done)), B0.out⟩
end Go.Proofs.YthoaiapfjbgfhaaDoor
