/-
  the document's Alone. (Written by nodebase.py out of the record's texts.)
-/
import Derived.Test.YtkokjkaclcjnjaaGreatDoorPtAw
import Derived.ChangeArms
import Derived.ChangeOld
import Derived.Below
import Derived.Deep.CutRange
import Derived.Laws.AppendOwnNone
import Derived.Deep.RegionLaw
import Derived.Deep.LoopGhost
import Derived.Laws.BitsLemmas
import Derived.Shelf.Abstract
import Derived.Defers
import Derived.Recover
import Derived.Laws.Pointers
import Derived.Deep.QuietTactic
import Derived.Maps.OwnOps
import Derived.Maps.Views
import Derived.DeepKeys4
import Derived.RegionTactic
import Derived.ChangeAlike
import Derived.BigRegion
import Derived.BigQuiet
import Derived.Laws.IdiomStrings
namespace Go.Proofs.YtkokjkaclcjnjaaGreatDoor
open Go.RowKit Go.ChangeShapes Go.WideShapes Go.ChangeAt Go.Maps Go.Shelf
set_option linter.unusedVariables false
set_option linter.unusedSimpArgs false
set_option maxRecDepth 100000
theorem le_nil {s : ByteArray} (h : Pa.nameB s.data.toList = true) : leS s ⟨#[]⟩ = false := by
 have h1 : s.toList ≠ [] := fun e => by
   rw [Lib.toList_data] at e
   rw [e] at h
   exact absurd h (by decide)
 unfold leS
 have e0 : (⟨#[]⟩ : ByteArray).toList = [] := by rw [Lib.toList_data]
 rw [e0]
 cases q : s.toList with
 | nil => exact absurd q h1
 | cons a t => rfl
theorem kOk_zero (l : List Kd) : kOk l 0 = (Pa.nameB (l.getD 0 Kd.no).nm.data.toList && (l.getD 0 Kd.no).fid != 0) := by
 unfold kOk
 cases q : Pa.nameB (l.getD 0 Kd.no).nm.data.toList with
 | false => rfl
 | true =>
   have : leS (l.getD 0 Kd.no).nm (lastK l 0) = false := le_nil q
   rw [this]; simp
set_option maxHeartbeats 8000000 in
theorem alone_c (x : Nd) (w : World) (h : x.Ok w) :
   Calls Tryz.prog 21 #[x.val] w fun e w' => e = .returned (.bool (nodeOk x)) ∧ Below w.heap.size w w' := by
 obtain ⟨_, ⟨kl, kh⟩, _, _, hB, hK⟩ := h
 have hx : (w.alloc (.cells x.cells.toArray 37)).heap[w.heap.size]? = some (.cells x.cells.toArray 37 (0, 0)) := heap_alloc_new w _
 obtain ⟨y0, y1, y2, y3, y4, y5⟩ := nd_cells hx
 have b0 := below_1 w (.cells x.cells.toArray 37)
 have B0 := hid b0
 have HX := hid hx
 have HKS := hid (hK.later b0)
 have hzV : (w.alloc (.cells x.cells.toArray 37)).heap.size = w.heap.size + 1 := by simp
 have ZV := hid (Nat.le_of_eq hzV.symm)
 obtain ⟨nk, hnk⟩ : ∃ nk, nk = nodeOk x := ⟨_, rfl⟩
 rw [← hnk]
 unfold nodeOk at hnk
 have HE := hid hnk
 clear hx b0 hB hK hnk hzV
 obtain ⟨fid, k, md, ln, da, dc, zs, ka, kc, ks⟩ := x
 simp only [Nd.val, Nd.cells] at *
 cases q1 : (fid == 0) with
 | true =>
   rw [q1] at HE
   go_enter Tryz.func21, Tryz.ntmps21
   go_wp2
   go_ret
   exact ⟨ret_bool' (by rw [HE.out]; rfl), B0.out⟩
 | false =>
   rw [q1] at HE
   by_cases k1 : k < 1
   · have r1 : (k == 1) = false := beq_eq_false_iff_ne.2 (by omega)
     have r2 : (k == 2) = false := beq_eq_false_iff_ne.2 (by omega)
     have r3 : (k == 3) = false := beq_eq_false_iff_ne.2 (by omega)
     rw [r1, r2, r3] at HE
     clear r1 r2 r3
     go_enter Tryz.func21, Tryz.ntmps21
     go_wp2
     go_ret
     exact ⟨ret_bool' (by rw [HE.out]; simp), B0.out⟩
   · by_cases k3 : 3 < k
     · have r1 : (k == 1) = false := beq_eq_false_iff_ne.2 (by omega)
       have r2 : (k == 2) = false := beq_eq_false_iff_ne.2 (by omega)
       have r3 : (k == 3) = false := beq_eq_false_iff_ne.2 (by omega)
       rw [r1, r2, r3] at HE
       clear r1 r2 r3
       go_enter Tryz.func21, Tryz.ntmps21
       go_wp2
       go_ret
       exact ⟨ret_bool' (by rw [HE.out]; simp), B0.out⟩
     · by_cases q2 : 64 < zs.length
       · have q2I : (64 : Int) < zs.length := by omega
         rw [decide_eq_true q2] at HE
         go_enter Tryz.func21, Tryz.ntmps21
         go_wp2
         go_ret
         exact ⟨ret_bool' (by rw [HE.out]; rfl), B0.out⟩
       · have q2I : ¬ (64 : Int) < zs.length := by omega
         rw [decide_eq_false q2] at HE
         by_cases q3 : 12 < ks.length
         · have q3I : (12 : Int) < ks.length := by omega
           rw [decide_eq_true q3] at HE
           go_enter Tryz.func21, Tryz.ntmps21
           go_wp2
           go_ret
           exact ⟨ret_bool' (by rw [HE.out]; rfl), B0.out⟩
         · have q3I : ¬ (12 : Int) < ks.length := by omega
           rw [decide_eq_false q3] at HE
           by_cases k2 : k = 2
           · subst k2
             by_cases q4 : zs.length = 0
             · have q4B : ((zs.length : Int) != 0) = false := by rw [q4]; rfl
               have HE2 : Hid (nk = kidsOk ks) := hid (by rw [HE.out, decide_eq_true q4]; rfl)
               clear HE q4
               go_enter Tryz.func21, Tryz.ntmps21
               go_wp2
               generalize (w.alloc (.cells #[.int .u32 fid, .int .u8 2, .int .u16 md, .int .u16 ln, .slice da zs.length dc, .slice ka ks.length kc] 37)) = V at *
               go_loopg [3] ks.length (fun gk i wr => ∃ m : Nat, m + gk = ks.length ∧ i = .int .i64 m ∧ Hid (Below V.heap.size V wr) ∧ Hid (kidsTo ks m = true))
               case atStart => exact ⟨0, by omega, rfl, hid (Below.refl _ _), hid rfl⟩
               case round =>
                 obtain ⟨m, hm2, rfl, HB, HK⟩ := hrel
                 clear y0 y1 y2 y3 y4 y5
                 have z5 := (nd_cells (x := ⟨fid, 2, md, ln, da, dc, zs, ka, kc, ks⟩) ((HB.out.block _ (lt_blkR HX.out)).trans HX.out)).2.2.2.2.2
                 simp only at z5
                 have l5 : ∀ w', Below wr.heap.size wr w' → w'.cell? ⟨w.heap.size, 5, none⟩ = some (.slice ka ks.length kc) := fun w' h => cell_later h z5
                 by_cases hlt : m < ks.length
                 · have hltI : (m : Int) < ks.length := by omega
                   have h0I : (0 : Int) ≤ m := by omega
                   have hK := HKS.out.later HB.out
                   obtain ⟨b, off, rfl, _⟩ := hK.2.2 (by omega)
                   obtain ⟨c0, c1⟩ := hK.at (i := m) hlt
                   have hwf := hK.wf (i := m) hlt
                   have NC := hid (fun W => rname_c (ks.getD m Kd.no).nm W hwf.1)
                   have NO := hid (kidsOk_no (l := ks) (m := m) hlt)
                   have NX : Hid (kOk ks m = true → kidsTo ks (m + 1) = true) := hid (fun h => by simp [kidsTo, HK.out, h])
                   by_cases hm0 : m = 0
                   · subst hm0
                     rw [kOk_zero] at NO NX
                     clear hK hwf
                     generalize ks.getD 0 Kd.no = y at *
                     have l0 : ∀ w', Below wr.heap.size wr w' → w'.cell? ⟨b, off, none⟩ = some (.string y.nm) := fun w' h => cell_later h (by simpa using c0)
                     have l1 : ∀ w', Below wr.heap.size wr w' → w'.cell? ⟨b, off + 1, none⟩ = some (.int .u32 y.fid) := fun w' h => cell_later h (by simpa using c1)
                     clear c0 c1
                     cases p1 : Pa.nameB y.nm.data.toList with
                     | false =>
                       rw [p1] at NC NO
                       have EF := hid (HE2.out.trans (NO.out rfl))
                       clear NO NX
                       go_wp2
                       refine wp_region_class (by kernel_rfl) (by kernel_rfl) ?_
                       repeat (first
                         | go_big_quiet_skip
                         | (go_big_quiet_want
                            apply quiet_by
                            · intro w1 hw1
                              go_simp
                              first
                                | rfl
                                | (go_at_call 35; exact class_same hw1 (NC.out _))
                            · go_simp; rfl
                            go_big_quiet_on))
                       refine wpQuiet_nil ?_
                       intro w2 hw2
                       go_wp2
                       go_ret
                       exact ⟨ret_bool' EF.out.symm, B0.out.trans ((HB.out.trans (hw2.mono HB.out.size)).mono B0.out.size)⟩
                     | true =>
                       rw [p1] at NC NO NX
                       cases p3 : (y.fid == 0) with
                       | true =>
                         have EF := hid (HE2.out.trans (NO.out (by simp [bne, p3])))
                         clear NO NX
                         go_wp2
                         refine wp_region_class (by kernel_rfl) (by kernel_rfl) ?_
                         repeat (first
                           | go_big_quiet_skip
                           | (go_big_quiet_want
                              apply quiet_by
                              · intro w1 hw1
                                go_simp
                                first
                                  | rfl
                                  | (go_at_call 35; exact class_same hw1 (NC.out _))
                              · go_simp; rfl
                              go_big_quiet_on))
                         refine wpQuiet_nil ?_
                         intro w2 hw2
                         go_wp2
                         go_ret
                         exact ⟨ret_bool' EF.out.symm, B0.out.trans ((HB.out.trans (hw2.mono HB.out.size)).mono B0.out.size)⟩
                       | false =>
                         have ET := hid (NX.out (by simp [bne, p3]))
                         clear NO NX
                         go_wp2
                         refine wp_region_class (by kernel_rfl) (by kernel_rfl) ?_
                         repeat (first
                           | go_big_quiet_skip
                           | (go_big_quiet_want
                              apply quiet_by
                              · intro w1 hw1
                                go_simp
                                first
                                  | rfl
                                  | (go_at_call 35; exact class_same hw1 (NC.out _))
                              · go_simp; rfl
                              go_big_quiet_on))
                         refine wpQuiet_nil ?_
                         intro w2 hw2
                         go_wp2
                         go_roundg (gk - 1)
                         case measure => omega
                         case rel => exact ⟨0 + 1, by omega, by go_num, hid (HB.out.trans (hw2.mono HB.out.size)), ET⟩
                   · obtain ⟨p, hp⟩ : ∃ p, m = p + 1 := ⟨m - 1, by omega⟩
                     have hpl : p < ks.length := by omega
                     obtain ⟨d0, _⟩ := hK.at (i := p) hpl
                     have hpI : (p : Int) < ks.length := by omega
                     have hp0I : (0 : Int) ≤ p := by omega
                     have hmI : (0 : Int) < m := by omega
                     have hmN : 0 < m := by omega
                     have hmD : decide ((0 : Int) < (m : Int)) = true := decide_eq_true hmI
                     have hmE : decide (0 < m) = true := decide_eq_true hmN
                     have hmZ : ¬ m = 0 := by omega
                     have wm : IntKind.i64.wrap ((m : Int) - 1) = (p : Int) := by rw [IntKind.wrap_i64]; omega
                     have LK : lastK ks m = (ks.getD p Kd.no).nm := by rw [hp]; exact lastK_next ks p
                     unfold kOk at NO NX
                     rw [LK] at NO NX
                     have HMP := hid hp
                     clear hK hwf hp LK hm0 hpl
                     generalize ks.getD m Kd.no = y at *
                     generalize ks.getD p Kd.no = z at *
                     have l0 : ∀ w', Below wr.heap.size wr w' → w'.cell? ⟨b, off + m * 2, none⟩ = some (.string y.nm) := fun w' h => cell_later h c0
                     have l1 : ∀ w', Below wr.heap.size wr w' → w'.cell? ⟨b, off + m * 2 + 1, none⟩ = some (.int .u32 y.fid) := fun w' h => cell_later h c1
                     have l2 : ∀ w', Below wr.heap.size wr w' → w'.cell? ⟨b, off + p * 2, none⟩ = some (.string z.nm) := fun w' h => cell_later h d0
                     clear c0 c1 d0
                     unfold leS at NO NX
                     cases p1 : Pa.nameB y.nm.data.toList with
                     | false =>
                       rw [p1] at NC NO
                       have EF := hid (HE2.out.trans (NO.out rfl))
                       clear NO NX
                       go_wp2
                       refine wp_region_class (by kernel_rfl) (by kernel_rfl) ?_
                       repeat (first
                         | go_big_quiet_skip
                         | (go_big_quiet_want
                            apply quiet_by
                            · intro w1 hw1
                              go_simp
                              first
                                | rfl
                                | (go_at_call 35; exact class_same hw1 (NC.out _))
                            · go_simp; rfl
                            go_big_quiet_on))
                       refine wpQuiet_nil ?_
                       intro w2 hw2
                       go_wp2
                       go_ret
                       exact ⟨ret_bool' EF.out.symm, B0.out.trans ((HB.out.trans (hw2.mono HB.out.size)).mono B0.out.size)⟩
                     | true =>
                       rw [p1] at NC NO NX
                       cases p3 : (y.fid == 0) with
                       | true =>
                         have EF := hid (HE2.out.trans (NO.out (by simp [bne, p3])))
                         clear NO NX
                         go_wp2
                         refine wp_region_class (by kernel_rfl) (by kernel_rfl) ?_
                         repeat (first
                           | go_big_quiet_skip
                           | (go_big_quiet_want
                              apply quiet_by
                              · intro w1 hw1
                                go_simp
                                first
                                  | rfl
                                  | (go_at_call 35; exact class_same hw1 (NC.out _))
                              · go_simp; rfl
                              go_big_quiet_on))
                         refine wpQuiet_nil ?_
                         intro w2 hw2
                         go_wp2
                         go_ret
                         exact ⟨ret_bool' EF.out.symm, B0.out.trans ((HB.out.trans (hw2.mono HB.out.size)).mono B0.out.size)⟩
                       | false =>
                         cases p2 : (Op.bytesLess y.nm.toList z.nm.toList || y.nm.toList == z.nm.toList) with
                         | true =>
                           rw [p2] at NO
                           have EF := hid (HE2.out.trans (NO.out (by simp)))
                           clear NO NX
                           go_wp2
                           refine wp_region_class (by kernel_rfl) (by kernel_rfl) ?_
                           repeat (first
                             | go_big_quiet_skip
                             | (go_big_quiet_want
                                apply quiet_by
                                · intro w1 hw1
                                  go_simp
                                  first
                                    | rfl
                                    | (go_at_call 35; exact class_same hw1 (NC.out _))
                                · go_simp; rfl
                                go_big_quiet_on))
                           refine wpQuiet_nil ?_
                           intro w2 hw2
                           go_wp2
                           go_ret
                           exact ⟨ret_bool' EF.out.symm, B0.out.trans ((HB.out.trans (hw2.mono HB.out.size)).mono B0.out.size)⟩
                         | false =>
                           rw [p2] at NX
                           have ET := hid (NX.out (by simp [bne, p3]))
                           clear NO NX
                           go_wp2
                           refine wp_region_class (by kernel_rfl) (by kernel_rfl) ?_
                           repeat (first
                             | go_big_quiet_skip
                             | (go_big_quiet_want
                                apply quiet_by
                                · intro w1 hw1
                                  go_simp
                                  first
                                    | rfl
                                    | (go_at_call 35; exact class_same hw1 (NC.out _))
                                · go_simp; rfl
                                go_big_quiet_on))
                           refine wpQuiet_nil ?_
                           intro w2 hw2
                           go_wp2
                           go_roundg (gk - 1)
                           case measure => omega
                           case rel => exact ⟨m + 1, by omega, by go_num, hid (HB.out.trans (hw2.mono HB.out.size)), ET⟩
                 · have em : m = ks.length := by omega
                   have hge : ¬ (m : Int) < ks.length := by omega
                   have EF : Hid (nk = true) := hid (by rw [HE2.out]; unfold kidsOk; rw [← em]; exact HK.out)
                   go_wp2
                   go_ret
                   exact ⟨ret_bool' EF.out.symm, B0.out.trans (HB.out.mono B0.out.size)⟩
             · have q4B : ((zs.length : Int) != 0) = true := by rw [bne_iff_ne]; omega
               rw [decide_eq_false q4] at HE
               go_enter Tryz.func21, Tryz.ntmps21
               go_wp2
               go_ret
               exact ⟨ret_bool' (by rw [HE.out]; rfl), B0.out⟩
           · have k2B : (k == 2) = false := beq_eq_false_iff_ne.2 k2
             have k2N : (k != 2) = true := by rw [bne_iff_ne]; exact k2
             have k13 : (k == 1 || k == 3) = true := by
               rw [Bool.or_eq_true, beq_iff_eq, beq_iff_eq]; omega
             by_cases q5 : ks.length = 0
             · have q5B : ((ks.length : Int) != 0) = false := by rw [q5]; rfl
               have q5L : ¬ (0 : Int) < ks.length := by omega
               have HE2 : Hid (nk = true) := hid (by rw [HE.out, k13, decide_eq_true q5]; rfl)
               clear q5 k13 HE
               go_enter Tryz.func21, Tryz.ntmps21
               go_wp2
               go_loopg [3] 1 (fun gk i wr => i = .int .i64 0 ∧ wr = w.alloc (.cells #[.int .u32 fid, .int .u8 k, .int .u16 md, .int .u16 ln, .slice da zs.length dc, .slice ka ks.length kc] 37))
               case atStart => exact ⟨rfl, rfl⟩
               case round =>
                 obtain ⟨rfl, rfl⟩ := hrel
                 go_wp2
                 go_ret
                 exact ⟨ret_bool' HE2.out.symm, B0.out⟩
             · have q5B : ((ks.length : Int) != 0) = true := by rw [bne_iff_ne]; omega
               rw [k13, decide_eq_false q5] at HE
               clear k13
               go_enter Tryz.func21, Tryz.ntmps21
               go_wp2
               go_ret
               exact ⟨ret_bool' (by rw [HE.out]; rfl), B0.out⟩
end Go.Proofs.YtkokjkaclcjnjaaGreatDoor
