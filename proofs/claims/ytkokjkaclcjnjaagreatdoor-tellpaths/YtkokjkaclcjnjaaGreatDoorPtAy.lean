/-
  The document's Right (backwaterref06).
-/
import Derived.Test.YtkokjkaclcjnjaaGreatDoorPtAl
import Derived.Test.YtkokjkaclcjnjaaGreatDoorPtAx
namespace Go.Proofs.YtkokjkaclcjnjaaGreatDoor
open Go.RowKit Go.ChangeShapes Go.WideShapes Go.ChangeAt Go.Maps Go.Shelf
set_option linter.unusedVariables false
set_option linter.unusedSimpArgs false
set_option maxRecDepth 100000
def dKid (l : List Nd) (ks : List Kd) : Nat → Bool
 | 0 => true
 | m + 1 => dKid l ks m && (hasF l (ks.getD m Kd.no).fid && (ks.getD m Kd.no).fid != 1)
def dA (l : List Nd) (i : Nat) : Bool := nodeOk (l.getD i Nd.no) && decide (lastFd l i < (l.getD i Nd.no).fid)
def dOne (l : List Nd) (i : Nat) : Bool := dA l i && dKid l (l.getD i Nd.no).ks (l.getD i Nd.no).ks.length
def dTo (l : List Nd) : Nat → Bool
 | 0 => true
 | m + 1 => dTo l m && dOne l m
def rtB (x : Nd) : Bool := x.fid == 1 && (x.k == 2 && x.ln == 0)
def rtTo (l : List Nd) : Nat → Bool
 | 0 => false
 | m + 1 => rtTo l m || rtB (l.getD m Nd.no)
def lkA (c : Int) (x : Nd) : Bool := x.fid == 1 || !(decide (c < 1) || (c != x.ln || (x.k == 2 && c != 1)))
def lkU (l : List Nd) (x : Nd) : Bool := !(x.k == 2) || abN l 1 (l.length + 1) x.fid
def lkOne (l : List Nd) (x : Nd) : Bool := lkA ((kfs l).count x.fid : Int) x && lkU l x
def lkTo (l : List Nd) : Nat → Bool
 | 0 => true
 | m + 1 => lkTo l m && lkOne l (l.getD m Nd.no)
def rightD (l : List Nd) : Bool := decide (l.length ≤ 40) && (dTo l l.length && (rtTo l l.length && lkTo l l.length))
theorem dKid_no (l : List Nd) (ks : List Kd) (m : Nat) (h : (hasF l (ks.getD m Kd.no).fid && (ks.getD m Kd.no).fid != 1) = false) : ∀ d, dKid l ks (m + 1 + d) = false
 | 0 => by simp only [Nat.add_zero, dKid, h, Bool.and_false]
 | d + 1 => by rw [← Nat.add_assoc]; simp only [dKid, dKid_no l ks m h d, Bool.false_and]
theorem dKid_no2 {l : List Nd} {ks : List Kd} {m : Nat} (hm : m < ks.length) (h : (hasF l (ks.getD m Kd.no).fid && (ks.getD m Kd.no).fid != 1) = false) : dKid l ks ks.length = false := by
 obtain ⟨d, hd⟩ : ∃ d, ks.length = m + 1 + d := ⟨ks.length - (m + 1), by omega⟩
 rw [hd]; exact dKid_no l ks m h d
theorem dTo_no (l : List Nd) (m : Nat) (h : dOne l m = false) : ∀ d, dTo l (m + 1 + d) = false
 | 0 => by simp only [Nat.add_zero, dTo, h, Bool.and_false]
 | d + 1 => by rw [← Nat.add_assoc]; simp only [dTo, dTo_no l m h d, Bool.false_and]
theorem rightD_no1 {l : List Nd} {m : Nat} (hm : m < l.length) (h : dOne l m = false) : rightD l = false := by
 unfold rightD
 obtain ⟨d, hd⟩ : ∃ d, l.length = m + 1 + d := ⟨l.length - (m + 1), by omega⟩
 have : dTo l l.length = false := by rw [hd]; exact dTo_no l m h d
 rw [this]; simp
theorem lkTo_no (l : List Nd) (m : Nat) (h : lkOne l (l.getD m Nd.no) = false) : ∀ d, lkTo l (m + 1 + d) = false
 | 0 => by simp only [Nat.add_zero, lkTo, h, Bool.and_false]
 | d + 1 => by rw [← Nat.add_assoc]; simp only [lkTo, lkTo_no l m h d, Bool.false_and]
theorem rightD_no2 {l : List Nd} {m : Nat} (hm : m < l.length) (h : lkOne l (l.getD m Nd.no) = false) : rightD l = false := by
 unfold rightD
 obtain ⟨d, hd⟩ : ∃ d, l.length = m + 1 + d := ⟨l.length - (m + 1), by omega⟩
 have : lkTo l l.length = false := by rw [hd]; exact lkTo_no l m h d
 rw [this]; simp
theorem dTo_at {l : List Nd} : ∀ {m : Nat}, dTo l m = true → ∀ i, i < m → dOne l i = true
 | 0, _, i, hi => by omega
 | m + 1, h, i, hi => by
   unfold dTo at h
   rw [Bool.and_eq_true] at h
   by_cases e : i = m
   · subst e; exact h.2
   · exact dTo_at h.1 i (by omega)
theorem dTo_ok {l : List Nd} (h : dTo l l.length = true) : ∀ x ∈ l, nodeOk x = true := fun x hx => by
 obtain ⟨i, hi, rfl⟩ := List.getElem_of_mem hx
 have := dTo_at h i hi
 unfold dOne dA at this
 rw [Bool.and_eq_true, Bool.and_eq_true, show l.getD i Nd.no = l[i] by simp [List.getD, hi]] at this
 exact this.1.1
theorem nodeOk_few {x : Nd} (h : nodeOk x = true) : x.ks.length ≤ 12 := by
 unfold nodeOk at h
 simp only [Bool.and_eq_true, Bool.not_eq_true', Bool.or_eq_false_iff, decide_eq_false_iff_not] at h
 omega
theorem nodeOk_pos {x : Nd} (h : nodeOk x = true) : x.fid ≠ 0 := by
 unfold nodeOk at h
 simp only [Bool.and_eq_true, Bool.not_eq_true', Bool.or_eq_false_iff, beq_eq_false_iff_ne] at h
 exact h.1.1.1
set_option maxHeartbeats 16000000 in
theorem rRight_c (a : Option Addr) (cap : Nat) (l : List Nd) (w : World) (h : IsNs w a l) (hm : l.length ≤ 100000) :
   Calls Tryz.prog 10 #[.slice a l.length cap] w fun e w' => e = .returned (.bool (rightD l)) ∧ Below w.heap.size w w' := by
 by_cases q40 : 40 < l.length
 · have qI : (40 : Int) < l.length := by omega
   have e : rightD l = false := by unfold rightD; rw [decide_eq_false (by omega)]; rfl
   rw [e]
   clear h
   go_enter Tryz.func10, Tryz.ntmps10
   go_wp2
   go_ret
   exact ⟨rfl, Below.refl _ _⟩
 have H := hid h
 have GC := hid (fun f W (hW : Below w.heap.size w W) => get_c a cap l f W (h.later hW) hm)
 have AC := hid (fun o W (hW : Below w.heap.size w W) (hk : ∀ x ∈ l, x.ks.length ≤ 100000) => above_c a cap l 1 o W (h.later hW) hm hk)
 obtain ⟨R, hR⟩ : ∃ R, R = rightD l := ⟨_, rfl⟩
 have HR := hid hR
 rw [← hR]
 have RE : Hid (l.length ≤ 40 → R = (dTo l l.length && (rtTo l l.length && lkTo l l.length))) := hid (fun h40 => by rw [hR]; unfold rightD; rw [decide_eq_true h40]; rfl)
 obtain ⟨n, hn⟩ : ∃ n, n = l.length := ⟨_, rfl⟩
 have HN := hid hn
 rw [← hn] at hm q40 GC AC RE ⊢
 have qI : ¬ (40 : Int) < n := by omega
 clear h hn hR
 go_enter Tryz.func10, Tryz.ntmps10
 go_wp2
 go_loopg [3, 4] n (fun gk v3 v4 wr => ∃ m : Nat, m + gk = n ∧ v3 = .bool (rtTo l m) ∧ v4 = .int .i64 m ∧ Hid (Below w.heap.size w wr) ∧ Hid (dTo l m = true))
 case atStart => exact ⟨0, by omega, rfl, rfl, hid (Below.refl _ _), hid rfl⟩
 case round =>
   obtain ⟨m, hm2, rfl, rfl, HB, HD⟩ := hrel
   by_cases hlt : m < n
   · have hltI : (m : Int) < n := by omega
     have h0I : (0 : Int) ≤ m := by omega
     have hln : m < l.length := by rw [← HN.out]; exact hlt
     obtain ⟨b, off, rfl, _⟩ := H.out.2.2 (by omega)
     have hI := H.out.later HB.out
     have HO := hid (hI.ok (i := m) hln)
     have hx := hI.at (i := m) hln
     obtain ⟨y0, y1, y2, y3, y4, y5⟩ := hx.all
     have NO := hid (rightD_no1 (l := l) (m := m) hln)
     have NX : Hid (dOne l m = true → dTo l (m + 1) = true) := hid (fun h => by simp only [dTo, HD.out, h, Bool.and_self])
     have RX : Hid (rtTo l (m + 1) = (rtTo l m || rtB (l.getD m Nd.no))) := hid rfl
     have PV : Hid (∀ p, m = p + 1 → wr.cell? ⟨b, off + p * 6, none⟩ = some (.int .u32 (lastFd l m))) := hid (fun p hp => by
       have := (hI.at (i := p) (by omega)).all.1
       rw [hp, lastFd_next]; exact this)
     have PZ : Hid (m = 0 → lastFd l m = 0) := hid (fun h => by rw [h]; rfl)
     unfold dOne dA at NO NX
     clear hI hx hln
     have bA := below_1 wr (.cells (l.getD m Nd.no).cells.toArray 37)
     have HX := hid (heap_alloc_new wr (.cells (l.getD m Nd.no).cells.toArray 37))
     have BV := hid (HB.out.trans (bA.mono HB.out.size))
     have BA := hid bA
     have OC := hid (fun W (hW : Below wr.heap.size wr W) => alone_c (l.getD m Nd.no) W (HO.out.later hW))
     clear bA
     generalize l.getD m Nd.no = x at *
     generalize lastFd l m = lf at *
     generalize rtTo l m = rt at *
     have XP : Hid (nodeOk x = true → 0 < x.fid) := hid (fun h => by have := nodeOk_pos h; have := HO.out.1.1; omega)
     have XF : Hid (nodeOk x = true → x.ks.length ≤ 12) := hid (fun h => nodeOk_few h)
     obtain ⟨ok, hok⟩ : ∃ ok, ok = nodeOk x := ⟨_, rfl⟩
     rw [← hok] at NO NX OC XP XF
     clear hok
     obtain ⟨fid, k, md, ln, da, dc, zs, ka, kc, ks⟩ := x
     simp only [Nd.cells, Nd.val] at *
     go_upto_region 8 with fail
     generalize wr.alloc (.cells #[.int .u32 fid, .int .u8 k, .int .u16 md, .int .u16 ln, .slice da zs.length dc, .slice ka ks.length kc] 37) = V at *
     have l0 : ∀ w', Below V.heap.size V w' → w'.cell? ⟨wr.heap.size, 0, none⟩ = some (.int .u32 fid) := fun w' h => cell_of_row2 ((h.block _ (lt_blkR HX.out)).trans HX.out) 0 rfl
     have l1 : ∀ w', Below V.heap.size V w' → w'.cell? ⟨wr.heap.size, 1, none⟩ = some (.int .u8 k) := fun w' h => cell_of_row2 ((h.block _ (lt_blkR HX.out)).trans HX.out) 1 rfl
     have l2 : ∀ w', Below V.heap.size V w' → w'.cell? ⟨wr.heap.size, 2, none⟩ = some (.int .u16 md) := fun w' h => cell_of_row2 ((h.block _ (lt_blkR HX.out)).trans HX.out) 2 rfl
     have l3 : ∀ w', Below V.heap.size V w' → w'.cell? ⟨wr.heap.size, 3, none⟩ = some (.int .u16 ln) := fun w' h => cell_of_row2 ((h.block _ (lt_blkR HX.out)).trans HX.out) 3 rfl
     have l4 : ∀ w', Below V.heap.size V w' → w'.cell? ⟨wr.heap.size, 4, none⟩ = some (.slice da zs.length dc) := fun w' h => cell_of_row2 ((h.block _ (lt_blkR HX.out)).trans HX.out) 4 rfl
     have l5 : ∀ w', Below V.heap.size V w' → w'.cell? ⟨wr.heap.size, 5, none⟩ = some (.slice ka ks.length kc) := fun w' h => cell_of_row2 ((h.block _ (lt_blkR HX.out)).trans HX.out) 5 rfl
     have OD := hid (fun W (hW : Below V.heap.size V W) => OC.out W (BA.out.trans (hW.mono BA.out.size)))
     clear OC y0 y1 y2 y3 y4 y5
     go_cut [44] from 27 to 44 (fun s44 wx => s44 = .bool (!(ok && decide (lf < fid))) ∧ ∃ wy, wy = wx ∧ Hid (Below V.heap.size V wy))
     case first =>
       cases ok with
       | false =>
         refine wp_region_class (by kernel_rfl) (by kernel_rfl) ?_
         repeat (first
           | go_big_quiet_skip
           | (go_big_quiet_want
              apply quiet_by
              · intro w1 hw1
                go_simp
                first
                  | rfl
                  | (go_at_call 21; exact class_of hw1 (OD.out _ hw1))
              · go_simp; rfl
              go_big_quiet_on))
         refine wpQuiet_nil ?_
         intro w2 hw2
         go_wp2
         go_meet
         exact ⟨rfl, _, rfl, hid hw2⟩
       | true =>
         by_cases hm0 : m = 0
         · have e0 := PZ.out hm0
           have e1 : decide (lf < fid) = true := decide_eq_true (by have := XP.out rfl; omega)
           subst hm0
           have E1 := hid e1
           clear e0 e1 PV
           refine wp_region_class (by kernel_rfl) (by kernel_rfl) ?_
           repeat (first
             | go_big_quiet_skip
             | (go_big_quiet_want
                apply quiet_by
                · intro w1 hw1
                  go_simp
                  first
                    | rfl
                    | (go_at_call 21; exact class_of hw1 (OD.out _ hw1))
                · go_simp; rfl
                go_big_quiet_on))
           refine wpQuiet_nil ?_
           intro w2 hw2
           go_wp2
           go_meet
           exact ⟨by rw [E1.out]; rfl, _, rfl, hid hw2⟩
         · obtain ⟨p, hp⟩ : ∃ p, m = p + 1 := ⟨m - 1, by omega⟩
           have d0 := PV.out p hp
           have hpI : (p : Int) < n := by omega
           have hp0I : (0 : Int) ≤ p := by omega
           have hmI : (0 : Int) < m := by omega
           have hmN : 0 < m := by omega
           have hmD : decide ((0 : Int) < (m : Int)) = true := decide_eq_true hmI
           have hmE : decide (0 < m) = true := decide_eq_true hmN
           have hmZ : ¬ m = 0 := by omega
           have wm : IntKind.i64.wrap ((m : Int) - 1) = (p : Int) := by rw [IntKind.wrap_i64]; omega
           have l6 : ∀ w', Below V.heap.size V w' → w'.cell? ⟨b, off + p * 6, none⟩ = some (.int .u32 lf) := fun w' h => cell_later (BA.out.trans (h.mono BA.out.size)) d0
           clear d0 hp hm0 PV PZ
           by_cases qf : fid ≤ lf
           · have e1 : decide (lf < fid) = false := decide_eq_false (by omega)
             have e2 : decide (fid ≤ lf) = true := decide_eq_true qf
             have E1 := hid e1
             clear e1
             refine wp_region_class (by kernel_rfl) (by kernel_rfl) ?_
             repeat (first
               | go_big_quiet_skip
               | (go_big_quiet_want
                  apply quiet_by
                  · intro w1 hw1
                    go_simp
                    first
                      | rfl
                      | (go_at_call 21; exact class_of hw1 (OD.out _ hw1))
                  · go_simp; rfl
                  go_big_quiet_on))
             refine wpQuiet_nil ?_
             intro w2 hw2
             go_wp2
             go_meet
             exact ⟨by rw [E1.out]; rfl, _, rfl, hid hw2⟩
           · have e1 : decide (lf < fid) = true := decide_eq_true (by omega)
             have e2 : decide (fid ≤ lf) = false := decide_eq_false qf
             have E1 := hid e1
             clear e1
             refine wp_region_class (by kernel_rfl) (by kernel_rfl) ?_
             repeat (first
               | go_big_quiet_skip
               | (go_big_quiet_want
                  apply quiet_by
                  · intro w1 hw1
                    go_simp
                    first
                      | rfl
                      | (go_at_call 21; exact class_of hw1 (OD.out _ hw1))
                  · go_simp; rfl
                  go_big_quiet_on))
             refine wpQuiet_nil ?_
             intro w2 hw2
             go_wp2
             go_meet
             exact ⟨by rw [E1.out]; rfl, _, rfl, hid hw2⟩
     case rest =>
       obtain ⟨rfl, wy, rfl, HC⟩ := hcut
       obtain ⟨dd, hdd⟩ : ∃ dd, dd = (ok && decide (lf < fid)) := ⟨_, rfl⟩
       have XD : Hid (dd = true → ks.length ≤ 12) := hid (fun h => XF.out (by rw [hdd, Bool.and_eq_true] at h; exact h.1))
       rw [← hdd] at NO NX ⊢
       have BX := hid (BV.out.trans (HC.out.mono BV.out.size))
       clear hdd XP XF OD PV PZ
       cases dd with
       | false =>
         have EF : Hid (R = false) := hid (by rw [HR.out]; exact NO.out rfl)
         clear NO NX
         go_wp2
         go_ret
         exact ⟨ret_bool' EF.out.symm, BX.out⟩
       | true =>
         have hk12 := XD.out rfl
         have x0 := l0 wy HC.out
         have x1 := l1 wy HC.out
         have x3 := l3 wy HC.out
         simp only [Bool.true_and] at NO NX
         go_upto_region 10 with fail
         go_cut [3] from 45 to 60 (fun s3 w3 => s3 = .bool (rt || rtB ⟨fid, k, md, ln, da, dc, zs, ka, kc, ks⟩) ∧ w3 = wy)
         case first =>
           clear NO NX
           cases rt with
           | true =>
             go_wp2_with fail
             go_meet
             exact ⟨rfl, rfl⟩
           | false =>
             cases q1 : (fid == 1) with
             | false =>
               go_wp2_with fail
               go_meet
               exact ⟨by simp [rtB, q1], rfl⟩
             | true =>
               cases q2 : (k == 2) with
               | false =>
                 go_wp2_with fail
                 go_meet
                 exact ⟨by simp [rtB, q1, q2], rfl⟩
               | true =>
                 cases q3 : (ln == 0) with
                 | false =>
                   go_wp2_with fail
                   go_meet
                   exact ⟨by simp [rtB, q1, q2, q3], rfl⟩
                 | true =>
                   go_wp2_with fail
                   go_meet
                   exact ⟨by simp [rtB, q1, q2, q3], rfl⟩
         case rest =>
           obtain ⟨rfl, hw3⟩ := hcut
           subst hw3
           rw [← RX.out]
           obtain ⟨rt2, hrt2⟩ : ∃ rt2, rt2 = rtTo l (m + 1) := ⟨_, rfl⟩
           rw [← hrt2]
           have HRT := hid hrt2
           clear hrt2
           obtain ⟨nk, hnk⟩ : ∃ nk, nk = ks.length := ⟨_, rfl⟩
           have HNK := hid hnk
           rw [← hnk] at hk12 l5
           have KNO := hid (fun j (hj : j < ks.length) => dKid_no2 (l := l) hj)
           rw [← hnk] at NO NX KNO
           have x5 := l5 _ HC.out
           clear hnk x0 x1 x3 l0 l1 l2 l3 l4 RX
           go_wp2
           obtain ⟨go, hgo⟩ : ∃ go, go = gk := ⟨_, rfl⟩
           subst hgo
           have HO2 := hid (HO.out.later BA.out)
           clear HO BA
           generalize wr.heap.size = B at *
           go_loopg [6] nk (fun gk v6 wr => ∃ j : Nat, j + gk = nk ∧ v6 = .int .i64 j ∧ Hid (Below V.heap.size V wr) ∧ Hid (dKid l ks j = true))
           case atStart => exact ⟨0, by omega, rfl, HC, hid rfl⟩
           case round =>
             clear x5
             obtain ⟨j, hj2, rfl, HB2, HK2⟩ := hrel
             have x5 := l5 _ HB2.out
             by_cases hlt3 : j < nk
             · have hltI3 : (j : Int) < nk := by omega
               have hjk : j < ks.length := by rw [← HNK.out]; exact hlt3
               have hKs := HO2.out.2.2.2.2.2.later HB2.out
               obtain ⟨b1, off1, rfl, _⟩ := hKs.2.2 (by simp only; omega)
               obtain ⟨k0, k1⟩ := hKs.at (i := j) hjk
               simp only at k0 k1
               have KN := hid (KNO.out j hlt3)
               have KX : Hid ((hasF l (ks.getD j Kd.no).fid && (ks.getD j Kd.no).fid != 1) = true → dKid l ks (j + 1) = true) := hid (fun h => by simp only [dKid, HK2.out, h, Bool.and_self])
               clear hKs hjk
               have BW := hid (BV.out.trans (HB2.out.mono BV.out.size))
               generalize ks.getD j Kd.no = y at *
               have GY := hid (GC.out y.fid _ BW.out)
               obtain ⟨hf, hhf⟩ : ∃ hf, hf = hasF l y.fid := ⟨_, rfl⟩
               rw [← hhf] at KN KX GY
               clear hhf
               cases hf with
               | false =>
                 have EF : Hid (R = false) := hid (by rw [HR.out]; exact NO.out (by rw [KN.out rfl]))
                 clear KN KX
                 go_wp2_with (go_at_call 8; refine GY.out.mono ?_; rintro _ w5 ⟨⟨y', rfl⟩, hb5⟩; have B5 := hid (BW.out.trans ((hb5.trans ((below_1 w5 (.cells y'.cells.toArray 37)).mono hb5.size)).mono BW.out.size)); simp only [Nd.val]; clear hb5)
                 go_ret
                 exact ⟨ret_bool' EF.out.symm, B5.out⟩
               | true =>
                 cases q1 : (y.fid == 1) with
                 | true =>
                   have EF : Hid (R = false) := hid (by rw [HR.out]; exact NO.out (by rw [KN.out (by simp only [Bool.true_and, bne, q1, Bool.not_true])]))
                   clear KN KX
                   go_wp2_with (go_at_call 8; refine GY.out.mono ?_; rintro _ w5 ⟨⟨y', rfl⟩, hb5⟩; have b6 := below_1 w5 (.cells y'.cells.toArray 37); have s5 := hb5.trans (b6.mono hb5.size); have B5 := hid (BW.out.trans (s5.mono BW.out.size)); have x5 := cell_later s5 x5; have k1 := cell_later s5 k1; simp only [Nd.val, Nd.cells] at x5 k1 ⊢; clear hb5 b6 s5)
                   go_ret
                   exact ⟨ret_bool' EF.out.symm, B5.out⟩
                 | false =>
                   have EX := hid (KX.out (by simp only [Bool.true_and, bne, q1, Bool.not_false]))
                   clear KN KX
                   go_wp2_with (go_at_call 8; refine GY.out.mono ?_; rintro _ w5 ⟨⟨y', rfl⟩, hb5⟩; have b6 := below_1 w5 (.cells y'.cells.toArray 37); have s5 := hb5.trans (b6.mono hb5.size); have B5 := hid (HB2.out.trans (s5.mono HB2.out.size)); have x5 := cell_later s5 x5; have k1 := cell_later s5 k1; simp only [Nd.val, Nd.cells] at x5 k1 B5 ⊢; clear hb5 b6 s5)
                   go_roundg (gk - 1)
                   case measure => omega
                   case rel => exact ⟨j + 1, by omega, by go_num, B5, EX⟩
             · have hge3 : ¬ (j : Int) < nk := by omega
               obtain rfl : j = nk := by omega
               have ED := hid (NX.out HK2.out)
               have BW := hid (BV.out.trans (HB2.out.mono BV.out.size))
               go_wp2
               go_roundg (go - 1)
               case measure => omega
               case rel => exact ⟨m + 1, by omega, by rw [HRT.out], by go_num, BW, ED⟩
   · have hge : ¬ (m : Int) < n := by omega
     obtain rfl : m = n := by omega
     have ED : Hid (dTo l l.length = true) := hid (by rw [← HN.out]; exact HD.out)
     have K12 : Hid (∀ x ∈ l, x.ks.length ≤ 12) := hid (fun x hx => nodeOk_few (dTo_ok ED.out x hx))
     have RE2 : Hid (R = (rtTo l m && lkTo l l.length)) := hid (by rw [RE.out (by omega), HN.out, ED.out]; rfl)
     clear HD RE
     generalize rtTo l m = rt at *
     cases rt with
     | false =>
       have EF : Hid (R = false) := hid (by rw [RE2.out]; rfl)
       go_wp2
       go_ret
       exact ⟨ret_bool' EF.out.symm, HB.out⟩
     | true =>
       have RE3 : Hid (R = lkTo l m) := hid (by rw [RE2.out, Bool.true_and, HN.out])
       clear RE2 GC
       go_wp2
       generalize wr = wo at *
       have KL : Hid ((kfs l).length ≤ 480) := hid (by have := kfs_le K12.out; have := HN.out; omega)
       have KLt : Hid (∀ m, (kfs (l.take m)).length ≤ 480) := hid (fun m => by
         have := kfs_le (l := l.take m) (fun x hx => K12.out x (List.mem_of_mem_take hx))
         have := HN.out
         rw [List.length_take] at *; omega)
       have AC2 := hid (fun o W (hW : Below w.heap.size w W) => AC.out o W hW (fun x hx => by have := K12.out x hx; omega))
       clear AC
       go_loopg [9] m (fun gk v9 wr => ∃ i : Nat, i + gk = m ∧ v9 = .int .i64 i ∧ Hid (Below w.heap.size w wr) ∧ Hid (lkTo l i = true))
       case atStart => exact ⟨0, by omega, rfl, HB, hid rfl⟩
       case round =>
         clear HB
         obtain ⟨i, hi2, rfl, HB, HL⟩ := hrel
         by_cases hlt : i < m
         · have hltI : (i : Int) < m := by omega
           have hln : i < l.length := by rw [← HN.out]; exact hlt
           obtain ⟨b, off, rfl, _⟩ := H.out.2.2 (by omega)
           have hI := H.out.later HB.out
           have HO := hid (hI.ok (i := i) hln)
           obtain ⟨y0, y1, y2, y3, y4, y5⟩ := (hI.at (i := i) hln).all
           have NO := hid (rightD_no2 (l := l) (m := i) hln)
           have NX : Hid (lkOne l (l.getD i Nd.no) = true → lkTo l (i + 1) = true) := hid (fun h => by simp only [lkTo, HL.out, h, Bool.and_self])
           unfold lkOne at NO NX
           have bA := below_1 wr (.cells (l.getD i Nd.no).cells.toArray 37)
           have HX := hid (heap_alloc_new wr (.cells (l.getD i Nd.no).cells.toArray 37))
           have BV := hid (HB.out.trans (bA.mono HB.out.size))
           have KU : Hid (lkU l (l.getD i Nd.no) = (!((l.getD i Nd.no).k == 2) || abN l 1 (l.length + 1) (l.getD i Nd.no).fid)) := hid rfl
           clear hI hln bA
           generalize l.getD i Nd.no = x at *
           have ku : IntKind.i64.wrap x.ln = x.ln := by rw [IntKind.wrap_i64]; have := HO.out.2.2.2.1; omega
           have AU := hid (fun W (hW : Below w.heap.size w W) => AC2.out x.fid W hW)
           rw [← HN.out] at KU
           obtain ⟨ab, hab⟩ : ∃ ab, ab = abN l 1 (m + 1) x.fid := ⟨_, rfl⟩
           rw [← hab] at AU KU
           rw [KU.out] at NO NX
           clear hab KU HO
           obtain ⟨fid, k, md, ln, da, dc, zs, ka, kc, ks⟩ := x
           simp only [Nd.cells, Nd.val] at *
           go_upto_region 23 with fail
           generalize wr.alloc (.cells #[.int .u32 fid, .int .u8 k, .int .u16 md, .int .u16 ln, .slice da zs.length dc, .slice ka ks.length kc] 37) = V at *
           generalize wr.heap.size = B at *
           have l0 : ∀ w', Below V.heap.size V w' → w'.cell? ⟨B, 0, none⟩ = some (.int .u32 fid) := fun w' h => cell_of_row2 ((h.block _ (lt_blkR HX.out)).trans HX.out) 0 rfl
           have l1 : ∀ w', Below V.heap.size V w' → w'.cell? ⟨B, 1, none⟩ = some (.int .u8 k) := fun w' h => cell_of_row2 ((h.block _ (lt_blkR HX.out)).trans HX.out) 1 rfl
           have l3 : ∀ w', Below V.heap.size V w' → w'.cell? ⟨B, 3, none⟩ = some (.int .u16 ln) := fun w' h => cell_of_row2 ((h.block _ (lt_blkR HX.out)).trans HX.out) 3 rfl
           have L0 := hid l0
           have L1 := hid l1
           have L3 := hid l3
           clear l0 l1 l3 y0 y1 y2 y3 y4 y5
           go_wp2
           obtain ⟨go, hgo⟩ : ∃ go, go = gk := ⟨_, rfl⟩
           subst hgo
           go_loopg [11, 12] m (fun gk v11 v12 wr => ∃ (j c : Nat), j + gk = m ∧ v11 = .int .i64 c ∧ v12 = .int .i64 j ∧ Hid (Below V.heap.size V wr) ∧ Hid (c = (kfs (l.take j)).count fid))
           case atStart => exact ⟨0, 0, by omega, rfl, rfl, hid (Below.refl _ _), hid (by simp [kfs])⟩
           case round =>
             obtain ⟨j, c, hj2, rfl, rfl, HW, HC⟩ := hrel
             by_cases hlt2 : j < m
             · have hltI2 : (j : Int) < m := by omega
               have hln : j < l.length := by rw [← HN.out]; exact hlt2
               have hI := H.out.later (BV.out.trans (HW.out.mono BV.out.size))
               have HO := hid (H.out.ok (i := j) hln)
               obtain ⟨_, _, _, _, _, y5⟩ := (hI.at (i := j) hln).all
               have KT := hid (kfs_take hln)
               have h12 := K12.out _ (getD_mem l Nd.no hln)
               have hP2 := KLt.out (j + 1)
               rw [KT.out] at hP2
               have y5L : ∀ w', Below V.heap.size V w' → w'.cell? ⟨b, off + j * 6 + 5, none⟩ = some (.slice (l.getD j Nd.no).ka (l.getD j Nd.no).ks.length (l.getD j Nd.no).kc) := fun w' h => ((H.out.later (BV.out.trans (h.mono BV.out.size))).at (i := j) hln).all.2.2.2.2.2
               have Y5 := hid y5L
               clear hI hln y5L
               generalize l.getD j Nd.no = z at *
               obtain ⟨P, hPe⟩ : ∃ P, P = kfs (l.take j) := ⟨_, rfl⟩
               rw [← hPe] at HC KT hP2
               clear hPe
               obtain ⟨fid2, k2, md2, ln2, da2, dc2, zs2, ka2, kc2, ks2⟩ := z
               simp only at *
               obtain ⟨nk, hnk⟩ : ∃ nk, nk = ks2.length := ⟨_, rfl⟩
               rw [← hnk] at y5 h12 Y5
               have HNK := hid hnk
               have HP2 := hid hP2
               clear hnk hP2
               go_wp2
               obtain ⟨gp, hgp⟩ : ∃ gp, gp = gk := ⟨_, rfl⟩
               subst hgp
               clear y5
               go_loopg [11, 13] nk (fun gk v11 v13 wr => ∃ (q c : Nat), q + gk = nk ∧ v11 = .int .i64 c ∧ v13 = .int .i64 q ∧ Hid (Below V.heap.size V wr) ∧ Hid (c = (P ++ (ks2.take q).map (·.fid)).count fid))
               case atStart => exact ⟨0, c, by omega, rfl, rfl, HW, hid (by simpa using HC.out)⟩
               case round =>
                 clear HC
                 obtain ⟨q, c2, hq2, rfl, rfl, HW3, HC3⟩ := hrel
                 have y5 := Y5.out _ HW3.out
                 by_cases hlt3 : q < nk
                 · have hltI3 : (q : Int) < nk := by omega
                   have hjk : q < ks2.length := by rw [← HNK.out]; exact hlt3
                   have hKs := HO.out.2.2.2.2.2.later (BV.out.trans (HW3.out.mono BV.out.size))
                   obtain ⟨b1, off1, rfl, _⟩ := hKs.2.2 (by simp only; omega)
                   obtain ⟨k0, k1⟩ := hKs.at (i := q) hjk
                   simp only at k0 k1
                   have MT := hid (map_take_kid hjk)
                   have hcl : c2 ≤ 480 := by
                     rw [HC3.out]
                     refine Nat.le_trans List.count_le_length ?_
                     refine Nat.le_trans ?_ HP2.out
                     rw [List.length_append, List.length_append, List.length_map, List.length_map, List.length_take]
                     omega
                   have x0 := L0.out _ HW3.out
                   clear hKs hjk
                   generalize ks2.getD q Kd.no = y at *
                   cases q1 : (y.fid == fid) with
                   | true =>
                     have EC : Hid (c2 + 1 = (P ++ (ks2.take (q + 1)).map (·.fid)).count fid) := hid (by rw [MT.out, ← List.append_assoc, List.count_append, ← HC3.out, List.count_singleton, q1]; rfl)
                     clear HC3 MT
                     go_wp2
                     go_quiet (fail)
                     go_wp2
                     go_roundg (gk - 1)
                     case measure => omega
                     case rel => exact ⟨q + 1, c2 + 1, by omega, by go_num, by go_num, hid (below_drewN HW3.out _), EC⟩
                   | false =>
                     have EC : Hid (c2 = (P ++ (ks2.take (q + 1)).map (·.fid)).count fid) := hid (by rw [MT.out, ← List.append_assoc, List.count_append, ← HC3.out, List.count_singleton, q1]; rfl)
                     clear HC3 MT
                     go_wp2
                     go_quiet (fail)
                     go_wp2
                     go_roundg (gk - 1)
                     case measure => omega
                     case rel => exact ⟨q + 1, c2, by omega, rfl, by go_num, hid (below_drewN HW3.out _), EC⟩
                 · have hge3 : ¬ (q : Int) < nk := by omega
                   have EC : Hid (c2 = (kfs (l.take (j + 1))).count fid) := hid (by
                     have := HC3.out
                     rw [List.take_of_length_le (by rw [← HNK.out]; omega), ← KT.out] at this
                     exact this)
                   go_wp2
                   go_roundg (gp - 1)
                   case measure => omega
                   case rel => exact ⟨j + 1, c2, by omega, rfl, by go_num, HW3, EC⟩
             · have hge2 : ¬ (j : Int) < m := by omega
               have EC : Hid ((c : Int) = ((kfs l).count fid : Int)) := hid (by
                 have := HC.out
                 rw [List.take_of_length_le (by rw [← HN.out]; omega)] at this
                 rw [this])
               rw [← EC.out] at NO NX
               have x0 := L0.out _ HW.out
               have x1 := L1.out _ HW.out
               have x3 := L3.out _ HW.out
               have BW := hid (BV.out.trans (HW.out.mono BV.out.size))
               clear HC EC
               generalize wr = wz at *
               go_upto_region 32 with fail
               go_cut [154] from 132 to 154 (fun s154 wx => s154 = .bool (!lkA c ⟨fid, k, md, ln, da, dc, zs, ka, kc, ks⟩) ∧ wx = wz)
               case first =>
                 clear NO NX
                 cases q1 : (fid == 1) with
                 | true =>
                   have q1b : (fid != 1) = false := by simp [bne, q1]
                   go_wp2_with fail
                   go_meet
                   exact ⟨by simp [lkA, q1], rfl⟩
                 | false =>
                   have q1b : (fid != 1) = true := by simp [bne, q1]
                   by_cases q2 : (c : Int) < 1
                   · have q2b : decide ((c : Int) < 1) = true := decide_eq_true q2
                     go_wp2_with fail
                     go_meet
                     exact ⟨by simp [lkA, q1, q2b], rfl⟩
                   · have q2b : decide ((c : Int) < 1) = false := decide_eq_false q2
                     cases q3 : ((c : Int) != ln) with
                     | true =>
                       go_wp2_with fail
                       go_meet
                       exact ⟨by simp only [lkA, q1, q2b, q3]; rfl, rfl⟩
                     | false =>
                       cases q4 : (k == 2) with
                       | false =>
                         go_wp2_with fail
                         go_meet
                         exact ⟨by simp only [lkA, q1, q2b, q3, q4]; rfl, rfl⟩
                       | true =>
                         cases q5 : ((c : Int) != 1) with
                         | false =>
                           go_wp2_with fail
                           go_meet
                           exact ⟨by simp only [lkA, q1, q2b, q3, q4, q5]; rfl, rfl⟩
                         | true =>
                           go_wp2_with fail
                           go_meet
                           exact ⟨by simp only [lkA, q1, q2b, q3, q4, q5]; rfl, rfl⟩
               case rest =>
                 obtain ⟨rfl, hwx⟩ := hcut
                 subst hwx
                 obtain ⟨la, hla⟩ : ∃ la, la = lkA c ⟨fid, k, md, ln, da, dc, zs, ka, kc, ks⟩ := ⟨_, rfl⟩
                 rw [← hla] at NO NX ⊢
                 clear hla
                 cases la with
                 | false =>
                   have EF : Hid (R = false) := hid (by rw [HR.out]; exact NO.out rfl)
                   clear NO NX
                   go_wp2
                   go_ret
                   exact ⟨ret_bool' EF.out.symm, BW.out⟩
                 | true =>
                   have AZ := hid (AU.out _ BW.out)
                   cases q4 : (k == 2) with
                   | false =>
                     have EX := hid (NX.out (by rw [q4]; rfl))
                     clear NO NX
                     go_wp2
                     go_roundg (go - 1)
                     case measure => omega
                     case rel => exact ⟨i + 1, by omega, by go_num, BW, EX⟩
                   | true =>
                     cases ab with
                     | false =>
                       have EF : Hid (R = false) := hid (by rw [HR.out]; exact NO.out (by rw [q4]; rfl))
                       clear NO NX
                       go_wp2_with (go_at_call 22; refine AZ.out.mono ?_; rintro _ wf ⟨rfl, hwf⟩; have hwf2 := hwf.symm; clear hwf; subst hwf2)
                       go_ret
                       exact ⟨ret_bool' EF.out.symm, BW.out⟩
                     | true =>
                       have EX := hid (NX.out (by rw [q4]; rfl))
                       clear NO NX
                       go_wp2_with (go_at_call 22; refine AZ.out.mono ?_; rintro _ wf ⟨rfl, hwf⟩; have hwf2 := hwf.symm; clear hwf; subst hwf2)
                       go_roundg (go - 1)
                       case measure => omega
                       case rel => exact ⟨i + 1, by omega, by go_num, BW, EX⟩
         · have hge : ¬ (i : Int) < m := by omega
           obtain rfl : i = m := by omega
           have EF : Hid (R = true) := hid (by rw [RE3.out]; exact HL.out)
           go_wp2
           go_ret
           exact ⟨ret_bool' EF.out.symm, HB.out⟩
end Go.Proofs.YtkokjkaclcjnjaaGreatDoor
