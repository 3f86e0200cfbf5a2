/-
  A client opened on a fresh disk; Link, Stat and List of the root, View, Log.
-/
import Derived.Test.YtfmghbennahlfaaGreatUnBx
import Derived.Test.YtfmghbennahlfaaGreatUnBt
import Derived.Test.YtfmghbennahlfaaGreatUnBe
namespace Go.Proofs.YtfmghbennahlfaaGreat
open Go.RowKit Go.ChangeShapes Go.WideShapes Go.ChangeAt Go.Maps Go.Shelf
set_option linter.unusedVariables false
set_option linter.unusedSimpArgs false
set_option maxRecDepth 100000
def fresh0 (p j d b1 b2 cb cm ch g s N : Nat) : Cv := ⟨p, j, d, b1, b2, cb, cm, ch, g, s, N, 0, false, ca0, .slice none 0 0, 0, 0, 1, []⟩
theorem openC_c {w : World} {d b1 b2 N : Nat} (h : IsD w d b1 b2 N (fun _ => zsec) (fun _ => none)) (h8 : 8 ≤ N) :
   Calls Tryz.prog 23 #[.int .u8 1, pD d] w fun e w' => ∃ p j d' q1 q2 cb cm ch g s, e = .returned (.pointer (some ⟨p, 0, none⟩)) ∧ CvM w.heap.size w' (fresh0 p j d' q1 q2 cb cm ch g s N) ∧ Below w.heap.size w w' := by
 have hN : N ≤ 2048 := h.2.2.2.1
 have Z : Held (vw (fun _ => zsec) (fun _ => none)) N 0 0 [] := Held.zero N h8 hN
 refine (copen_c (x := pD d) ⟨_, rfl⟩ 1 (by decide) (by decide) (fun W j => ∃ d b1 b2, IsJ W j d b1 b2 N (fun _ => zsec) (fun _ => none) ∧ w.heap.size ≤ b1 ∧ w.heap.size ≤ b2) ((open_c h h8).mono ?_) (fun W W' j hj hb => ?_)).mono ?_
 · rintro e w' ⟨j, d', p1, p2, rfl, hJ, hl, hb⟩
   exact ⟨j, rfl, ⟨d', p1, p2, hJ, hl.2.2.1, hl.2.2.2⟩, hb⟩
 · obtain ⟨d', c1, c2, q1, q2, q3⟩ := hj
   have hG := groups_all_c (q1.later hb)
   have hg : grps (vw (fun _ => zsec) (fun _ => none)) N = [] := Z.grps (fun i => (q1.later hb).2.1.sec i)
   rw [hg] at hG
   exact hG
 · rintro e w' ⟨j, cb, cm, ch, g, s, p, W1, rfl, ⟨d', q1, q2, hJ, l1, l2⟩, hb, z0, z1, z2, z3, z4, z5, z6, hr, hg, hs, hc, hB⟩
   have JW : JT W1 j d' q1 q2 N 0 := ⟨_, _, 0, [], hJ, Z⟩
   obtain ⟨⟨_, _, m1⟩, ⟨_, _, m2⟩⟩ := JW.maps
   have t1 := lt_blkR m1
   have t2 := lt_blkR m2
   exact ⟨p, j, d', q1, q2, cb, cm, ch, g, s, rfl, ⟨JW.later hb, hc, hr, hg, hs, .inl ⟨rfl, rfl⟩, ⟨by show _ ≤ p; omega, l1, l2, by show _ ≤ cb; omega, by show _ ≤ cm; omega, by show _ ≤ ch; omega, hB.size⟩, ⟨by show q1 ≠ cm; omega, by show q1 ≠ ch; omega, by show q2 ≠ cm; omega, by show q2 ≠ ch; omega⟩⟩, hB⟩
theorem clink_c {base : Nat} {w : World} {c : Cv} (h : CvM base w c) (b : Bool) :
   Calls Tryz.prog 11 #[.pointer (some ⟨c.p, 0, none⟩), .bool b] w fun e w' => e = .returned (.int .i64 0) ∧ CvM base w' { c with lk := b } ∧ Below base w w' := by
 have row := h.2.2.1
 have H := hid h
 have R := hid row
 have k3 : w.cell? ⟨c.p, 3, none⟩ = some (.bool c.lk) := cell_of_row2 row 3 rfl
 have fz : ∀ i, w.frozen? ⟨c.p, i, none⟩ = false := fun i => (by simp [World.frozen?, row])
 clear h row
 go_enter Tryz.func11, Tryz.ntmps11
 go_wp2
 have O1 : Ou (fun k => k = c.p) w (w.setCell ⟨c.p, 3, none⟩ (.bool b)) := ((Ou.of (S := fun k => k = c.p) (Below.refl _ _)).set rfl)
 go_ret
 exact ⟨rfl, H.out.own O1 b c.lv c.fz c.dn c.nx c.L H.out.2.2.2.2.2.1 (heap_setCell_same w c.p 3 _ _ _ R.out), H.out.below O1 (fun k e => by rw [e]; exact H.out.2.2.2.2.2.2.1.1)⟩
theorem cview_c {base : Nat} {w : World} {c : Cv} (h : CvM base w c) (hL : LogM c.L) : Calls Tryz.prog 14 #[.pointer (some ⟨c.p, 0, none⟩)] w fun e w' => ∃ a cap, e = .returned (.slice a (c.L.length + 1) cap) ∧ Below w.heap.size w w' := by
 have VC : Hid (Calls Tryz.prog 25 #[.pointer (some ⟨c.p, 4, none⟩)] w fun e w' => ∃ a cap, e = .returned (.slice a (c.L.length + 1) cap) ∧ Below w.heap.size w w') := hid ((view_c h hL).mono (fun e w' q => by
   obtain ⟨a, cap, l, rfl, _, he, hb⟩ := q
   have : l.length = c.L.length + 1 := by rw [← vw_len hL, ← he, List.length_map]
   rw [this]
   exact ⟨a, cap, rfl, hb⟩))
 obtain ⟨n, hn⟩ : ∃ n, n = c.L.length + 1 := ⟨_, rfl⟩
 rw [← hn] at VC ⊢
 clear h hn
 go_enter Tryz.func14, Tryz.ntmps14
 go_wp2_with (go_at_call 25; refine VC.out.mono ?_; rintro _ w1 ⟨a, cap, rfl, hb1⟩; have B1 := hid hb1; clear hb1)
 go_ret
 exact ⟨a, cap, rfl, B1.out⟩
theorem cview0_c {base : Nat} {w : World} {c : Cv} (h : CvM base w c) (hL : c.L = []) : Calls Tryz.prog 14 #[.pointer (some ⟨c.p, 0, none⟩)] w fun e w' => ∃ a cap, e = .returned (.slice a 1 cap) ∧ Below w.heap.size w w' := by
 have := cview_c h (.inl hL)
 rw [hL] at this
 exact this
theorem cview1_c {base : Nat} {w : World} {c : Cv} (h : CvM base w c) (hL : c.L = [oM]) : Calls Tryz.prog 14 #[.pointer (some ⟨c.p, 0, none⟩)] w fun e w' => ∃ a cap, e = .returned (.slice a 2 cap) ∧ Below w.heap.size w w' := by
 have := cview_c h (.inr hL)
 rw [hL] at this
 exact this
theorem clog0_c {base : Nat} {w : World} {c : Cv} (h : CvM base w c) (hL : c.L = []) : Calls Tryz.prog 15 #[.pointer (some ⟨c.p, 0, none⟩)] w fun e w' => e = .returned (.slice none 0 0) ∧ Below w.heap.size w w' := by
 have k6 : w.cell? ⟨c.p, 6, none⟩ = some c.lv := cell_of_row2 h.2.2.1 6 rfl
 rw [nil_log h.2.2.2.2.2.1 hL] at k6
 have CC := hid (fun W => cloneR_nil W)
 clear h
 go_enter Tryz.func15, Tryz.ntmps15
 go_wp2_with (go_at_call 47; refine (CC.out _).mono ?_; rintro _ w1 ⟨rfl, hb1⟩; have B1 := hid hb1; clear hb1)
 go_ret
 exact ⟨rfl, B1.out⟩
theorem six_all {W : World} {A T : Nat} {u0 u1 u2 u3 u4 u5 : Value} (h : W.heap[A]? = some (.cells #[u0, u1, u2, u3, u4, u5] T (0, 0))) (v0 v1 v2 v3 v4 v5 : Value) :
   ((((((W.setCell ⟨A, 0, none⟩ (v0)).setCell ⟨A, 1, none⟩ (v1)).setCell ⟨A, 2, none⟩ (v2)).setCell ⟨A, 3, none⟩ (v3)).setCell ⟨A, 4, none⟩ (v4)).setCell ⟨A, 5, none⟩ (v5)).heap[A]? = some (.cells #[v0, v1, v2, v3, v4, v5] T (0, 0)) := by
 simp only [World.setCell]
 simp [Array.getElem?_modify, h]
theorem ou_six (W : World) (A : Nat) (v0 v1 v2 v3 v4 v5 : Value) : Ou (fun k => k = A) W ((((((W.setCell ⟨A, 0, none⟩ (v0)).setCell ⟨A, 1, none⟩ (v1)).setCell ⟨A, 2, none⟩ (v2)).setCell ⟨A, 3, none⟩ (v3)).setCell ⟨A, 4, none⟩ (v4)).setCell ⟨A, 5, none⟩ (v5)) := by
 exact (((((((Ou.of (S := fun k => k = A) (Below.refl _ _)).set rfl).set rfl).set rfl).set rfl).set rfl).set rfl)
theorem Ou.trans2 {S S' : Nat → Prop} {w w1 w2 : World} (h : Ou S w w1) (h2 : Ou S' w1 w2) (hS : ∀ k, S' k → S k ∨ w.heap.size ≤ k) : Ou S w w2 :=
 ⟨h2.os.trans h.os, h2.tape.trans h.tape, h2.output.trans h.output, Nat.le_trans h.size h2.size, fun k hk hn => (h2.block k (Nat.lt_of_lt_of_le hk h.size) (fun q => (hS k q).elim hn (fun e => absurd hk (Nat.not_lt.2 e)))).trans (h.block k hk hn)⟩
def Cv.under (c : Cv) (n : Nat) : Prop := c.p < n ∧ c.j < n ∧ c.d < n ∧ c.b1 < n ∧ c.b2 < n ∧ c.cb < n ∧ c.cm < n ∧ c.ch < n ∧ c.g < n ∧ c.s < n
theorem CvM.blks {base : Nat} {w : World} {c : Cv} (h : CvM base w c) : c.under w.heap.size := by
 obtain ⟨⟨_, _, m1⟩, ⟨_, _, m2⟩⟩ := h.1.maps
 obtain ⟨_, _, _, _, _, l1, l2, l3, _⟩ := h.2.1.cells
 obtain ⟨on, cc, kk, LL, q1, q2⟩ := h.1
 exact ⟨lt_blkR h.2.2.1, lt_blkR q1.1, lt_blkR q1.2.1.1, lt_blkR m1, lt_blkR m2, l1, l2, l3, lt_blkR h.2.2.2.1, lt_blkR h.2.2.2.2.1⟩
theorem CvM.ou0 {base : Nat} {w w' : World} {c : Cv} (h : CvM base w c) (hL : c.L = []) {S : Nat → Prop} (ho : Ou S w w') (n : Nat) (hS : ∀ k, S k → n ≤ k) (hb : c.under n) : CvM base w' c := by
 obtain ⟨u1, u2, u3, u4, u5, u6, u7, u8, u9, u10⟩ := hb
 have no : ∀ k, k < n → ¬ S k := fun k hk q => absurd hk (Nat.not_lt.2 (hS k q))
 have hlv := nil_log h.2.2.2.2.2.1 hL
 obtain ⟨h1, h2, h3, h4, h5, h6, ⟨k1, k2, k3, k4, k5, k6, k7⟩, h8⟩ := h
 exact ⟨h1.ou ho (no _ u2) (no _ u3) (no _ u4) (no _ u5), h2.out ho (no _ u6) (no _ u7) (no _ u8), (ho.block _ (lt_blkR h3) (no _ u1)).trans h3, (ho.block _ (lt_blkR h4) (no _ u9)).trans h4, (ho.block _ (lt_blkR h5) (no _ u10)).trans h5, .inl ⟨hlv, hL⟩, ⟨k1, k2, k3, k4, k5, k6, Nat.le_trans k7 ho.size⟩, h8⟩
def StNoP (base : Nat) (c : Cv) (w : World) (e : Ending) (w' : World) : Prop := e = .returned (.tuple #[.agg #[.int .u32 0, .int .u8 0, .int .u16 0, .int .u16 0, .slice none 0 0, .slice none 0 0], .int .i64 11]) ∧ CvM base w' c ∧ Ou (Tri c.cb c.cm c.ch) w w'
def StOkP (base : Nat) (c : Cv) (w : World) (e : Ending) (w' : World) : Prop := ∃ da dc ka kc, e = .returned (.tuple #[.agg #[.int .u32 1, .int .u8 2, .int .u16 0, .int .u16 0, .slice da 0 dc, .slice ka 0 kc], .int .i64 0]) ∧ CvM base w' (rchC c) ∧ Ou (Tri c.cb c.cm c.ch) w w'
set_option maxHeartbeats 4000000 in
theorem statno_c {base : Nat} {w : World} {c : Cv} (h : CvM base w c) (hL : c.L = []) (hk : CaK c.ca) (hp : c.ca.has 1 = false → c.lk = true → (∀ i, c.ca.f i = none) ∧ c.ca.m = 0) (hr : rchB c = false) :
   Calls Tryz.prog 7 #[.pointer (some ⟨c.p, 0, none⟩), .string ⟨#[47]⟩] w (StNoP base c w) := by
 have b0 := below_1 w (.cells #[.int .u32 0, .int .u8 0, .int .u16 0, .int .u16 0, .slice none 0 0, .slice none 0 0] 40)
 have g0 := heap_alloc_new w (.cells #[.int .u32 0, .int .u8 0, .int .u16 0, .int .u16 0, .slice none 0 0, .slice none 0 0] 40)
 have H := hid h
 have B0 := hid b0
 have VC := hid (view_c (h.later b0) (.inl hL))
 have FC := hid (fun (W : World) (a : Option Addr) (cap : Nat) (l : List Nd) (ht : Tr W a l) (he : l.map Nd.er = vwL c.L) => find1_c a cap l W ht.1 (fd_ok he (.inl hL)))
 have G0 := hid g0
 have NT : Hid (¬ Tri c.cb c.cm c.ch w.heap.size) := hid (fun q => by
   obtain ⟨_, _, _, _, _, l1, l2, l3, _⟩ := h.2.1.cells
   rcases q with q | q | q <;> omega)
 have RN : rchC c = c := by unfold rchC; rw [hr]; rfl
 have RC : Hid (∀ W, Below w.heap.size w W → Calls Tryz.prog 27 #[.pointer (some ⟨c.p, 0, none⟩), .int .u32 1] W fun e w' => e = .returned (.int .i64 11) ∧ CvM base w' c ∧ Ou (Tri c.cb c.cm c.ch) W w') := hid (fun W hW => (reach_c (h.later hW) hk hp).mono (fun e w' q => by
   unfold RchP at q
   rw [RN, hr] at q
   exact q))
 clear h b0 g0 hL hk hp hr RN
 go_enter Tryz.func7, Tryz.ntmps7
 go_upto_region 3 with fail
 generalize (w.alloc (.cells #[.int .u32 0, .int .u8 0, .int .u16 0, .int .u16 0, .slice none 0 0, .slice none 0 0] 40)) = V at *
 go_upto_region 7 with (first
   | (go_at_call 26; refine (FC.out _ a c0 l T1.out E1.out).mono ?_; rintro _ w2 ⟨rfl, hb2⟩; have D2 := hid (D1.out.trans (hb2.mono D1.out.size)); have T2 := hid (T1.out.later hb2); have R2 := hid ((hb2.block _ (lt_blkR R1.out)).trans R1.out); clear hb2)
   | (go_at_call 25; refine VC.out.mono ?_; rintro _ w1 ⟨a, c0, l, rfl, ht1, he1, hb1⟩; have D1 := hid (B0.out.trans (hb1.mono B0.out.size)); have T1 := hid ht1; have E1 := hid he1; have R1 := hid ((hb1.block _ (lt_blkR G0.out)).trans G0.out); clear ht1 he1 hb1))
 go_upto_region 9 with (go_at_call 27; refine (RC.out _ D2.out).mono ?_; rintro _ w3 ⟨rfl, hc3, ho3⟩; have C3 := hid hc3; have O3 := hid ho3; clear hc3 ho3)
 have R3 := (O3.out.block _ (lt_blkR R2.out) NT.out).trans R2.out
 have z0 : w3.cell? ⟨w.heap.size, 0, none⟩ = some (.int .u32 0) := cell_of_row2 R3 0 rfl
 have z1 : w3.cell? ⟨w.heap.size, 1, none⟩ = some (.int .u8 0) := cell_of_row2 R3 1 rfl
 have z2 : w3.cell? ⟨w.heap.size, 2, none⟩ = some (.int .u16 0) := cell_of_row2 R3 2 rfl
 have z3 : w3.cell? ⟨w.heap.size, 3, none⟩ = some (.int .u16 0) := cell_of_row2 R3 3 rfl
 have z4 : w3.cell? ⟨w.heap.size, 4, none⟩ = some (.slice none 0 0) := cell_of_row2 R3 4 rfl
 have z5 : w3.cell? ⟨w.heap.size, 5, none⟩ = some (.slice none 0 0) := cell_of_row2 R3 5 rfl
 have fz : ∀ i, w3.frozen? ⟨w.heap.size, i, none⟩ = false := fun i => (by simp [World.frozen?, R3])
 go_wp2
 have Q4 := six_all R3 (.int .u32 0) (.int .u8 0) (.int .u16 0) (.int .u16 0) (.slice none 0 0) (.slice none 0 0)
 have O4 := ou_six w3 w.heap.size (.int .u32 0) (.int .u8 0) (.int .u16 0) (.int .u16 0) (.slice none 0 0) (.slice none 0 0)
 have zz : w.heap.size ≤ w3.heap.size := Nat.le_trans D2.out.size O3.out.size
 have B4 : Below w3.heap.size w3 ((((((w3.setCell ⟨w.heap.size, 0, none⟩ (.int .u32 0)).setCell ⟨w.heap.size, 1, none⟩ (.int .u8 0)).setCell ⟨w.heap.size, 2, none⟩ (.int .u16 0)).setCell ⟨w.heap.size, 3, none⟩ (.int .u16 0)).setCell ⟨w.heap.size, 4, none⟩ (.slice none 0 0)).setCell ⟨w.heap.size, 5, none⟩ (.slice none 0 0)) := ⟨O4.os, O4.tape, O4.output, O4.size, fun k hk => by
   by_cases e : k = w.heap.size
   · rw [e, Q4, R3]
   · exact O4.block k hk e⟩
 have C4 := hid (C3.out.later B4)
 have O5 := hid (((Ou.of D2.out).trans O3.out).trans (Ou.of B4))
 clear z0 z1 z2 z3 z4 z5 fz O4 B4 R3
 generalize ((((((w3.setCell ⟨w.heap.size, 0, none⟩ (.int .u32 0)).setCell ⟨w.heap.size, 1, none⟩ (.int .u8 0)).setCell ⟨w.heap.size, 2, none⟩ (.int .u16 0)).setCell ⟨w.heap.size, 3, none⟩ (.int .u16 0)).setCell ⟨w.heap.size, 4, none⟩ (.slice none 0 0)).setCell ⟨w.heap.size, 5, none⟩ (.slice none 0 0)) = w4 at *
 have z0 : w4.cell? ⟨w.heap.size, 0, none⟩ = some (.int .u32 0) := cell_of_row2 Q4 0 rfl
 have z1 : w4.cell? ⟨w.heap.size, 1, none⟩ = some (.int .u8 0) := cell_of_row2 Q4 1 rfl
 have z2 : w4.cell? ⟨w.heap.size, 2, none⟩ = some (.int .u16 0) := cell_of_row2 Q4 2 rfl
 have z3 : w4.cell? ⟨w.heap.size, 3, none⟩ = some (.int .u16 0) := cell_of_row2 Q4 3 rfl
 have z4 : w4.cell? ⟨w.heap.size, 4, none⟩ = some (.slice none 0 0) := cell_of_row2 Q4 4 rfl
 have z5 : w4.cell? ⟨w.heap.size, 5, none⟩ = some (.slice none 0 0) := cell_of_row2 Q4 5 rfl
 go_wp2
 refine bodyPost_ret (v := .tuple #[.agg #[.int .u32 0, .int .u8 0, .int .u16 0, .int .u16 0, .slice none 0 0, .slice none 0 0], .int .i64 11]) (by simp [results, Tryz.results7, go_sem, z0, z1, z2, z3, z4, z5]) rfl ⟨rfl, C4.out, O5.out⟩
set_option maxHeartbeats 4000000 in
theorem statok_c {base : Nat} {w : World} {c : Cv} (h : CvM base w c) (hL : c.L = []) (hk : CaK c.ca) (hp : c.ca.has 1 = false → c.lk = true → (∀ i, c.ca.f i = none) ∧ c.ca.m = 0) (hr : rchB c = true) :
   Calls Tryz.prog 7 #[.pointer (some ⟨c.p, 0, none⟩), .string ⟨#[47]⟩] w (StOkP base c w) := by
 have b0 := below_1 w (.cells #[.int .u32 0, .int .u8 0, .int .u16 0, .int .u16 0, .slice none 0 0, .slice none 0 0] 40)
 have g0 := heap_alloc_new w (.cells #[.int .u32 0, .int .u8 0, .int .u16 0, .int .u16 0, .slice none 0 0, .slice none 0 0] 40)
 have H := hid h
 have B0 := hid b0
 have VC := hid (view_c (h.later b0) (.inl hL))
 have FC := hid (fun (W : World) (a : Option Addr) (cap : Nat) (l : List Nd) (ht : Tr W a l) (he : l.map Nd.er = vwL c.L) => find1_c a cap l W ht.1 (fd_ok he (.inl hL)))
 have G0 := hid g0
 have NT : Hid (¬ Tri c.cb c.cm c.ch w.heap.size) := hid (fun q => by
   obtain ⟨_, _, _, _, _, l1, l2, l3, _⟩ := h.2.1.cells
   rcases q with q | q | q <;> omega)
 have RC : Hid (∀ W, Below w.heap.size w W → Calls Tryz.prog 27 #[.pointer (some ⟨c.p, 0, none⟩), .int .u32 1] W fun e w' => e = .returned (.int .i64 0) ∧ CvM base w' (rchC c) ∧ Ou (Tri c.cb c.cm c.ch) W w') := hid (fun W hW => (reach_c (h.later hW) hk hp).mono (fun e w' q => by
   unfold RchP at q
   rw [hr] at q
   exact q))
 have TR := hid (fun W (hW : Below w.heap.size w W) (W' : World) a l (ht : Tr W a l) (ho : Ou (Tri c.cb c.cm c.ch) W W') => ht.cst (Cst.of (h.later hW).2.1 ho))
 have HL : Hid ((rchC c).L = []) := hid hL
 have G1 := hid (fun (W : World) (a : Option Addr) (cap : Nat) (l : List Nd) (ht : Tr W a l) (he : l.map Nd.er = vwL c.L) => get1_c cap ht (by rw [he, hL]))
 clear h b0 g0 hL hk hp hr
 go_enter Tryz.func7, Tryz.ntmps7
 go_upto_region 3 with fail
 generalize (w.alloc (.cells #[.int .u32 0, .int .u8 0, .int .u16 0, .int .u16 0, .slice none 0 0, .slice none 0 0] 40)) = V at *
 go_upto_region 7 with (first
   | (go_at_call 26; refine (FC.out _ a c0 l T1.out E1.out).mono ?_; rintro _ w2 ⟨rfl, hb2⟩; have D2 := hid (D1.out.trans (hb2.mono D1.out.size)); have T2 := hid (T1.out.later hb2); have R2 := hid ((hb2.block _ (lt_blkR R1.out)).trans R1.out); clear hb2)
   | (go_at_call 25; refine VC.out.mono ?_; rintro _ w1 ⟨a, c0, l, rfl, ht1, he1, hb1⟩; have D1 := hid (B0.out.trans (hb1.mono B0.out.size)); have T1 := hid ht1; have E1 := hid he1; have R1 := hid ((hb1.block _ (lt_blkR G0.out)).trans G0.out); clear ht1 he1 hb1))
 go_upto_region 10 with (go_at_call 27; refine (RC.out _ D2.out).mono ?_; rintro _ w3 ⟨rfl, hc3, ho3⟩; have C3 := hid hc3; have O3 := hid ho3; have T3 := hid (TR.out _ D2.out _ a l T2.out ho3); clear hc3 ho3)
 have R3 := (O3.out.block _ (lt_blkR R2.out) NT.out).trans R2.out
 go_upto_region 11 with (go_at_call 28; refine (G1.out _ a c0 l T3.out E1.out).mono ?_; rintro _ w4 ⟨da, dc, ka, kc, rfl, hb4⟩; have B4 := hid hb4; clear hb4)
 have b5 := below_1 w4 (.cells #[.int .u32 1, .int .u8 2, .int .u16 0, .int .u16 0, .slice da 0 dc, .slice ka 0 kc] 40)
 have g5 := heap_alloc_new w4 (.cells #[.int .u32 1, .int .u8 2, .int .u16 0, .int .u16 0, .slice da 0 dc, .slice ka 0 kc] 40)
 have B5 := hid (B4.out.trans (b5.mono B4.out.size))
 have R5 := (B5.out.block _ (lt_blkR R3)).trans R3
 have zz : w.heap.size ≤ w3.heap.size := Nat.le_trans D2.out.size O3.out.size
 clear b5
 generalize (w4.alloc (.cells #[.int .u32 1, .int .u8 2, .int .u16 0, .int .u16 0, .slice da 0 dc, .slice ka 0 kc] 40)) = X at *
 have y0 : X.cell? ⟨w4.heap.size, 0, none⟩ = some (.int .u32 1) := cell_of_row2 g5 0 rfl
 have y1 : X.cell? ⟨w4.heap.size, 1, none⟩ = some (.int .u8 2) := cell_of_row2 g5 1 rfl
 have y2 : X.cell? ⟨w4.heap.size, 2, none⟩ = some (.int .u16 0) := cell_of_row2 g5 2 rfl
 have y3 : X.cell? ⟨w4.heap.size, 3, none⟩ = some (.int .u16 0) := cell_of_row2 g5 3 rfl
 have y4 : X.cell? ⟨w4.heap.size, 4, none⟩ = some (.slice da 0 dc) := cell_of_row2 g5 4 rfl
 have y5 : X.cell? ⟨w4.heap.size, 5, none⟩ = some (.slice ka 0 kc) := cell_of_row2 g5 5 rfl
 have z0 : X.cell? ⟨w.heap.size, 0, none⟩ = some (.int .u32 0) := cell_of_row2 R5 0 rfl
 have z1 : X.cell? ⟨w.heap.size, 1, none⟩ = some (.int .u8 0) := cell_of_row2 R5 1 rfl
 have z2 : X.cell? ⟨w.heap.size, 2, none⟩ = some (.int .u16 0) := cell_of_row2 R5 2 rfl
 have z3 : X.cell? ⟨w.heap.size, 3, none⟩ = some (.int .u16 0) := cell_of_row2 R5 3 rfl
 have z4 : X.cell? ⟨w.heap.size, 4, none⟩ = some (.slice none 0 0) := cell_of_row2 R5 4 rfl
 have z5 : X.cell? ⟨w.heap.size, 5, none⟩ = some (.slice none 0 0) := cell_of_row2 R5 5 rfl
 have fz : ∀ i, X.frozen? ⟨w.heap.size, i, none⟩ = false := fun i => (by simp [World.frozen?, R5])
 go_wp2
 have Q6 := six_all R5 (.int .u32 1) (.int .u8 2) (.int .u16 0) (.int .u16 0) (.slice da 0 dc) (.slice ka 0 kc)
 have O6 := ou_six X w.heap.size (.int .u32 1) (.int .u8 2) (.int .u16 0) (.int .u16 0) (.slice da 0 dc) (.slice ka 0 kc)
 have B6 : Below w.heap.size X ((((((X.setCell ⟨w.heap.size, 0, none⟩ (.int .u32 1)).setCell ⟨w.heap.size, 1, none⟩ (.int .u8 2)).setCell ⟨w.heap.size, 2, none⟩ (.int .u16 0)).setCell ⟨w.heap.size, 3, none⟩ (.int .u16 0)).setCell ⟨w.heap.size, 4, none⟩ (.slice da 0 dc)).setCell ⟨w.heap.size, 5, none⟩ (.slice ka 0 kc)) := O6.below (Nat.le_trans zz B5.out.size) (fun k e => Nat.le_of_eq e.symm)
 have C6 := hid (CvM.ou0 (C3.out.later B5.out) HL.out O6 w.heap.size (fun k e => Nat.le_of_eq e.symm) H.out.blks)
 have O9 := hid (((Ou.of D2.out).trans O3.out).trans (Ou.of B5.out) |>.trans2 O6 (fun k e => .inr (by rw [e]; exact Nat.le_refl _)))
 clear y0 y1 y2 y3 y4 y5 z0 z1 z2 z3 z4 z5 fz O6 B6 R5 R3 g5
 generalize ((((((X.setCell ⟨w.heap.size, 0, none⟩ (.int .u32 1)).setCell ⟨w.heap.size, 1, none⟩ (.int .u8 2)).setCell ⟨w.heap.size, 2, none⟩ (.int .u16 0)).setCell ⟨w.heap.size, 3, none⟩ (.int .u16 0)).setCell ⟨w.heap.size, 4, none⟩ (.slice da 0 dc)).setCell ⟨w.heap.size, 5, none⟩ (.slice ka 0 kc)) = Y at *
 have z0 : Y.cell? ⟨w.heap.size, 0, none⟩ = some (.int .u32 1) := cell_of_row2 Q6 0 rfl
 have z1 : Y.cell? ⟨w.heap.size, 1, none⟩ = some (.int .u8 2) := cell_of_row2 Q6 1 rfl
 have z2 : Y.cell? ⟨w.heap.size, 2, none⟩ = some (.int .u16 0) := cell_of_row2 Q6 2 rfl
 have z3 : Y.cell? ⟨w.heap.size, 3, none⟩ = some (.int .u16 0) := cell_of_row2 Q6 3 rfl
 have z4 : Y.cell? ⟨w.heap.size, 4, none⟩ = some (.slice da 0 dc) := cell_of_row2 Q6 4 rfl
 have z5 : Y.cell? ⟨w.heap.size, 5, none⟩ = some (.slice ka 0 kc) := cell_of_row2 Q6 5 rfl
 go_wp2
 refine bodyPost_ret (v := .tuple #[.agg #[.int .u32 1, .int .u8 2, .int .u16 0, .int .u16 0, .slice da 0 dc, .slice ka 0 kc], .int .i64 0]) (by simp [results, Tryz.results7, go_sem, z0, z1, z2, z3, z4, z5]) rfl ⟨da, dc, ka, kc, rfl, C6.out, O9.out⟩
theorem clistno_c {base : Nat} {w : World} {c : Cv} (h : CvM base w c) (hL : c.L = []) (hk : CaK c.ca) (hp : c.ca.has 1 = false → c.lk = true → (∀ i, c.ca.f i = none) ∧ c.ca.m = 0) (hr : rchB c = false) :
   Calls Tryz.prog 6 #[.pointer (some ⟨c.p, 0, none⟩), .string ⟨#[47]⟩] w fun e w' => e = .returned (.tuple #[.slice none 0 0, .int .i64 11]) ∧ CvM base w' c ∧ Below base w w' := by
 have SC := hid (statno_c h hL hk hp hr)
 have H := hid h
 clear h hL hk hp hr
 go_enter Tryz.func6, Tryz.ntmps6
 go_wp2_with (go_at_call 7; refine SC.out.mono ?_; rintro _ w1 ⟨rfl, hc1, ho1⟩; have C1 := hid hc1; have O1 := hid ho1; clear hc1 ho1)
 go_ret2
 have b2 := below_1 w1 (.cells #[.int .u32 0, .int .u8 0, .int .u16 0, .int .u16 0, .slice none 0 0, .slice none 0 0] 40)
 exact ⟨rfl, C1.out.later b2, (O1.out.below H.out.sz H.out.baseTri).trans (b2.mono (Nat.le_trans H.out.sz O1.out.size))⟩
theorem clistok_c {base : Nat} {w : World} {c : Cv} (h : CvM base w c) (hL : c.L = []) (hk : CaK c.ca) (hp : c.ca.has 1 = false → c.lk = true → (∀ i, c.ca.f i = none) ∧ c.ca.m = 0) (hr : rchB c = true) :
   Calls Tryz.prog 6 #[.pointer (some ⟨c.p, 0, none⟩), .string ⟨#[47]⟩] w fun e w' => e = .returned (.tuple #[.slice none 0 0, .int .i64 0]) ∧ CvM base w' (rchC c) ∧ Below base w w' := by
 have SC := hid (statok_c h hL hk hp hr)
 have H := hid h
 clear h hL hk hp hr
 go_enter Tryz.func6, Tryz.ntmps6
 go_upto_region 2 with (go_at_call 7; refine SC.out.mono ?_; rintro _ w1 ⟨da, dc, ka, kc, rfl, hc1, ho1⟩; have C1 := hid hc1; have O1 := hid ho1; clear hc1 ho1)
 have b2 := below_1 w1 (.cells #[.int .u32 1, .int .u8 2, .int .u16 0, .int .u16 0, .slice da 0 dc, .slice ka 0 kc] 40)
 have g2 := heap_alloc_new w1 (.cells #[.int .u32 1, .int .u8 2, .int .u16 0, .int .u16 0, .slice da 0 dc, .slice ka 0 kc] 40)
 have B2 := hid b2
 clear b2
 generalize (w1.alloc (.cells #[.int .u32 1, .int .u8 2, .int .u16 0, .int .u16 0, .slice da 0 dc, .slice ka 0 kc] 40)) = X at *
 have y0 : X.cell? ⟨w1.heap.size, 0, none⟩ = some (.int .u32 1) := cell_of_row2 g2 0 rfl
 have y1 : X.cell? ⟨w1.heap.size, 1, none⟩ = some (.int .u8 2) := cell_of_row2 g2 1 rfl
 have y2 : X.cell? ⟨w1.heap.size, 2, none⟩ = some (.int .u16 0) := cell_of_row2 g2 2 rfl
 have y3 : X.cell? ⟨w1.heap.size, 3, none⟩ = some (.int .u16 0) := cell_of_row2 g2 3 rfl
 have y4 : X.cell? ⟨w1.heap.size, 4, none⟩ = some (.slice da 0 dc) := cell_of_row2 g2 4 rfl
 have y5 : X.cell? ⟨w1.heap.size, 5, none⟩ = some (.slice ka 0 kc) := cell_of_row2 g2 5 rfl
 go_wp2
 refine wp_loop_rounds 1 ?_
 rw [rounds_succ]
 go_wp2
 go_ret2
 exact ⟨rfl, C1.out.later B2.out, (O1.out.below H.out.sz H.out.baseTri).trans (B2.out.mono (Nat.le_trans H.out.sz O1.out.size))⟩
end Go.Proofs.YtfmghbennahlfaaGreat
