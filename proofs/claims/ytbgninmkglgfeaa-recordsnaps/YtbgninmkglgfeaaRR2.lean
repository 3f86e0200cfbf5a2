/-
  The document's Reader.Op.
-/
import Derived.Test.YtbgninmkglgfeaaRR1
import Derived.Test.YtbgninmkglgfeaaRF4
namespace Go.Proofs.Ytbgninmkglgfeaa
open Go.RowKit Go.ChangeShapes Go.WideShapes Go.ChangeAt
set_option linter.unusedVariables false
set_option linter.unusedSimpArgs false
set_option maxRecDepth 100000
theorem Nr_in {zs : List Int} (h : ∀ i, 0 ≤ zs.getD i 0 ∧ zs.getD i 0 ≤ 255) (bd : Bool) (k : Nat) : ∀ i, 0 ≤ (Nr bd zs k).2.2.getD i 0 ∧ (Nr bd zs k).2.2.getD i 0 ≤ 255 := fun i => by
  unfold Nr
  split
  · simp only [List.getD, List.getElem?_drop]; exact h (k + i)
  · exact h i
theorem Tr_in {zs : List Int} (h : ∀ i, 0 ≤ zs.getD i 0 ∧ zs.getD i 0 ≤ 255) (bd : Bool) : ∀ i, 0 ≤ (Tr bd zs).2.2.getD i 0 ∧ (Tr bd zs).2.2.getD i 0 ≤ 255 := fun i => by
  unfold Tr
  split
  · simp only [List.getD, List.getElem?_drop]; exact Nr_in h bd 1 ((Nr bd zs 1).1.toNat + i)
  · exact Nr_in h bd 1 i
theorem Tr_size {zs : List Int} (h : ∀ i, 0 ≤ zs.getD i 0 ∧ zs.getD i 0 ≤ 255) (bd : Bool) : (Tr bd zs).1.size ≤ 255 := by
  have := Nr_bd h bd 1
  unfold Tr
  split
  · simp only [tx_size, List.length_take]; omega
  · exact Nat.zero_le _
theorem cellN {w : World} {g : Nat} {cs : List Value} {t : TypeId} (h : w.heap[g]? = some (.cells cs.toArray t (0, 0))) (j : Nat) {v : Value} (hv : cs[j]? = some v) : w.cell? ⟨g, j, none⟩ = some v ∧ w.frozen? ⟨g, j, none⟩ = false := by
  refine ⟨?_, by simp [World.frozen?, h]⟩
  rw [cell_of_row w g _ _ t _ h]; simpa using hv
theorem setN {w : World} {g : Nat} {cs : List Value} {t : TypeId} (h : w.heap[g]? = some (.cells cs.toArray t (0, 0))) (j : Nat) (v : Value) : (w.setCell ⟨g, j, none⟩ v).heap[g]? = some (.cells (cs.set j v).toArray t (0, 0)) := by
  rw [heap_setCell_same w g j _ t v h]; simp
theorem RdR.set {w : World} {r : Nat} {bd : Bool} {zs : List Int} {G j : Nat} {v : Value} (h : RdR w r bd zs) (hG : r < G) : RdR (w.setCell ⟨G, j, none⟩ v) r bd zs := by
  obtain ⟨a, len, c, h1, h2, h3, h4⟩ := h
  refine ⟨a, len, c, (heap_setCell_other _ _ _ _ (by show r ≠ G; omega)).trans h1, ?_, h3, h4⟩
  rcases h4 with ⟨h5, _⟩ | ⟨b, off, rfl, hb⟩
  · subst h5
    exact isB_noneF _ _ h2
  · exact isB_blkF h2 (heap_setCell_other _ _ _ _ (by show b ≠ G; omega))
theorem Kf.far {r G j : Nat} {a w : World} {v : Value} (h : Kf r a w) (hG : a.heap.size ≤ G) : Kf r a (w.setCell ⟨G, j, none⟩ v) :=
  ⟨h.os, h.tape, h.output, by have := h.size; simp [World.setCell]; omega, fun k hk hne => (heap_setCell_other _ _ _ _ (by show k ≠ G; omega)).trans (h.block k hk hne)⟩
theorem rdN1 {w : World} {r : Nat} {bd b : Bool} {zs z : List Int} {n : Int} (h : RdR w r bd zs) (e : Nr bd zs 1 = (n, b, z)) :
    Calls Try.prog 31 #[.pointer (some ⟨r, 0, none⟩), .int .i64 1] w fun e w' => e = .returned (.int .u64 n) ∧ Kf r w w' ∧ RdR w' r b z := by
  have := rdNum_c h 1 (by omega) (by omega)
  rw [e] at this
  exact this
theorem rdN2 {w : World} {r : Nat} {bd b : Bool} {zs z : List Int} {n : Int} (h : RdR w r bd zs) (e : Nr bd zs 2 = (n, b, z)) :
    Calls Try.prog 31 #[.pointer (some ⟨r, 0, none⟩), .int .i64 2] w fun e w' => e = .returned (.int .u64 n) ∧ Kf r w w' ∧ RdR w' r b z := by
  have := rdNum_c h 2 (by omega) (by omega)
  rw [e] at this
  exact this
theorem rdN4 {w : World} {r : Nat} {bd b : Bool} {zs z : List Int} {n : Int} (h : RdR w r bd zs) (e : Nr bd zs 4 = (n, b, z)) :
    Calls Try.prog 31 #[.pointer (some ⟨r, 0, none⟩), .int .i64 4] w fun e w' => e = .returned (.int .u64 n) ∧ Kf r w w' ∧ RdR w' r b z := by
  have := rdNum_c h 4 (by omega) (by omega)
  rw [e] at this
  exact this
theorem rdN8 {w : World} {r : Nat} {bd b : Bool} {zs z : List Int} {n : Int} (h : RdR w r bd zs) (e : Nr bd zs 8 = (n, b, z)) :
    Calls Try.prog 31 #[.pointer (some ⟨r, 0, none⟩), .int .i64 8] w fun e w' => e = .returned (.int .u64 n) ∧ Kf r w w' ∧ RdR w' r b z := by
  have := rdNum_c h 8 (by omega) (by omega)
  rw [e] at this
  exact this
theorem rdT {w : World} {r : Nat} {bd b : Bool} {zs z : List Int} {s : ByteArray} (h : RdR w r bd zs) (e : Tr bd zs = (s, b, z)) :
    Calls Try.prog 32 #[.pointer (some ⟨r, 0, none⟩)] w fun e w' => e = .returned (.string s) ∧ Kf r w w' ∧ RdR w' r b z := by
  have := rdTxt_c h
  rw [e] at this
  exact this
/-- An operation laid into a block, cell by cell. -/
def opW (g : Nat) (n0 n1 n2 : Int) (s3 : ByteArray) (n4 : Int) (s5 : ByteArray) (n6 : Int) (s7 : ByteArray) (W : World) : World :=
  (((((((W.setCell ⟨g, 0, none⟩ (.int .u8 n0)).setCell ⟨g, 1, none⟩ (.int .u32 n1)).setCell ⟨g, 2, none⟩ (.int .u32 n2)).setCell ⟨g, 3, none⟩ (.string s3)).setCell ⟨g, 4, none⟩ (.int .u32 n4)).setCell ⟨g, 5, none⟩ (.string s5)).setCell ⟨g, 6, none⟩ (.int .u16 n6)).setCell ⟨g, 7, none⟩ (.string s7)
theorem op_chain {W : World} {g : Nat} {n0 n1 n2 : Int} {s3 : ByteArray} {n4 : Int} {s5 : ByteArray} {n6 : Int} {s7 : ByteArray} (h : W.heap[g]? = some (.cells Rec.no.ops.toArray 29 (0, 0))) : (opW g n0 n1 n2 s3 n4 s5 n6 s7 W).heap[g]? = some (.cells (Rec.ops ⟨n0, n1, n2, s3, n4, s5, n6, s7, 0⟩).toArray 29 (0, 0)) :=
  setN (setN (setN (setN (setN (setN (setN (setN h 0 _) 1 _) 2 _) 3 _) 4 _) 5 _) 6 _) 7 _
theorem opW_kf {a W : World} {r : Nat} {n0 n1 n2 : Int} {s3 : ByteArray} {n4 : Int} {s5 : ByteArray} {n6 : Int} {s7 : ByteArray} (h : Kf r a W) : Kf r a (opW a.heap.size n0 n1 n2 s3 n4 s5 n6 s7 W) :=
  (((((((h.far (Nat.le_refl _)).far (Nat.le_refl _)).far (Nat.le_refl _)).far (Nat.le_refl _)).far (Nat.le_refl _)).far (Nat.le_refl _)).far (Nat.le_refl _)).far (Nat.le_refl _)
theorem opW_rd {W : World} {r g : Nat} {bd : Bool} {zs : List Int} {n0 n1 n2 : Int} {s3 : ByteArray} {n4 : Int} {s5 : ByteArray} {n6 : Int} {s7 : ByteArray} (h : RdR W r bd zs) (hg : r < g) : RdR (opW g n0 n1 n2 s3 n4 s5 n6 s7 W) r bd zs :=
  (((((((h.set hg).set hg).set hg).set hg).set hg).set hg).set hg).set hg
set_option maxHeartbeats 8000000 in
theorem rdOp_c {w : World} {r : Nat} {bd : Bool} {zs : List Int} (h : RdR w r bd zs) {n0 : Int} {b0 : Bool} {z0 : List Int} (e0 : Nr bd zs 1 = (n0, b0, z0)) {n1 : Int} {b1 : Bool} {z1 : List Int} (e1 : Nr b0 z0 4 = (n1, b1, z1)) {n2 : Int} {b2 : Bool} {z2 : List Int} (e2 : Nr b1 z1 4 = (n2, b2, z2)) {s3 : ByteArray} {b3 : Bool} {z3 : List Int} (e3 : Tr b2 z2 = (s3, b3, z3)) {n4 : Int} {b4 : Bool} {z4 : List Int} (e4 : Nr b3 z3 4 = (n4, b4, z4)) {s5 : ByteArray} {b5 : Bool} {z5 : List Int} (e5 : Tr b4 z4 = (s5, b5, z5)) {n6 : Int} {b6 : Bool} {z6 : List Int} (e6 : Nr b5 z5 2 = (n6, b6, z6)) {s7 : ByteArray} {b7 : Bool} {z7 : List Int} (e7 : Tr b6 z6 = (s7, b7, z7)) (R : Bool) (hR : rightF ⟨n0, n1, n2, s3, n4, s5, n6, s7, 0⟩ = R) :
    Calls Try.prog 25 #[.pointer (some ⟨r, 0, none⟩)] w fun e w' => e = .returned (Rec.opV ⟨n0, n1, n2, s3, n4, s5, n6, s7, 0⟩) ∧ Kf r w w' ∧ RdR w' r (bif R then b7 else true) z7 := by
  have i_ := h.in
  have g0 := Nr_bd i_ bd 1
  have i0 := Nr_in i_ bd 1
  rw [e0] at g0 i0
  simp only at g0 i0
  have g1 := Nr_bd i0 b0 4
  have i1 := Nr_in i0 b0 4
  rw [e1] at g1 i1
  simp only at g1 i1
  have g2 := Nr_bd i1 b1 4
  have i2 := Nr_in i1 b1 4
  rw [e2] at g2 i2
  simp only at g2 i2
  have g3 := Tr_size i2 b2
  have i3 := Tr_in i2 b2
  rw [e3] at g3 i3
  simp only at g3 i3
  have g4 := Nr_bd i3 b3 4
  have i4 := Nr_in i3 b3 4
  rw [e4] at g4 i4
  simp only at g4 i4
  have g5 := Tr_size i4 b4
  have i5 := Tr_in i4 b4
  rw [e5] at g5 i5
  simp only at g5 i5
  have g6 := Nr_bd i5 b5 2
  have i6 := Nr_in i5 b5 2
  rw [e6] at g6 i6
  simp only at g6 i6
  have g7 := Tr_size i6 b6
  have i7 := Tr_in i6 b6
  rw [e7] at g7 i7
  simp only at g7 i7
  have u0 : IntKind.u8.wrap n0 = n0 := by rw [IntKind.wrap_u8]; omega
  have u1 : IntKind.u32.wrap n1 = n1 := by rw [IntKind.wrap_u32]; omega
  have u2 : IntKind.u32.wrap n2 = n2 := by rw [IntKind.wrap_u32]; omega
  have u4 : IntKind.u32.wrap n4 = n4 := by rw [IntKind.wrap_u32]; omega
  have u6 : IntKind.u16.wrap n6 = n6 := by rw [IntKind.wrap_u16]; omega
  have hwf : Rec.Wf ⟨n0, n1, n2, s3, n4, s5, n6, s7, 0⟩ := ⟨by simp only; omega, by simp only; omega, by simp only; omega, by simp only; omega, by simp only; omega, by simp only; omega, by simp only [maxLen]; omega, by simp only [maxLen]; omega, by simp only [maxLen]; omega⟩
  have RC := hid (fun W => rright_c ⟨n0, n1, n2, s3, n4, s5, n6, s7, 0⟩ W hwf)
  rw [hR] at RC
  have hrl := h.lt
  have b0 := below_1 w (.cells Rec.no.ops.toArray 29)
  have b1 := below_1 (w.alloc (.cells Rec.no.ops.toArray 29)) (.cells Rec.no.ops.toArray 29)
  have hA := heap_alloc_new w (.cells Rec.no.ops.toArray 29)
  have hB := heap_alloc_new (w.alloc (.cells Rec.no.ops.toArray 29)) (.cells Rec.no.ops.toArray 29)
  rw [show (w.alloc (.cells Rec.no.ops.toArray 29)).heap.size = w.heap.size + 1 by simp] at hB
  have hA2 := (b1.block _ (lt_blkR hA)).trans hA
  have bV := b0.trans (b1.mono b0.size)
  have HR0 := hid (h.later bV)
  have K0 : Hid (Kf r w ((w.alloc (.cells Rec.no.ops.toArray 29)).alloc (.cells Rec.no.ops.toArray 29))) := hid (Kf.of bV)
  have hG : r < w.heap.size + 1 := by omega
  have HA := hid hA2
  have HB := hid hB
  have t0 := hid True.intro
  simp only [Rec.opV] at RC ⊢
  have E0 := hid e0
  have E1 := hid e1
  have E2 := hid e2
  have E3 := hid e3
  have E4 := hid e4
  have E5 := hid e5
  have E6 := hid e6
  have E7 := hid e7
  clear i_ i0 g0 e0 i1 g1 e1 i2 g2 e2 i3 g3 e3 i4 g4 e4 i5 g5 e5 i6 g6 e6 i7 g7 e7 h hA hB hA2 b0 b1 bV hwf hR
  have HX := HB
  have HR := HR0
  have K := K0
  clear HB HR0 K0
  cases R with
  | false =>
    go_enter Try.func25, Try.ntmps25
    go_wp2_with (first
      | (have _q := t8.out; clear _q; go_at_call 56; refine (RC.out _).mono ?_; rintro _ w9 ⟨rfl, hb9⟩
         have HX9 := hid ((hb9.block _ (lt_blkR HX.out)).trans HX.out)
         have HA9 := hid ((hb9.block _ (lt_blkR HA.out)).trans HA.out)
         have HR9 := hid (HR.out.later hb9)
         have K9 := hid (K.out.trans (Kf.of hb9))
         have q0 := (cellN HX9.out 0 rfl).1
         have q1 := (cellN HX9.out 1 rfl).1
         have q2 := (cellN HX9.out 2 rfl).1
         have q3 := (cellN HX9.out 3 rfl).1
         have q4 := (cellN HX9.out 4 rfl).1
         have q5 := (cellN HX9.out 5 rfl).1
         have q6 := (cellN HX9.out 6 rfl).1
         have q7 := (cellN HX9.out 7 rfl).1
         obtain ⟨a0, d0⟩ := cellN HA9.out 0 rfl
         obtain ⟨a1, d1⟩ := cellN HA9.out 1 rfl
         obtain ⟨a2, d2⟩ := cellN HA9.out 2 rfl
         obtain ⟨a3, d3⟩ := cellN HA9.out 3 rfl
         obtain ⟨a4, d4⟩ := cellN HA9.out 4 rfl
         obtain ⟨a5, d5⟩ := cellN HA9.out 5 rfl
         obtain ⟨a6, d6⟩ := cellN HA9.out 6 rfl
         obtain ⟨a7, d7⟩ := cellN HA9.out 7 rfl
         obtain ⟨ra, rl, rc, rbox, _⟩ := HR9.out
         obtain ⟨_, rb1, _, rf1⟩ := cellsF rbox
         clear hb9 rbox t8)
      | (have _q := t7.out; clear _q; go_at_call 32; refine (rdT HR.out E7.out).mono ?_; rintro _ w8 ⟨rfl, hk9, hr9⟩
         have HX9 := hid ((hk9.block _ (lt_blkR HX.out) (by omega)).trans HX.out)
         have HA9 := hid ((hk9.block _ (lt_blkR HA.out) (by omega)).trans HA.out)
         obtain ⟨c7, f7⟩ := cellN HX9.out 7 rfl
         have p0 := (cellN HX9.out 0 rfl).1
         have p1 := (cellN HX9.out 1 rfl).1
         have p2 := (cellN HX9.out 2 rfl).1
         have p3 := (cellN HX9.out 3 rfl).1
         have p4 := (cellN HX9.out 4 rfl).1
         have p5 := (cellN HX9.out 5 rfl).1
         have p6 := (cellN HX9.out 6 rfl).1
         have HXn := hid (setN HX9.out 7 (.string s7))
         have HAn : Hid ((w8.setCell ⟨w.heap.size + 1, 7, none⟩ (.string s7)).heap[w.heap.size]? = _) := hid ((heap_setCell_other _ _ _ _ (by show w.heap.size ≠ w.heap.size + 1; omega)).trans HA9.out)
         have HRn : Hid (RdR (w8.setCell ⟨w.heap.size + 1, 7, none⟩ (.string s7)) r b7 z7) := hid (hr9.set hG)
         have Kn : Hid (Kf r w (w8.setCell ⟨w.heap.size + 1, 7, none⟩ (.string s7))) := hid ((K.out.trans hk9).far (Nat.le_succ _))
         have t8 := hid True.intro
         clear hk9 hr9 HX9 HA9 HX HA HR K t7
         have HX := HXn
         have HA := HAn
         have HR := HRn
         have K := Kn
         clear HXn HAn HRn Kn)
      | (have _q := t6.out; clear _q; go_at_call 31; refine (rdN2 HR.out E6.out).mono ?_; rintro _ w7 ⟨rfl, hk9, hr9⟩
         have HX9 := hid ((hk9.block _ (lt_blkR HX.out) (by omega)).trans HX.out)
         have HA9 := hid ((hk9.block _ (lt_blkR HA.out) (by omega)).trans HA.out)
         obtain ⟨c6, f6⟩ := cellN HX9.out 6 rfl
         have HXn := hid (setN HX9.out 6 (.int .u16 n6))
         have HAn : Hid ((w7.setCell ⟨w.heap.size + 1, 6, none⟩ (.int .u16 n6)).heap[w.heap.size]? = _) := hid ((heap_setCell_other _ _ _ _ (by show w.heap.size ≠ w.heap.size + 1; omega)).trans HA9.out)
         have HRn : Hid (RdR (w7.setCell ⟨w.heap.size + 1, 6, none⟩ (.int .u16 n6)) r b6 z6) := hid (hr9.set hG)
         have Kn : Hid (Kf r w (w7.setCell ⟨w.heap.size + 1, 6, none⟩ (.int .u16 n6))) := hid ((K.out.trans hk9).far (Nat.le_succ _))
         have t7 := hid True.intro
         clear hk9 hr9 HX9 HA9 HX HA HR K t6
         have HX := HXn
         have HA := HAn
         have HR := HRn
         have K := Kn
         clear HXn HAn HRn Kn)
      | (have _q := t5.out; clear _q; go_at_call 32; refine (rdT HR.out E5.out).mono ?_; rintro _ w6 ⟨rfl, hk9, hr9⟩
         have HX9 := hid ((hk9.block _ (lt_blkR HX.out) (by omega)).trans HX.out)
         have HA9 := hid ((hk9.block _ (lt_blkR HA.out) (by omega)).trans HA.out)
         obtain ⟨c5, f5⟩ := cellN HX9.out 5 rfl
         have HXn := hid (setN HX9.out 5 (.string s5))
         have HAn : Hid ((w6.setCell ⟨w.heap.size + 1, 5, none⟩ (.string s5)).heap[w.heap.size]? = _) := hid ((heap_setCell_other _ _ _ _ (by show w.heap.size ≠ w.heap.size + 1; omega)).trans HA9.out)
         have HRn : Hid (RdR (w6.setCell ⟨w.heap.size + 1, 5, none⟩ (.string s5)) r b5 z5) := hid (hr9.set hG)
         have Kn : Hid (Kf r w (w6.setCell ⟨w.heap.size + 1, 5, none⟩ (.string s5))) := hid ((K.out.trans hk9).far (Nat.le_succ _))
         have t6 := hid True.intro
         clear hk9 hr9 HX9 HA9 HX HA HR K t5
         have HX := HXn
         have HA := HAn
         have HR := HRn
         have K := Kn
         clear HXn HAn HRn Kn)
      | (have _q := t4.out; clear _q; go_at_call 31; refine (rdN4 HR.out E4.out).mono ?_; rintro _ w5 ⟨rfl, hk9, hr9⟩
         have HX9 := hid ((hk9.block _ (lt_blkR HX.out) (by omega)).trans HX.out)
         have HA9 := hid ((hk9.block _ (lt_blkR HA.out) (by omega)).trans HA.out)
         obtain ⟨c4, f4⟩ := cellN HX9.out 4 rfl
         have HXn := hid (setN HX9.out 4 (.int .u32 n4))
         have HAn : Hid ((w5.setCell ⟨w.heap.size + 1, 4, none⟩ (.int .u32 n4)).heap[w.heap.size]? = _) := hid ((heap_setCell_other _ _ _ _ (by show w.heap.size ≠ w.heap.size + 1; omega)).trans HA9.out)
         have HRn : Hid (RdR (w5.setCell ⟨w.heap.size + 1, 4, none⟩ (.int .u32 n4)) r b4 z4) := hid (hr9.set hG)
         have Kn : Hid (Kf r w (w5.setCell ⟨w.heap.size + 1, 4, none⟩ (.int .u32 n4))) := hid ((K.out.trans hk9).far (Nat.le_succ _))
         have t5 := hid True.intro
         clear hk9 hr9 HX9 HA9 HX HA HR K t4
         have HX := HXn
         have HA := HAn
         have HR := HRn
         have K := Kn
         clear HXn HAn HRn Kn)
      | (have _q := t3.out; clear _q; go_at_call 32; refine (rdT HR.out E3.out).mono ?_; rintro _ w4 ⟨rfl, hk9, hr9⟩
         have HX9 := hid ((hk9.block _ (lt_blkR HX.out) (by omega)).trans HX.out)
         have HA9 := hid ((hk9.block _ (lt_blkR HA.out) (by omega)).trans HA.out)
         obtain ⟨c3, f3⟩ := cellN HX9.out 3 rfl
         have HXn := hid (setN HX9.out 3 (.string s3))
         have HAn : Hid ((w4.setCell ⟨w.heap.size + 1, 3, none⟩ (.string s3)).heap[w.heap.size]? = _) := hid ((heap_setCell_other _ _ _ _ (by show w.heap.size ≠ w.heap.size + 1; omega)).trans HA9.out)
         have HRn : Hid (RdR (w4.setCell ⟨w.heap.size + 1, 3, none⟩ (.string s3)) r b3 z3) := hid (hr9.set hG)
         have Kn : Hid (Kf r w (w4.setCell ⟨w.heap.size + 1, 3, none⟩ (.string s3))) := hid ((K.out.trans hk9).far (Nat.le_succ _))
         have t4 := hid True.intro
         clear hk9 hr9 HX9 HA9 HX HA HR K t3
         have HX := HXn
         have HA := HAn
         have HR := HRn
         have K := Kn
         clear HXn HAn HRn Kn)
      | (have _q := t2.out; clear _q; go_at_call 31; refine (rdN4 HR.out E2.out).mono ?_; rintro _ w3 ⟨rfl, hk9, hr9⟩
         have HX9 := hid ((hk9.block _ (lt_blkR HX.out) (by omega)).trans HX.out)
         have HA9 := hid ((hk9.block _ (lt_blkR HA.out) (by omega)).trans HA.out)
         obtain ⟨c2, f2⟩ := cellN HX9.out 2 rfl
         have HXn := hid (setN HX9.out 2 (.int .u32 n2))
         have HAn : Hid ((w3.setCell ⟨w.heap.size + 1, 2, none⟩ (.int .u32 n2)).heap[w.heap.size]? = _) := hid ((heap_setCell_other _ _ _ _ (by show w.heap.size ≠ w.heap.size + 1; omega)).trans HA9.out)
         have HRn : Hid (RdR (w3.setCell ⟨w.heap.size + 1, 2, none⟩ (.int .u32 n2)) r b2 z2) := hid (hr9.set hG)
         have Kn : Hid (Kf r w (w3.setCell ⟨w.heap.size + 1, 2, none⟩ (.int .u32 n2))) := hid ((K.out.trans hk9).far (Nat.le_succ _))
         have t3 := hid True.intro
         clear hk9 hr9 HX9 HA9 HX HA HR K t2
         have HX := HXn
         have HA := HAn
         have HR := HRn
         have K := Kn
         clear HXn HAn HRn Kn)
      | (have _q := t1.out; clear _q; go_at_call 31; refine (rdN4 HR.out E1.out).mono ?_; rintro _ w2 ⟨rfl, hk9, hr9⟩
         have HX9 := hid ((hk9.block _ (lt_blkR HX.out) (by omega)).trans HX.out)
         have HA9 := hid ((hk9.block _ (lt_blkR HA.out) (by omega)).trans HA.out)
         obtain ⟨c1, f1⟩ := cellN HX9.out 1 rfl
         have HXn := hid (setN HX9.out 1 (.int .u32 n1))
         have HAn : Hid ((w2.setCell ⟨w.heap.size + 1, 1, none⟩ (.int .u32 n1)).heap[w.heap.size]? = _) := hid ((heap_setCell_other _ _ _ _ (by show w.heap.size ≠ w.heap.size + 1; omega)).trans HA9.out)
         have HRn : Hid (RdR (w2.setCell ⟨w.heap.size + 1, 1, none⟩ (.int .u32 n1)) r b1 z1) := hid (hr9.set hG)
         have Kn : Hid (Kf r w (w2.setCell ⟨w.heap.size + 1, 1, none⟩ (.int .u32 n1))) := hid ((K.out.trans hk9).far (Nat.le_succ _))
         have t2 := hid True.intro
         clear hk9 hr9 HX9 HA9 HX HA HR K t1
         have HX := HXn
         have HA := HAn
         have HR := HRn
         have K := Kn
         clear HXn HAn HRn Kn)
      | (have _q := t0.out; clear _q; go_at_call 31; refine (rdN1 HR.out E0.out).mono ?_; rintro _ w1 ⟨rfl, hk9, hr9⟩
         have HX9 := hid ((hk9.block _ (lt_blkR HX.out) (by omega)).trans HX.out)
         have HA9 := hid ((hk9.block _ (lt_blkR HA.out) (by omega)).trans HA.out)
         obtain ⟨c0, f0⟩ := cellN HX9.out 0 rfl
         have HXn := hid (setN HX9.out 0 (.int .u8 n0))
         have HAn : Hid ((w1.setCell ⟨w.heap.size + 1, 0, none⟩ (.int .u8 n0)).heap[w.heap.size]? = _) := hid ((heap_setCell_other _ _ _ _ (by show w.heap.size ≠ w.heap.size + 1; omega)).trans HA9.out)
         have HRn : Hid (RdR (w1.setCell ⟨w.heap.size + 1, 0, none⟩ (.int .u8 n0)) r b0 z0) := hid (hr9.set hG)
         have Kn : Hid (Kf r w (w1.setCell ⟨w.heap.size + 1, 0, none⟩ (.int .u8 n0))) := hid ((K.out.trans hk9).far (Nat.le_succ _))
         have t1 := hid True.intro
         clear hk9 hr9 HX9 HA9 HX HA HR K t0
         have HX := HXn
         have HA := HAn
         have HR := HRn
         have K := Kn
         clear HXn HAn HRn Kn))
    have CH := op_chain (n0 := n0) (n1 := n1) (n2 := n2) (s3 := s3) (n4 := n4) (s5 := s5) (n6 := n6) (s7 := s7) (W := w9.setCell ⟨r, 1, none⟩ (.bool true)) ((heap_setCell_other _ _ _ _ (by show w.heap.size ≠ r; omega)).trans HA9.out)
    have KF : Hid (Kf r w (opW w.heap.size n0 n1 n2 s3 n4 s5 n6 s7 (w9.setCell ⟨r, 1, none⟩ (.bool true)))) := hid (opW_kf (K9.out.set _ _))
    have RF : Hid (RdR (opW w.heap.size n0 n1 n2 s3 n4 s5 n6 s7 (w9.setCell ⟨r, 1, none⟩ (.bool true))) r true z7) := hid (opW_rd HR9.out.bad hrl)
    change bodyPost _ _ _ _ _ (opW w.heap.size n0 n1 n2 s3 n4 s5 n6 s7 (w9.setCell ⟨r, 1, none⟩ (.bool true)))
    generalize opW w.heap.size n0 n1 n2 s3 n4 s5 n6 s7 (w9.setCell ⟨r, 1, none⟩ (.bool true)) = Wf at *
    obtain ⟨z0, z1, z2, z3, z4, z5, z6, z7⟩ := op_all (x := ⟨n0, n1, n2, s3, n4, s5, n6, s7, 0⟩) CH
    simp only at z0 z1 z2 z3 z4 z5 z6 z7
    refine bodyPost_ret (v := .agg #[.int .u8 n0, .int .u32 n1, .int .u32 n2, .string s3, .int .u32 n4, .string s5, .int .u16 n6, .string s7]) (by simp [results, Try.results25, go_sem, z0, z1, z2, z3, z4, z5, z6, z7]) rfl ⟨rfl, KF.out, RF.out⟩
  | true =>
    go_enter Try.func25, Try.ntmps25
    go_wp2_with (first
      | (have _q := t8.out; clear _q; go_at_call 56; refine (RC.out _).mono ?_; rintro _ w9 ⟨rfl, hb9⟩
         have HX9 := hid ((hb9.block _ (lt_blkR HX.out)).trans HX.out)
         have HA9 := hid ((hb9.block _ (lt_blkR HA.out)).trans HA.out)
         have HR9 := hid (HR.out.later hb9)
         have K9 := hid (K.out.trans (Kf.of hb9))
         have q0 := (cellN HX9.out 0 rfl).1
         have q1 := (cellN HX9.out 1 rfl).1
         have q2 := (cellN HX9.out 2 rfl).1
         have q3 := (cellN HX9.out 3 rfl).1
         have q4 := (cellN HX9.out 4 rfl).1
         have q5 := (cellN HX9.out 5 rfl).1
         have q6 := (cellN HX9.out 6 rfl).1
         have q7 := (cellN HX9.out 7 rfl).1
         obtain ⟨a0, d0⟩ := cellN HA9.out 0 rfl
         obtain ⟨a1, d1⟩ := cellN HA9.out 1 rfl
         obtain ⟨a2, d2⟩ := cellN HA9.out 2 rfl
         obtain ⟨a3, d3⟩ := cellN HA9.out 3 rfl
         obtain ⟨a4, d4⟩ := cellN HA9.out 4 rfl
         obtain ⟨a5, d5⟩ := cellN HA9.out 5 rfl
         obtain ⟨a6, d6⟩ := cellN HA9.out 6 rfl
         obtain ⟨a7, d7⟩ := cellN HA9.out 7 rfl
         obtain ⟨ra, rl, rc, rbox, _⟩ := HR9.out
         obtain ⟨_, rb1, _, rf1⟩ := cellsF rbox
         clear hb9 rbox t8)
      | (have _q := t7.out; clear _q; go_at_call 32; refine (rdT HR.out E7.out).mono ?_; rintro _ w8 ⟨rfl, hk9, hr9⟩
         have HX9 := hid ((hk9.block _ (lt_blkR HX.out) (by omega)).trans HX.out)
         have HA9 := hid ((hk9.block _ (lt_blkR HA.out) (by omega)).trans HA.out)
         obtain ⟨c7, f7⟩ := cellN HX9.out 7 rfl
         have p0 := (cellN HX9.out 0 rfl).1
         have p1 := (cellN HX9.out 1 rfl).1
         have p2 := (cellN HX9.out 2 rfl).1
         have p3 := (cellN HX9.out 3 rfl).1
         have p4 := (cellN HX9.out 4 rfl).1
         have p5 := (cellN HX9.out 5 rfl).1
         have p6 := (cellN HX9.out 6 rfl).1
         have HXn := hid (setN HX9.out 7 (.string s7))
         have HAn : Hid ((w8.setCell ⟨w.heap.size + 1, 7, none⟩ (.string s7)).heap[w.heap.size]? = _) := hid ((heap_setCell_other _ _ _ _ (by show w.heap.size ≠ w.heap.size + 1; omega)).trans HA9.out)
         have HRn : Hid (RdR (w8.setCell ⟨w.heap.size + 1, 7, none⟩ (.string s7)) r b7 z7) := hid (hr9.set hG)
         have Kn : Hid (Kf r w (w8.setCell ⟨w.heap.size + 1, 7, none⟩ (.string s7))) := hid ((K.out.trans hk9).far (Nat.le_succ _))
         have t8 := hid True.intro
         clear hk9 hr9 HX9 HA9 HX HA HR K t7
         have HX := HXn
         have HA := HAn
         have HR := HRn
         have K := Kn
         clear HXn HAn HRn Kn)
      | (have _q := t6.out; clear _q; go_at_call 31; refine (rdN2 HR.out E6.out).mono ?_; rintro _ w7 ⟨rfl, hk9, hr9⟩
         have HX9 := hid ((hk9.block _ (lt_blkR HX.out) (by omega)).trans HX.out)
         have HA9 := hid ((hk9.block _ (lt_blkR HA.out) (by omega)).trans HA.out)
         obtain ⟨c6, f6⟩ := cellN HX9.out 6 rfl
         have HXn := hid (setN HX9.out 6 (.int .u16 n6))
         have HAn : Hid ((w7.setCell ⟨w.heap.size + 1, 6, none⟩ (.int .u16 n6)).heap[w.heap.size]? = _) := hid ((heap_setCell_other _ _ _ _ (by show w.heap.size ≠ w.heap.size + 1; omega)).trans HA9.out)
         have HRn : Hid (RdR (w7.setCell ⟨w.heap.size + 1, 6, none⟩ (.int .u16 n6)) r b6 z6) := hid (hr9.set hG)
         have Kn : Hid (Kf r w (w7.setCell ⟨w.heap.size + 1, 6, none⟩ (.int .u16 n6))) := hid ((K.out.trans hk9).far (Nat.le_succ _))
         have t7 := hid True.intro
         clear hk9 hr9 HX9 HA9 HX HA HR K t6
         have HX := HXn
         have HA := HAn
         have HR := HRn
         have K := Kn
         clear HXn HAn HRn Kn)
      | (have _q := t5.out; clear _q; go_at_call 32; refine (rdT HR.out E5.out).mono ?_; rintro _ w6 ⟨rfl, hk9, hr9⟩
         have HX9 := hid ((hk9.block _ (lt_blkR HX.out) (by omega)).trans HX.out)
         have HA9 := hid ((hk9.block _ (lt_blkR HA.out) (by omega)).trans HA.out)
         obtain ⟨c5, f5⟩ := cellN HX9.out 5 rfl
         have HXn := hid (setN HX9.out 5 (.string s5))
         have HAn : Hid ((w6.setCell ⟨w.heap.size + 1, 5, none⟩ (.string s5)).heap[w.heap.size]? = _) := hid ((heap_setCell_other _ _ _ _ (by show w.heap.size ≠ w.heap.size + 1; omega)).trans HA9.out)
         have HRn : Hid (RdR (w6.setCell ⟨w.heap.size + 1, 5, none⟩ (.string s5)) r b5 z5) := hid (hr9.set hG)
         have Kn : Hid (Kf r w (w6.setCell ⟨w.heap.size + 1, 5, none⟩ (.string s5))) := hid ((K.out.trans hk9).far (Nat.le_succ _))
         have t6 := hid True.intro
         clear hk9 hr9 HX9 HA9 HX HA HR K t5
         have HX := HXn
         have HA := HAn
         have HR := HRn
         have K := Kn
         clear HXn HAn HRn Kn)
      | (have _q := t4.out; clear _q; go_at_call 31; refine (rdN4 HR.out E4.out).mono ?_; rintro _ w5 ⟨rfl, hk9, hr9⟩
         have HX9 := hid ((hk9.block _ (lt_blkR HX.out) (by omega)).trans HX.out)
         have HA9 := hid ((hk9.block _ (lt_blkR HA.out) (by omega)).trans HA.out)
         obtain ⟨c4, f4⟩ := cellN HX9.out 4 rfl
         have HXn := hid (setN HX9.out 4 (.int .u32 n4))
         have HAn : Hid ((w5.setCell ⟨w.heap.size + 1, 4, none⟩ (.int .u32 n4)).heap[w.heap.size]? = _) := hid ((heap_setCell_other _ _ _ _ (by show w.heap.size ≠ w.heap.size + 1; omega)).trans HA9.out)
         have HRn : Hid (RdR (w5.setCell ⟨w.heap.size + 1, 4, none⟩ (.int .u32 n4)) r b4 z4) := hid (hr9.set hG)
         have Kn : Hid (Kf r w (w5.setCell ⟨w.heap.size + 1, 4, none⟩ (.int .u32 n4))) := hid ((K.out.trans hk9).far (Nat.le_succ _))
         have t5 := hid True.intro
         clear hk9 hr9 HX9 HA9 HX HA HR K t4
         have HX := HXn
         have HA := HAn
         have HR := HRn
         have K := Kn
         clear HXn HAn HRn Kn)
      | (have _q := t3.out; clear _q; go_at_call 32; refine (rdT HR.out E3.out).mono ?_; rintro _ w4 ⟨rfl, hk9, hr9⟩
         have HX9 := hid ((hk9.block _ (lt_blkR HX.out) (by omega)).trans HX.out)
         have HA9 := hid ((hk9.block _ (lt_blkR HA.out) (by omega)).trans HA.out)
         obtain ⟨c3, f3⟩ := cellN HX9.out 3 rfl
         have HXn := hid (setN HX9.out 3 (.string s3))
         have HAn : Hid ((w4.setCell ⟨w.heap.size + 1, 3, none⟩ (.string s3)).heap[w.heap.size]? = _) := hid ((heap_setCell_other _ _ _ _ (by show w.heap.size ≠ w.heap.size + 1; omega)).trans HA9.out)
         have HRn : Hid (RdR (w4.setCell ⟨w.heap.size + 1, 3, none⟩ (.string s3)) r b3 z3) := hid (hr9.set hG)
         have Kn : Hid (Kf r w (w4.setCell ⟨w.heap.size + 1, 3, none⟩ (.string s3))) := hid ((K.out.trans hk9).far (Nat.le_succ _))
         have t4 := hid True.intro
         clear hk9 hr9 HX9 HA9 HX HA HR K t3
         have HX := HXn
         have HA := HAn
         have HR := HRn
         have K := Kn
         clear HXn HAn HRn Kn)
      | (have _q := t2.out; clear _q; go_at_call 31; refine (rdN4 HR.out E2.out).mono ?_; rintro _ w3 ⟨rfl, hk9, hr9⟩
         have HX9 := hid ((hk9.block _ (lt_blkR HX.out) (by omega)).trans HX.out)
         have HA9 := hid ((hk9.block _ (lt_blkR HA.out) (by omega)).trans HA.out)
         obtain ⟨c2, f2⟩ := cellN HX9.out 2 rfl
         have HXn := hid (setN HX9.out 2 (.int .u32 n2))
         have HAn : Hid ((w3.setCell ⟨w.heap.size + 1, 2, none⟩ (.int .u32 n2)).heap[w.heap.size]? = _) := hid ((heap_setCell_other _ _ _ _ (by show w.heap.size ≠ w.heap.size + 1; omega)).trans HA9.out)
         have HRn : Hid (RdR (w3.setCell ⟨w.heap.size + 1, 2, none⟩ (.int .u32 n2)) r b2 z2) := hid (hr9.set hG)
         have Kn : Hid (Kf r w (w3.setCell ⟨w.heap.size + 1, 2, none⟩ (.int .u32 n2))) := hid ((K.out.trans hk9).far (Nat.le_succ _))
         have t3 := hid True.intro
         clear hk9 hr9 HX9 HA9 HX HA HR K t2
         have HX := HXn
         have HA := HAn
         have HR := HRn
         have K := Kn
         clear HXn HAn HRn Kn)
      | (have _q := t1.out; clear _q; go_at_call 31; refine (rdN4 HR.out E1.out).mono ?_; rintro _ w2 ⟨rfl, hk9, hr9⟩
         have HX9 := hid ((hk9.block _ (lt_blkR HX.out) (by omega)).trans HX.out)
         have HA9 := hid ((hk9.block _ (lt_blkR HA.out) (by omega)).trans HA.out)
         obtain ⟨c1, f1⟩ := cellN HX9.out 1 rfl
         have HXn := hid (setN HX9.out 1 (.int .u32 n1))
         have HAn : Hid ((w2.setCell ⟨w.heap.size + 1, 1, none⟩ (.int .u32 n1)).heap[w.heap.size]? = _) := hid ((heap_setCell_other _ _ _ _ (by show w.heap.size ≠ w.heap.size + 1; omega)).trans HA9.out)
         have HRn : Hid (RdR (w2.setCell ⟨w.heap.size + 1, 1, none⟩ (.int .u32 n1)) r b1 z1) := hid (hr9.set hG)
         have Kn : Hid (Kf r w (w2.setCell ⟨w.heap.size + 1, 1, none⟩ (.int .u32 n1))) := hid ((K.out.trans hk9).far (Nat.le_succ _))
         have t2 := hid True.intro
         clear hk9 hr9 HX9 HA9 HX HA HR K t1
         have HX := HXn
         have HA := HAn
         have HR := HRn
         have K := Kn
         clear HXn HAn HRn Kn)
      | (have _q := t0.out; clear _q; go_at_call 31; refine (rdN1 HR.out E0.out).mono ?_; rintro _ w1 ⟨rfl, hk9, hr9⟩
         have HX9 := hid ((hk9.block _ (lt_blkR HX.out) (by omega)).trans HX.out)
         have HA9 := hid ((hk9.block _ (lt_blkR HA.out) (by omega)).trans HA.out)
         obtain ⟨c0, f0⟩ := cellN HX9.out 0 rfl
         have HXn := hid (setN HX9.out 0 (.int .u8 n0))
         have HAn : Hid ((w1.setCell ⟨w.heap.size + 1, 0, none⟩ (.int .u8 n0)).heap[w.heap.size]? = _) := hid ((heap_setCell_other _ _ _ _ (by show w.heap.size ≠ w.heap.size + 1; omega)).trans HA9.out)
         have HRn : Hid (RdR (w1.setCell ⟨w.heap.size + 1, 0, none⟩ (.int .u8 n0)) r b0 z0) := hid (hr9.set hG)
         have Kn : Hid (Kf r w (w1.setCell ⟨w.heap.size + 1, 0, none⟩ (.int .u8 n0))) := hid ((K.out.trans hk9).far (Nat.le_succ _))
         have t1 := hid True.intro
         clear hk9 hr9 HX9 HA9 HX HA HR K t0
         have HX := HXn
         have HA := HAn
         have HR := HRn
         have K := Kn
         clear HXn HAn HRn Kn))
    have CH := op_chain (n0 := n0) (n1 := n1) (n2 := n2) (s3 := s3) (n4 := n4) (s5 := s5) (n6 := n6) (s7 := s7) (W := w9) HA9.out
    have KF : Hid (Kf r w (opW w.heap.size n0 n1 n2 s3 n4 s5 n6 s7 w9)) := hid (opW_kf K9.out)
    have RF : Hid (RdR (opW w.heap.size n0 n1 n2 s3 n4 s5 n6 s7 w9) r b7 z7) := hid (opW_rd HR9.out hrl)
    change bodyPost _ _ _ _ _ (opW w.heap.size n0 n1 n2 s3 n4 s5 n6 s7 w9)
    generalize opW w.heap.size n0 n1 n2 s3 n4 s5 n6 s7 w9 = Wf at *
    obtain ⟨z0, z1, z2, z3, z4, z5, z6, z7⟩ := op_all (x := ⟨n0, n1, n2, s3, n4, s5, n6, s7, 0⟩) CH
    simp only at z0 z1 z2 z3 z4 z5 z6 z7
    refine bodyPost_ret (v := .agg #[.int .u8 n0, .int .u32 n1, .int .u32 n2, .string s3, .int .u32 n4, .string s5, .int .u16 n6, .string s7]) (by simp [results, Try.results25, go_sem, z0, z1, z2, z3, z4, z5, z6, z7]) rfl ⟨rfl, KF.out, RF.out⟩
end Go.Proofs.Ytbgninmkglgfeaa
