/-
  An operation out of its bytes: takeOp of the package record. (Written by gen_rectake.py.)
-/
import Derived.Test.YtihgiemgcmpmmaaGreatShAe
namespace Go.Proofs.YtihgiemgcmpmmaaGreat
open Go.RowKit Go.ChangeShapes Go.WideShapes Go.ChangeAt Go.Shelf
set_option linter.unusedVariables false
set_option linter.unusedSimpArgs false
def opP (z0 : List Int) : Option (Rec × List Int) :=
 match numP 1 z0 with
 | none => none
 | some (k, z1) =>
 match numP 4 z1 with
 | none => none
 | some (fid, z2) =>
 match numP 4 z2 with
 | none => none
 | some (dir, z3) =>
 match shortP z3 with
 | none => none
 | some (nm, z4) =>
 match numP 4 z4 with
 | none => none
 | some (tt, z5) =>
 match shortP z5 with
 | none => none
 | some (nm2, z6) =>
 match numP 2 z6 with
 | none => none
 | some (md, z7) =>
 match shortP z7 with
 | none => none
 | some (dt, z8) =>
 if rightF ⟨k, fid, dir, Fr.tx nm, tt, Fr.tx nm2, md, Fr.tx dt, 0⟩ then some (⟨k, fid, dir, Fr.tx nm, tt, Fr.tx nm2, md, Fr.tx dt, 0⟩, z8) else none
theorem shortP_len {zs ys t : List Int} (h : shortP zs = some (ys, t)) (hz : ∀ m u, numP 1 zs = some (m, u) → 0 ≤ m ∧ m < 256) : ys.length ≤ 255 := by
 unfold shortP at h
 rcases hn : numP 1 zs with _ | ⟨m, u⟩
 · rw [hn] at h; cases h
 · rw [hn] at h
   have := hz m u hn
   simp only at h
   split at h
   · simp only [Option.some.injEq, Prod.mk.injEq] at h
     rw [← h.1, List.length_take]
     omega
   · cases h
theorem short_len {w : World} {r : Nat} {a : Option Addr} {c : Nat} {zs ys t : List Int} (h : Rdr w r a c zs) (hp : shortP zs = some (ys, t)) : ys.length ≤ 255 :=
 shortP_len hp (fun m u e => by have := numP_bd h e; simpa using this)
theorem takes_none {w w' : World} {r : Nat} {e : Ending} (h : Takes w r none e w') : Kr r w w' ∧ e = PN := h
theorem takes_some {w w' : World} {r : Nat} {v : Value} {t : List Int} {e : Ending} (h : Takes w r (some (v, t)) e w') : Kr r w w' ∧ e = .returned v ∧ ∃ a c, Rdr w' r a c t := h
set_option maxRecDepth 20000 in
set_option maxHeartbeats 2000000 in
theorem takeOp_n0 {r : Nat} {a : Option Addr} {c : Nat} {z0 : List Int} {w : World} (h : Rdr w r a c z0) (h0 : numP 1 z0 = none) :
   Calls Tryz.prog 84 #[.pointer (some ⟨r, 0, none⟩)] w (Takes w r none) := by
 have b0 := below_1 w (.cells Rec.no.ops.toArray 34)
 have hr0 := lt_blkR h.1
 have hR0 := rdr_later h b0
 have K0 : Hid (Kr r w (w.alloc (.cells Rec.no.ops.toArray 34))) := hid (Kr.of b0)
 have M0 : Hid (Kr r (w.alloc (.cells Rec.no.ops.toArray 34)) (w.alloc (.cells Rec.no.ops.toArray 34))) := hid (Kr.refl _ _)
 have C0 := hid (tnum_c 1 hR0 (by omega))
 rw [h0] at C0
 have t0 := hid True.intro
 clear h b0 hR0
 go_enter Tryz.func84, Tryz.ntmps84
 go_wp2_with (first
   | (have _q := t0.out; clear _q; go_at_call 83; refine C0.out.mono ?_
      intro e9 w9 h9
      obtain ⟨hk9, rfl⟩ := takes_none h9
      have K9 := hid (K0.out.trans hk9)
      clear h9 hk9 t0))
 exact ⟨rfl, K9.out, rfl⟩
set_option maxRecDepth 20000 in
set_option maxHeartbeats 2000000 in
theorem takeOp_n1 {r : Nat} {a : Option Addr} {c : Nat} {z0 : List Int} {w : World} (h : Rdr w r a c z0) {k : Int} {z1 : List Int} (h0 : numP 1 z0 = some (k, z1)) (h1 : numP 4 z1 = none) :
   Calls Tryz.prog 84 #[.pointer (some ⟨r, 0, none⟩)] w (Takes w r none) := by
 have b0 := below_1 w (.cells Rec.no.ops.toArray 34)
 have hr0 := lt_blkR h.1
 have hR0 := rdr_later h b0
 have K0 : Hid (Kr r w (w.alloc (.cells Rec.no.ops.toArray 34))) := hid (Kr.of b0)
 have M0 : Hid (Kr r (w.alloc (.cells Rec.no.ops.toArray 34)) (w.alloc (.cells Rec.no.ops.toArray 34))) := hid (Kr.refl _ _)
 have C0 := hid (tnum_c 1 hR0 (by omega))
 rw [h0] at C0
 have t0 := hid True.intro
 have e0 : IntKind.u8.wrap k = k := by have := numP_bd h h0; rw [IntKind.wrap_u8']; simp at this; omega
 clear h b0 hR0
 go_enter Tryz.func84, Tryz.ntmps84
 go_wp2_with (first
   | (have _q := t0.out; clear _q; go_at_call 83; refine C0.out.mono ?_
      intro e9 w1 h9
      obtain ⟨hk9, rfl, a1, c1, hR1⟩ := takes_some h9
      have K1 := hid (K0.out.trans hk9)
      have M1 := hid (M0.out.trans hk9)
      have C1 := hid (takeFid_c hR1)
      rw [h1] at C1
      have t1 := hid True.intro
      clear h9 hk9 t0 hR1)
   | (have _q := t1.out; clear _q; go_at_call 101; refine C1.out.mono ?_
      intro e9 w9 h9
      obtain ⟨hk9, rfl⟩ := takes_none h9
      have K9 := hid (K1.out.trans hk9)
      clear h9 hk9 t1))
 exact ⟨rfl, K9.out, rfl⟩
set_option maxRecDepth 20000 in
set_option maxHeartbeats 2000000 in
theorem takeOp_n2 {r : Nat} {a : Option Addr} {c : Nat} {z0 : List Int} {w : World} (h : Rdr w r a c z0) {k : Int} {z1 : List Int} (h0 : numP 1 z0 = some (k, z1)) {fid : Int} {z2 : List Int} (h1 : numP 4 z1 = some (fid, z2)) (h2 : numP 4 z2 = none) :
   Calls Tryz.prog 84 #[.pointer (some ⟨r, 0, none⟩)] w (Takes w r none) := by
 have b0 := below_1 w (.cells Rec.no.ops.toArray 34)
 have hr0 := lt_blkR h.1
 have hR0 := rdr_later h b0
 have K0 : Hid (Kr r w (w.alloc (.cells Rec.no.ops.toArray 34))) := hid (Kr.of b0)
 have M0 : Hid (Kr r (w.alloc (.cells Rec.no.ops.toArray 34)) (w.alloc (.cells Rec.no.ops.toArray 34))) := hid (Kr.refl _ _)
 have C0 := hid (tnum_c 1 hR0 (by omega))
 rw [h0] at C0
 have t0 := hid True.intro
 have e0 : IntKind.u8.wrap k = k := by have := numP_bd h h0; rw [IntKind.wrap_u8']; simp at this; omega
 clear h b0 hR0
 go_enter Tryz.func84, Tryz.ntmps84
 go_wp2_with (first
   | (have _q := t0.out; clear _q; go_at_call 83; refine C0.out.mono ?_
      intro e9 w1 h9
      obtain ⟨hk9, rfl, a1, c1, hR1⟩ := takes_some h9
      have K1 := hid (K0.out.trans hk9)
      have M1 := hid (M0.out.trans hk9)
      have C1 := hid (takeFid_c hR1)
      rw [h1] at C1
      have t1 := hid True.intro
      clear h9 hk9 t0 hR1)
   | (have _q := t1.out; clear _q; go_at_call 101; refine C1.out.mono ?_
      intro e9 w2 h9
      obtain ⟨hk9, rfl, a2, c2, hR2⟩ := takes_some h9
      have K2 := hid (K1.out.trans hk9)
      have M2 := hid (M1.out.trans hk9)
      have C2 := hid (takeFid_c hR2)
      rw [h2] at C2
      have t2 := hid True.intro
      clear h9 hk9 t1 hR2)
   | (have _q := t2.out; clear _q; go_at_call 101; refine C2.out.mono ?_
      intro e9 w9 h9
      obtain ⟨hk9, rfl⟩ := takes_none h9
      have K9 := hid (K2.out.trans hk9)
      clear h9 hk9 t2))
 exact ⟨rfl, K9.out, rfl⟩
set_option maxRecDepth 20000 in
set_option maxHeartbeats 2000000 in
theorem takeOp_n3 {r : Nat} {a : Option Addr} {c : Nat} {z0 : List Int} {w : World} (h : Rdr w r a c z0) {k : Int} {z1 : List Int} (h0 : numP 1 z0 = some (k, z1)) {fid : Int} {z2 : List Int} (h1 : numP 4 z1 = some (fid, z2)) {dir : Int} {z3 : List Int} (h2 : numP 4 z2 = some (dir, z3)) (h3 : shortP z3 = none) :
   Calls Tryz.prog 84 #[.pointer (some ⟨r, 0, none⟩)] w (Takes w r none) := by
 have b0 := below_1 w (.cells Rec.no.ops.toArray 34)
 have hr0 := lt_blkR h.1
 have hR0 := rdr_later h b0
 have K0 : Hid (Kr r w (w.alloc (.cells Rec.no.ops.toArray 34))) := hid (Kr.of b0)
 have M0 : Hid (Kr r (w.alloc (.cells Rec.no.ops.toArray 34)) (w.alloc (.cells Rec.no.ops.toArray 34))) := hid (Kr.refl _ _)
 have C0 := hid (tnum_c 1 hR0 (by omega))
 rw [h0] at C0
 have t0 := hid True.intro
 have e0 : IntKind.u8.wrap k = k := by have := numP_bd h h0; rw [IntKind.wrap_u8']; simp at this; omega
 clear h b0 hR0
 go_enter Tryz.func84, Tryz.ntmps84
 go_wp2_with (first
   | (have _q := t0.out; clear _q; go_at_call 83; refine C0.out.mono ?_
      intro e9 w1 h9
      obtain ⟨hk9, rfl, a1, c1, hR1⟩ := takes_some h9
      have K1 := hid (K0.out.trans hk9)
      have M1 := hid (M0.out.trans hk9)
      have C1 := hid (takeFid_c hR1)
      rw [h1] at C1
      have t1 := hid True.intro
      clear h9 hk9 t0 hR1)
   | (have _q := t1.out; clear _q; go_at_call 101; refine C1.out.mono ?_
      intro e9 w2 h9
      obtain ⟨hk9, rfl, a2, c2, hR2⟩ := takes_some h9
      have K2 := hid (K1.out.trans hk9)
      have M2 := hid (M1.out.trans hk9)
      have C2 := hid (takeFid_c hR2)
      rw [h2] at C2
      have t2 := hid True.intro
      clear h9 hk9 t1 hR2)
   | (have _q := t2.out; clear _q; go_at_call 101; refine C2.out.mono ?_
      intro e9 w3 h9
      obtain ⟨hk9, rfl, a3, c3, hR3⟩ := takes_some h9
      have K3 := hid (K2.out.trans hk9)
      have M3 := hid (M2.out.trans hk9)
      have C3 := hid (rdtext_c hR3)
      rw [h3] at C3
      have t3 := hid True.intro
      clear h9 hk9 t2 hR3)
   | (have _q := t3.out; clear _q; go_at_call 102; refine C3.out.mono ?_
      intro e9 w9 h9
      obtain ⟨hk9, rfl⟩ := takes_none h9
      have K9 := hid (K3.out.trans hk9)
      clear h9 hk9 t3))
 exact ⟨rfl, K9.out, rfl⟩
set_option maxRecDepth 20000 in
set_option maxHeartbeats 2000000 in
theorem takeOp_n4 {r : Nat} {a : Option Addr} {c : Nat} {z0 : List Int} {w : World} (h : Rdr w r a c z0) {k : Int} {z1 : List Int} (h0 : numP 1 z0 = some (k, z1)) {fid : Int} {z2 : List Int} (h1 : numP 4 z1 = some (fid, z2)) {dir : Int} {z3 : List Int} (h2 : numP 4 z2 = some (dir, z3)) {nm : List Int} {z4 : List Int} (h3 : shortP z3 = some (nm, z4)) (h4 : numP 4 z4 = none) :
   Calls Tryz.prog 84 #[.pointer (some ⟨r, 0, none⟩)] w (Takes w r none) := by
 have b0 := below_1 w (.cells Rec.no.ops.toArray 34)
 have hr0 := lt_blkR h.1
 have hR0 := rdr_later h b0
 have K0 : Hid (Kr r w (w.alloc (.cells Rec.no.ops.toArray 34))) := hid (Kr.of b0)
 have M0 : Hid (Kr r (w.alloc (.cells Rec.no.ops.toArray 34)) (w.alloc (.cells Rec.no.ops.toArray 34))) := hid (Kr.refl _ _)
 have C0 := hid (tnum_c 1 hR0 (by omega))
 rw [h0] at C0
 have t0 := hid True.intro
 have e0 : IntKind.u8.wrap k = k := by have := numP_bd h h0; rw [IntKind.wrap_u8']; simp at this; omega
 clear h b0 hR0
 go_enter Tryz.func84, Tryz.ntmps84
 go_wp2_with (first
   | (have _q := t0.out; clear _q; go_at_call 83; refine C0.out.mono ?_
      intro e9 w1 h9
      obtain ⟨hk9, rfl, a1, c1, hR1⟩ := takes_some h9
      have K1 := hid (K0.out.trans hk9)
      have M1 := hid (M0.out.trans hk9)
      have C1 := hid (takeFid_c hR1)
      rw [h1] at C1
      have t1 := hid True.intro
      clear h9 hk9 t0 hR1)
   | (have _q := t1.out; clear _q; go_at_call 101; refine C1.out.mono ?_
      intro e9 w2 h9
      obtain ⟨hk9, rfl, a2, c2, hR2⟩ := takes_some h9
      have K2 := hid (K1.out.trans hk9)
      have M2 := hid (M1.out.trans hk9)
      have C2 := hid (takeFid_c hR2)
      rw [h2] at C2
      have t2 := hid True.intro
      clear h9 hk9 t1 hR2)
   | (have _q := t2.out; clear _q; go_at_call 101; refine C2.out.mono ?_
      intro e9 w3 h9
      obtain ⟨hk9, rfl, a3, c3, hR3⟩ := takes_some h9
      have K3 := hid (K2.out.trans hk9)
      have M3 := hid (M2.out.trans hk9)
      have C3 := hid (rdtext_c hR3)
      rw [h3] at C3
      have t3 := hid True.intro
      clear h9 hk9 t2 hR3)
   | (have _q := t3.out; clear _q; go_at_call 102; refine C3.out.mono ?_
      intro e9 w4 h9
      obtain ⟨hk9, rfl, a4, c4, hR4⟩ := takes_some h9
      have K4 := hid (K3.out.trans hk9)
      have M4 := hid (M3.out.trans hk9)
      have C4 := hid (takeFid_c hR4)
      rw [h4] at C4
      have t4 := hid True.intro
      clear h9 hk9 t3 hR4)
   | (have _q := t4.out; clear _q; go_at_call 101; refine C4.out.mono ?_
      intro e9 w9 h9
      obtain ⟨hk9, rfl⟩ := takes_none h9
      have K9 := hid (K4.out.trans hk9)
      clear h9 hk9 t4))
 exact ⟨rfl, K9.out, rfl⟩
set_option maxRecDepth 20000 in
set_option maxHeartbeats 2000000 in
theorem takeOp_n5 {r : Nat} {a : Option Addr} {c : Nat} {z0 : List Int} {w : World} (h : Rdr w r a c z0) {k : Int} {z1 : List Int} (h0 : numP 1 z0 = some (k, z1)) {fid : Int} {z2 : List Int} (h1 : numP 4 z1 = some (fid, z2)) {dir : Int} {z3 : List Int} (h2 : numP 4 z2 = some (dir, z3)) {nm : List Int} {z4 : List Int} (h3 : shortP z3 = some (nm, z4)) {tt : Int} {z5 : List Int} (h4 : numP 4 z4 = some (tt, z5)) (h5 : shortP z5 = none) :
   Calls Tryz.prog 84 #[.pointer (some ⟨r, 0, none⟩)] w (Takes w r none) := by
 have b0 := below_1 w (.cells Rec.no.ops.toArray 34)
 have hr0 := lt_blkR h.1
 have hR0 := rdr_later h b0
 have K0 : Hid (Kr r w (w.alloc (.cells Rec.no.ops.toArray 34))) := hid (Kr.of b0)
 have M0 : Hid (Kr r (w.alloc (.cells Rec.no.ops.toArray 34)) (w.alloc (.cells Rec.no.ops.toArray 34))) := hid (Kr.refl _ _)
 have C0 := hid (tnum_c 1 hR0 (by omega))
 rw [h0] at C0
 have t0 := hid True.intro
 have e0 : IntKind.u8.wrap k = k := by have := numP_bd h h0; rw [IntKind.wrap_u8']; simp at this; omega
 clear h b0 hR0
 go_enter Tryz.func84, Tryz.ntmps84
 go_wp2_with (first
   | (have _q := t0.out; clear _q; go_at_call 83; refine C0.out.mono ?_
      intro e9 w1 h9
      obtain ⟨hk9, rfl, a1, c1, hR1⟩ := takes_some h9
      have K1 := hid (K0.out.trans hk9)
      have M1 := hid (M0.out.trans hk9)
      have C1 := hid (takeFid_c hR1)
      rw [h1] at C1
      have t1 := hid True.intro
      clear h9 hk9 t0 hR1)
   | (have _q := t1.out; clear _q; go_at_call 101; refine C1.out.mono ?_
      intro e9 w2 h9
      obtain ⟨hk9, rfl, a2, c2, hR2⟩ := takes_some h9
      have K2 := hid (K1.out.trans hk9)
      have M2 := hid (M1.out.trans hk9)
      have C2 := hid (takeFid_c hR2)
      rw [h2] at C2
      have t2 := hid True.intro
      clear h9 hk9 t1 hR2)
   | (have _q := t2.out; clear _q; go_at_call 101; refine C2.out.mono ?_
      intro e9 w3 h9
      obtain ⟨hk9, rfl, a3, c3, hR3⟩ := takes_some h9
      have K3 := hid (K2.out.trans hk9)
      have M3 := hid (M2.out.trans hk9)
      have C3 := hid (rdtext_c hR3)
      rw [h3] at C3
      have t3 := hid True.intro
      clear h9 hk9 t2 hR3)
   | (have _q := t3.out; clear _q; go_at_call 102; refine C3.out.mono ?_
      intro e9 w4 h9
      obtain ⟨hk9, rfl, a4, c4, hR4⟩ := takes_some h9
      have K4 := hid (K3.out.trans hk9)
      have M4 := hid (M3.out.trans hk9)
      have C4 := hid (takeFid_c hR4)
      rw [h4] at C4
      have t4 := hid True.intro
      clear h9 hk9 t3 hR4)
   | (have _q := t4.out; clear _q; go_at_call 101; refine C4.out.mono ?_
      intro e9 w5 h9
      obtain ⟨hk9, rfl, a5, c5, hR5⟩ := takes_some h9
      have K5 := hid (K4.out.trans hk9)
      have M5 := hid (M4.out.trans hk9)
      have C5 := hid (rdtext_c hR5)
      rw [h5] at C5
      have t5 := hid True.intro
      clear h9 hk9 t4 hR5)
   | (have _q := t5.out; clear _q; go_at_call 102; refine C5.out.mono ?_
      intro e9 w9 h9
      obtain ⟨hk9, rfl⟩ := takes_none h9
      have K9 := hid (K5.out.trans hk9)
      clear h9 hk9 t5))
 exact ⟨rfl, K9.out, rfl⟩
set_option maxRecDepth 20000 in
set_option maxHeartbeats 2000000 in
theorem takeOp_n6 {r : Nat} {a : Option Addr} {c : Nat} {z0 : List Int} {w : World} (h : Rdr w r a c z0) {k : Int} {z1 : List Int} (h0 : numP 1 z0 = some (k, z1)) {fid : Int} {z2 : List Int} (h1 : numP 4 z1 = some (fid, z2)) {dir : Int} {z3 : List Int} (h2 : numP 4 z2 = some (dir, z3)) {nm : List Int} {z4 : List Int} (h3 : shortP z3 = some (nm, z4)) {tt : Int} {z5 : List Int} (h4 : numP 4 z4 = some (tt, z5)) {nm2 : List Int} {z6 : List Int} (h5 : shortP z5 = some (nm2, z6)) (h6 : numP 2 z6 = none) :
   Calls Tryz.prog 84 #[.pointer (some ⟨r, 0, none⟩)] w (Takes w r none) := by
 have b0 := below_1 w (.cells Rec.no.ops.toArray 34)
 have hr0 := lt_blkR h.1
 have hR0 := rdr_later h b0
 have K0 : Hid (Kr r w (w.alloc (.cells Rec.no.ops.toArray 34))) := hid (Kr.of b0)
 have M0 : Hid (Kr r (w.alloc (.cells Rec.no.ops.toArray 34)) (w.alloc (.cells Rec.no.ops.toArray 34))) := hid (Kr.refl _ _)
 have C0 := hid (tnum_c 1 hR0 (by omega))
 rw [h0] at C0
 have t0 := hid True.intro
 have e0 : IntKind.u8.wrap k = k := by have := numP_bd h h0; rw [IntKind.wrap_u8']; simp at this; omega
 clear h b0 hR0
 go_enter Tryz.func84, Tryz.ntmps84
 go_wp2_with (first
   | (have _q := t0.out; clear _q; go_at_call 83; refine C0.out.mono ?_
      intro e9 w1 h9
      obtain ⟨hk9, rfl, a1, c1, hR1⟩ := takes_some h9
      have K1 := hid (K0.out.trans hk9)
      have M1 := hid (M0.out.trans hk9)
      have C1 := hid (takeFid_c hR1)
      rw [h1] at C1
      have t1 := hid True.intro
      clear h9 hk9 t0 hR1)
   | (have _q := t1.out; clear _q; go_at_call 101; refine C1.out.mono ?_
      intro e9 w2 h9
      obtain ⟨hk9, rfl, a2, c2, hR2⟩ := takes_some h9
      have K2 := hid (K1.out.trans hk9)
      have M2 := hid (M1.out.trans hk9)
      have C2 := hid (takeFid_c hR2)
      rw [h2] at C2
      have t2 := hid True.intro
      clear h9 hk9 t1 hR2)
   | (have _q := t2.out; clear _q; go_at_call 101; refine C2.out.mono ?_
      intro e9 w3 h9
      obtain ⟨hk9, rfl, a3, c3, hR3⟩ := takes_some h9
      have K3 := hid (K2.out.trans hk9)
      have M3 := hid (M2.out.trans hk9)
      have C3 := hid (rdtext_c hR3)
      rw [h3] at C3
      have t3 := hid True.intro
      clear h9 hk9 t2 hR3)
   | (have _q := t3.out; clear _q; go_at_call 102; refine C3.out.mono ?_
      intro e9 w4 h9
      obtain ⟨hk9, rfl, a4, c4, hR4⟩ := takes_some h9
      have K4 := hid (K3.out.trans hk9)
      have M4 := hid (M3.out.trans hk9)
      have C4 := hid (takeFid_c hR4)
      rw [h4] at C4
      have t4 := hid True.intro
      clear h9 hk9 t3 hR4)
   | (have _q := t4.out; clear _q; go_at_call 101; refine C4.out.mono ?_
      intro e9 w5 h9
      obtain ⟨hk9, rfl, a5, c5, hR5⟩ := takes_some h9
      have K5 := hid (K4.out.trans hk9)
      have M5 := hid (M4.out.trans hk9)
      have C5 := hid (rdtext_c hR5)
      rw [h5] at C5
      have t5 := hid True.intro
      clear h9 hk9 t4 hR5)
   | (have _q := t5.out; clear _q; go_at_call 102; refine C5.out.mono ?_
      intro e9 w6 h9
      obtain ⟨hk9, rfl, a6, c6, hR6⟩ := takes_some h9
      have K6 := hid (K5.out.trans hk9)
      have M6 := hid (M5.out.trans hk9)
      have C6 := hid (tnum_c 2 hR6 (by omega))
      rw [h6] at C6
      have t6 := hid True.intro
      clear h9 hk9 t5 hR6)
   | (have _q := t6.out; clear _q; go_at_call 83; refine C6.out.mono ?_
      intro e9 w9 h9
      obtain ⟨hk9, rfl⟩ := takes_none h9
      have K9 := hid (K6.out.trans hk9)
      clear h9 hk9 t6))
 exact ⟨rfl, K9.out, rfl⟩
set_option maxRecDepth 20000 in
set_option maxHeartbeats 2000000 in
theorem takeOp_n7 {r : Nat} {a : Option Addr} {c : Nat} {z0 : List Int} {w : World} (h : Rdr w r a c z0) {k : Int} {z1 : List Int} (h0 : numP 1 z0 = some (k, z1)) {fid : Int} {z2 : List Int} (h1 : numP 4 z1 = some (fid, z2)) {dir : Int} {z3 : List Int} (h2 : numP 4 z2 = some (dir, z3)) {nm : List Int} {z4 : List Int} (h3 : shortP z3 = some (nm, z4)) {tt : Int} {z5 : List Int} (h4 : numP 4 z4 = some (tt, z5)) {nm2 : List Int} {z6 : List Int} (h5 : shortP z5 = some (nm2, z6)) {md : Int} {z7 : List Int} (h6 : numP 2 z6 = some (md, z7)) (h7 : shortP z7 = none) :
   Calls Tryz.prog 84 #[.pointer (some ⟨r, 0, none⟩)] w (Takes w r none) := by
 have b0 := below_1 w (.cells Rec.no.ops.toArray 34)
 have hr0 := lt_blkR h.1
 have hR0 := rdr_later h b0
 have K0 : Hid (Kr r w (w.alloc (.cells Rec.no.ops.toArray 34))) := hid (Kr.of b0)
 have M0 : Hid (Kr r (w.alloc (.cells Rec.no.ops.toArray 34)) (w.alloc (.cells Rec.no.ops.toArray 34))) := hid (Kr.refl _ _)
 have C0 := hid (tnum_c 1 hR0 (by omega))
 rw [h0] at C0
 have t0 := hid True.intro
 have e0 : IntKind.u8.wrap k = k := by have := numP_bd h h0; rw [IntKind.wrap_u8']; simp at this; omega
 have e6 : ∀ (W : World) (a : Option Addr) (c : Nat), Rdr W r a c z6 → IntKind.u16.wrap md = md := fun W a c hW => by have := numP_bd hW h6; rw [IntKind.wrap_u16]; simp at this; omega
 clear h b0 hR0
 go_enter Tryz.func84, Tryz.ntmps84
 go_wp2_with (first
   | (have _q := t0.out; clear _q; go_at_call 83; refine C0.out.mono ?_
      intro e9 w1 h9
      obtain ⟨hk9, rfl, a1, c1, hR1⟩ := takes_some h9
      have K1 := hid (K0.out.trans hk9)
      have M1 := hid (M0.out.trans hk9)
      have C1 := hid (takeFid_c hR1)
      rw [h1] at C1
      have t1 := hid True.intro
      clear h9 hk9 t0 hR1)
   | (have _q := t1.out; clear _q; go_at_call 101; refine C1.out.mono ?_
      intro e9 w2 h9
      obtain ⟨hk9, rfl, a2, c2, hR2⟩ := takes_some h9
      have K2 := hid (K1.out.trans hk9)
      have M2 := hid (M1.out.trans hk9)
      have C2 := hid (takeFid_c hR2)
      rw [h2] at C2
      have t2 := hid True.intro
      clear h9 hk9 t1 hR2)
   | (have _q := t2.out; clear _q; go_at_call 101; refine C2.out.mono ?_
      intro e9 w3 h9
      obtain ⟨hk9, rfl, a3, c3, hR3⟩ := takes_some h9
      have K3 := hid (K2.out.trans hk9)
      have M3 := hid (M2.out.trans hk9)
      have C3 := hid (rdtext_c hR3)
      rw [h3] at C3
      have t3 := hid True.intro
      clear h9 hk9 t2 hR3)
   | (have _q := t3.out; clear _q; go_at_call 102; refine C3.out.mono ?_
      intro e9 w4 h9
      obtain ⟨hk9, rfl, a4, c4, hR4⟩ := takes_some h9
      have K4 := hid (K3.out.trans hk9)
      have M4 := hid (M3.out.trans hk9)
      have C4 := hid (takeFid_c hR4)
      rw [h4] at C4
      have t4 := hid True.intro
      clear h9 hk9 t3 hR4)
   | (have _q := t4.out; clear _q; go_at_call 101; refine C4.out.mono ?_
      intro e9 w5 h9
      obtain ⟨hk9, rfl, a5, c5, hR5⟩ := takes_some h9
      have K5 := hid (K4.out.trans hk9)
      have M5 := hid (M4.out.trans hk9)
      have C5 := hid (rdtext_c hR5)
      rw [h5] at C5
      have t5 := hid True.intro
      clear h9 hk9 t4 hR5)
   | (have _q := t5.out; clear _q; go_at_call 102; refine C5.out.mono ?_
      intro e9 w6 h9
      obtain ⟨hk9, rfl, a6, c6, hR6⟩ := takes_some h9
      have K6 := hid (K5.out.trans hk9)
      have M6 := hid (M5.out.trans hk9)
      have E6 := e6 w6 a6 c6 hR6
      have C6 := hid (tnum_c 2 hR6 (by omega))
      rw [h6] at C6
      have t6 := hid True.intro
      clear h9 hk9 t5 hR6)
   | (have _q := t6.out; clear _q; go_at_call 83; refine C6.out.mono ?_
      intro e9 w7 h9
      obtain ⟨hk9, rfl, a7, c7, hR7⟩ := takes_some h9
      have K7 := hid (K6.out.trans hk9)
      have M7 := hid (M6.out.trans hk9)
      have C7 := hid (rdtext_c hR7)
      rw [h7] at C7
      have t7 := hid True.intro
      clear h9 hk9 t6 hR7)
   | (have _q := t7.out; clear _q; go_at_call 102; refine C7.out.mono ?_
      intro e9 w9 h9
      obtain ⟨hk9, rfl⟩ := takes_none h9
      have K9 := hid (K7.out.trans hk9)
      clear h9 hk9 t7))
 exact ⟨rfl, K9.out, rfl⟩
set_option maxRecDepth 20000 in
set_option maxHeartbeats 2000000 in
theorem takeOp_s {r : Nat} {a : Option Addr} {c : Nat} {z0 : List Int} {w : World} (h : Rdr w r a c z0) {k : Int} {z1 : List Int} (h0 : numP 1 z0 = some (k, z1)) {fid : Int} {z2 : List Int} (h1 : numP 4 z1 = some (fid, z2)) {dir : Int} {z3 : List Int} (h2 : numP 4 z2 = some (dir, z3)) {nm : List Int} {z4 : List Int} (h3 : shortP z3 = some (nm, z4)) {tt : Int} {z5 : List Int} (h4 : numP 4 z4 = some (tt, z5)) {nm2 : List Int} {z6 : List Int} (h5 : shortP z5 = some (nm2, z6)) {md : Int} {z7 : List Int} (h6 : numP 2 z6 = some (md, z7)) {dt : List Int} {z8 : List Int} (h7 : shortP z7 = some (dt, z8)) (hr : rightF ⟨k, fid, dir, Fr.tx nm, tt, Fr.tx nm2, md, Fr.tx dt, 0⟩ = true) :
   Calls Tryz.prog 84 #[.pointer (some ⟨r, 0, none⟩)] w (Takes w r (some (Rec.opV ⟨k, fid, dir, Fr.tx nm, tt, Fr.tx nm2, md, Fr.tx dt, 0⟩, z8))) := by
 have b0 := below_1 w (.cells Rec.no.ops.toArray 34)
 have hr0 := lt_blkR h.1
 have hR0 := rdr_later h b0
 have K0 : Hid (Kr r w (w.alloc (.cells Rec.no.ops.toArray 34))) := hid (Kr.of b0)
 have M0 : Hid (Kr r (w.alloc (.cells Rec.no.ops.toArray 34)) (w.alloc (.cells Rec.no.ops.toArray 34))) := hid (Kr.refl _ _)
 have C0 := hid (tnum_c 1 hR0 (by omega))
 rw [h0] at C0
 have t0 := hid True.intro
 have e0 : IntKind.u8.wrap k = k := by have := numP_bd h h0; rw [IntKind.wrap_u8']; simp at this; omega
 have e6 : ∀ (W : World) (a : Option Addr) (c : Nat), Rdr W r a c z6 → IntKind.u16.wrap md = md := fun W a c hW => by have := numP_bd hW h6; rw [IntKind.wrap_u16]; simp at this; omega
 have l3 : ∀ (W : World) (a : Option Addr) (c : Nat), Rdr W r a c z3 → nm.length ≤ 255 := fun W a c hW => short_len hW h3
 have l5 : ∀ (W : World) (a : Option Addr) (c : Nat), Rdr W r a c z5 → nm2.length ≤ 255 := fun W a c hW => short_len hW h5
 have HB0 := hid (heap_alloc_new w (.cells Rec.no.ops.toArray 34))
 clear h b0 hR0
 have HRT := hid hr
 clear hr
 go_enter Tryz.func84, Tryz.ntmps84
 go_wp2_with (first
   | (have _q := t0.out; clear _q; go_at_call 83; refine C0.out.mono ?_
      intro e9 w1 h9
      obtain ⟨hk9, rfl, a1, c1, hR1⟩ := takes_some h9
      have K1 := hid (K0.out.trans hk9)
      have M1 := hid (M0.out.trans hk9)
      have C1 := hid (takeFid_c hR1)
      rw [h1] at C1
      have t1 := hid True.intro
      clear h9 hk9 t0 hR1)
   | (have _q := t1.out; clear _q; go_at_call 101; refine C1.out.mono ?_
      intro e9 w2 h9
      obtain ⟨hk9, rfl, a2, c2, hR2⟩ := takes_some h9
      have K2 := hid (K1.out.trans hk9)
      have M2 := hid (M1.out.trans hk9)
      have C2 := hid (takeFid_c hR2)
      rw [h2] at C2
      have t2 := hid True.intro
      clear h9 hk9 t1 hR2)
   | (have _q := t2.out; clear _q; go_at_call 101; refine C2.out.mono ?_
      intro e9 w3 h9
      obtain ⟨hk9, rfl, a3, c3, hR3⟩ := takes_some h9
      have K3 := hid (K2.out.trans hk9)
      have M3 := hid (M2.out.trans hk9)
      have L3 := hid (l3 w3 a3 c3 hR3)
      have C3 := hid (rdtext_c hR3)
      rw [h3] at C3
      have t3 := hid True.intro
      clear h9 hk9 t2 hR3)
   | (have _q := t3.out; clear _q; go_at_call 102; refine C3.out.mono ?_
      intro e9 w4 h9
      obtain ⟨hk9, rfl, a4, c4, hR4⟩ := takes_some h9
      have K4 := hid (K3.out.trans hk9)
      have M4 := hid (M3.out.trans hk9)
      have C4 := hid (takeFid_c hR4)
      rw [h4] at C4
      have t4 := hid True.intro
      clear h9 hk9 t3 hR4)
   | (have _q := t4.out; clear _q; go_at_call 101; refine C4.out.mono ?_
      intro e9 w5 h9
      obtain ⟨hk9, rfl, a5, c5, hR5⟩ := takes_some h9
      have K5 := hid (K4.out.trans hk9)
      have M5 := hid (M4.out.trans hk9)
      have L5 := hid (l5 w5 a5 c5 hR5)
      have C5 := hid (rdtext_c hR5)
      rw [h5] at C5
      have t5 := hid True.intro
      clear h9 hk9 t4 hR5)
   | (have _q := t5.out; clear _q; go_at_call 102; refine C5.out.mono ?_
      intro e9 w6 h9
      obtain ⟨hk9, rfl, a6, c6, hR6⟩ := takes_some h9
      have K6 := hid (K5.out.trans hk9)
      have M6 := hid (M5.out.trans hk9)
      have E6 := e6 w6 a6 c6 hR6
      have C6 := hid (tnum_c 2 hR6 (by omega))
      rw [h6] at C6
      have t6 := hid True.intro
      clear h9 hk9 t5 hR6)
   | (have _q := t6.out; clear _q; go_at_call 83; refine C6.out.mono ?_
      intro e9 w7 h9
      obtain ⟨hk9, rfl, a7, c7, hR7⟩ := takes_some h9
      have K7 := hid (K6.out.trans hk9)
      have M7 := hid (M6.out.trans hk9)
      have C7 := hid (rdtext_c hR7)
      rw [h7] at C7
      have t7 := hid True.intro
      clear h9 hk9 t6 hR7)
   | (have _q := t7.out; clear _q; go_at_call 102; refine C7.out.mono ?_
      intro e9 w8 h9
      obtain ⟨hk9, rfl, a8, c8, hR8⟩ := takes_some h9
      have K8 := hid (K7.out.trans hk9)
      have M8 := hid (M7.out.trans hk9)
      have HR8 := hid hR8
      have HB8 := hid ((M8.out.block w.heap.size (by simp) (by omega)).trans HB0.out)
      have HX8 := hid (heap_alloc_new w8 (.cells (⟨k, fid, dir, Fr.tx nm, tt, Fr.tx nm2, md, Fr.tx dt, 0⟩ : Rec).ops.toArray 34))
      have B8 := hid (below_1 w8 (.cells (⟨k, fid, dir, Fr.tx nm, tt, Fr.tx nm2, md, Fr.tx dt, 0⟩ : Rec).ops.toArray 34))
      have RC := hid (rightOp_c (⟨k, fid, dir, Fr.tx nm, tt, Fr.tx nm2, md, Fr.tx dt, 0⟩ : Rec) (w8.alloc (.cells (⟨k, fid, dir, Fr.tx nm, tt, Fr.tx nm2, md, Fr.tx dt, 0⟩ : Rec).ops.toArray 34)) (by simp only [Fr.tx_size]; have := L3.out; unfold maxLen; omega) (by simp only [Fr.tx_size]; have := L5.out; unfold maxLen; omega))
      rw [HRT.out] at RC
      have t8 := hid True.intro
      clear h9 hk9 t7 hR8)
   | (have _q := t8.out; clear _q; go_at_call 41; refine RC.out.mono ?_; rintro _ w10 ⟨rfl, hb10⟩
      have B10 := hid (B8.out.trans (hb10.mono B8.out.size))
      have K10 := hid (K8.out.trans (Kr.of B10.out))
      have HR10 := hid (rdr_later HR8.out B10.out)
      have HX10 := hid ((hb10.block _ (lt_blkR HX8.out)).trans HX8.out)
      have HB10 := hid ((B10.out.block _ (lt_blkR HB8.out)).trans HB8.out)
      obtain ⟨p0, p1, p2, p3, p4, p5, p6, p7⟩ := op_all HX10.out
      obtain ⟨q0, q1, q2, q3, q4, q5, q6, q7⟩ := op_all HB10.out
      have fz : ∀ i, w10.frozen? ⟨w.heap.size, i, none⟩ = false := fun i => by simp [World.frozen?, HB10.out]
      dsimp only at p0 p1 p2 p3 p4 p5 p6 p7
      clear hb10 t8)
   | (go_at_call 82; refine (refuse_f _).mono ?_; rintro _ wf ⟨rfl, hwf⟩; have hwf2 := hwf.symm; clear hwf; subst hwf2))
 refine bodyPost_ret (v := Rec.opV ⟨k, fid, dir, Fr.tx nm, tt, Fr.tx nm2, md, Fr.tx dt, 0⟩) (by simp [results, Tryz.results84, go_sem, Rec.opV, q0, q1, q2, q3, q4, q5, q6, q7]) rfl ⟨((((((((K10.out.new (Nat.le_refl _) 0 _).new (Nat.le_refl _) 1 _).new (Nat.le_refl _) 2 _).new (Nat.le_refl _) 3 _).new (Nat.le_refl _) 4 _).new (Nat.le_refl _) 5 _).new (Nat.le_refl _) 6 _).new (Nat.le_refl _) 7 _), rfl, _, _, (rdr_new (rdr_new (rdr_new (rdr_new (rdr_new (rdr_new (rdr_new (rdr_new HR10.out hr0 0 _) hr0 1 _) hr0 2 _) hr0 3 _) hr0 4 _) hr0 5 _) hr0 6 _) hr0 7 _)⟩
set_option maxRecDepth 20000 in
set_option maxHeartbeats 2000000 in
theorem takeOp_w {r : Nat} {a : Option Addr} {c : Nat} {z0 : List Int} {w : World} (h : Rdr w r a c z0) {k : Int} {z1 : List Int} (h0 : numP 1 z0 = some (k, z1)) {fid : Int} {z2 : List Int} (h1 : numP 4 z1 = some (fid, z2)) {dir : Int} {z3 : List Int} (h2 : numP 4 z2 = some (dir, z3)) {nm : List Int} {z4 : List Int} (h3 : shortP z3 = some (nm, z4)) {tt : Int} {z5 : List Int} (h4 : numP 4 z4 = some (tt, z5)) {nm2 : List Int} {z6 : List Int} (h5 : shortP z5 = some (nm2, z6)) {md : Int} {z7 : List Int} (h6 : numP 2 z6 = some (md, z7)) {dt : List Int} {z8 : List Int} (h7 : shortP z7 = some (dt, z8)) (hr : rightF ⟨k, fid, dir, Fr.tx nm, tt, Fr.tx nm2, md, Fr.tx dt, 0⟩ = false) :
   Calls Tryz.prog 84 #[.pointer (some ⟨r, 0, none⟩)] w (Takes w r none) := by
 have b0 := below_1 w (.cells Rec.no.ops.toArray 34)
 have hr0 := lt_blkR h.1
 have hR0 := rdr_later h b0
 have K0 : Hid (Kr r w (w.alloc (.cells Rec.no.ops.toArray 34))) := hid (Kr.of b0)
 have M0 : Hid (Kr r (w.alloc (.cells Rec.no.ops.toArray 34)) (w.alloc (.cells Rec.no.ops.toArray 34))) := hid (Kr.refl _ _)
 have C0 := hid (tnum_c 1 hR0 (by omega))
 rw [h0] at C0
 have t0 := hid True.intro
 have e0 : IntKind.u8.wrap k = k := by have := numP_bd h h0; rw [IntKind.wrap_u8']; simp at this; omega
 have e6 : ∀ (W : World) (a : Option Addr) (c : Nat), Rdr W r a c z6 → IntKind.u16.wrap md = md := fun W a c hW => by have := numP_bd hW h6; rw [IntKind.wrap_u16]; simp at this; omega
 have l3 : ∀ (W : World) (a : Option Addr) (c : Nat), Rdr W r a c z3 → nm.length ≤ 255 := fun W a c hW => short_len hW h3
 have l5 : ∀ (W : World) (a : Option Addr) (c : Nat), Rdr W r a c z5 → nm2.length ≤ 255 := fun W a c hW => short_len hW h5
 have HB0 := hid (heap_alloc_new w (.cells Rec.no.ops.toArray 34))
 clear h b0 hR0
 have HRT := hid hr
 clear hr
 go_enter Tryz.func84, Tryz.ntmps84
 go_wp2_with (first
   | (have _q := t0.out; clear _q; go_at_call 83; refine C0.out.mono ?_
      intro e9 w1 h9
      obtain ⟨hk9, rfl, a1, c1, hR1⟩ := takes_some h9
      have K1 := hid (K0.out.trans hk9)
      have M1 := hid (M0.out.trans hk9)
      have C1 := hid (takeFid_c hR1)
      rw [h1] at C1
      have t1 := hid True.intro
      clear h9 hk9 t0 hR1)
   | (have _q := t1.out; clear _q; go_at_call 101; refine C1.out.mono ?_
      intro e9 w2 h9
      obtain ⟨hk9, rfl, a2, c2, hR2⟩ := takes_some h9
      have K2 := hid (K1.out.trans hk9)
      have M2 := hid (M1.out.trans hk9)
      have C2 := hid (takeFid_c hR2)
      rw [h2] at C2
      have t2 := hid True.intro
      clear h9 hk9 t1 hR2)
   | (have _q := t2.out; clear _q; go_at_call 101; refine C2.out.mono ?_
      intro e9 w3 h9
      obtain ⟨hk9, rfl, a3, c3, hR3⟩ := takes_some h9
      have K3 := hid (K2.out.trans hk9)
      have M3 := hid (M2.out.trans hk9)
      have L3 := hid (l3 w3 a3 c3 hR3)
      have C3 := hid (rdtext_c hR3)
      rw [h3] at C3
      have t3 := hid True.intro
      clear h9 hk9 t2 hR3)
   | (have _q := t3.out; clear _q; go_at_call 102; refine C3.out.mono ?_
      intro e9 w4 h9
      obtain ⟨hk9, rfl, a4, c4, hR4⟩ := takes_some h9
      have K4 := hid (K3.out.trans hk9)
      have M4 := hid (M3.out.trans hk9)
      have C4 := hid (takeFid_c hR4)
      rw [h4] at C4
      have t4 := hid True.intro
      clear h9 hk9 t3 hR4)
   | (have _q := t4.out; clear _q; go_at_call 101; refine C4.out.mono ?_
      intro e9 w5 h9
      obtain ⟨hk9, rfl, a5, c5, hR5⟩ := takes_some h9
      have K5 := hid (K4.out.trans hk9)
      have M5 := hid (M4.out.trans hk9)
      have L5 := hid (l5 w5 a5 c5 hR5)
      have C5 := hid (rdtext_c hR5)
      rw [h5] at C5
      have t5 := hid True.intro
      clear h9 hk9 t4 hR5)
   | (have _q := t5.out; clear _q; go_at_call 102; refine C5.out.mono ?_
      intro e9 w6 h9
      obtain ⟨hk9, rfl, a6, c6, hR6⟩ := takes_some h9
      have K6 := hid (K5.out.trans hk9)
      have M6 := hid (M5.out.trans hk9)
      have E6 := e6 w6 a6 c6 hR6
      have C6 := hid (tnum_c 2 hR6 (by omega))
      rw [h6] at C6
      have t6 := hid True.intro
      clear h9 hk9 t5 hR6)
   | (have _q := t6.out; clear _q; go_at_call 83; refine C6.out.mono ?_
      intro e9 w7 h9
      obtain ⟨hk9, rfl, a7, c7, hR7⟩ := takes_some h9
      have K7 := hid (K6.out.trans hk9)
      have M7 := hid (M6.out.trans hk9)
      have C7 := hid (rdtext_c hR7)
      rw [h7] at C7
      have t7 := hid True.intro
      clear h9 hk9 t6 hR7)
   | (have _q := t7.out; clear _q; go_at_call 102; refine C7.out.mono ?_
      intro e9 w8 h9
      obtain ⟨hk9, rfl, a8, c8, hR8⟩ := takes_some h9
      have K8 := hid (K7.out.trans hk9)
      have M8 := hid (M7.out.trans hk9)
      have HR8 := hid hR8
      have HB8 := hid ((M8.out.block w.heap.size (by simp) (by omega)).trans HB0.out)
      have HX8 := hid (heap_alloc_new w8 (.cells (⟨k, fid, dir, Fr.tx nm, tt, Fr.tx nm2, md, Fr.tx dt, 0⟩ : Rec).ops.toArray 34))
      have B8 := hid (below_1 w8 (.cells (⟨k, fid, dir, Fr.tx nm, tt, Fr.tx nm2, md, Fr.tx dt, 0⟩ : Rec).ops.toArray 34))
      have RC := hid (rightOp_c (⟨k, fid, dir, Fr.tx nm, tt, Fr.tx nm2, md, Fr.tx dt, 0⟩ : Rec) (w8.alloc (.cells (⟨k, fid, dir, Fr.tx nm, tt, Fr.tx nm2, md, Fr.tx dt, 0⟩ : Rec).ops.toArray 34)) (by simp only [Fr.tx_size]; have := L3.out; unfold maxLen; omega) (by simp only [Fr.tx_size]; have := L5.out; unfold maxLen; omega))
      rw [HRT.out] at RC
      have t8 := hid True.intro
      clear h9 hk9 t7 hR8)
   | (have _q := t8.out; clear _q; go_at_call 41; refine RC.out.mono ?_; rintro _ w10 ⟨rfl, hb10⟩
      have B10 := hid (B8.out.trans (hb10.mono B8.out.size))
      have K10 := hid (K8.out.trans (Kr.of B10.out))
      have HR10 := hid (rdr_later HR8.out B10.out)
      have HX10 := hid ((hb10.block _ (lt_blkR HX8.out)).trans HX8.out)
      have HB10 := hid ((B10.out.block _ (lt_blkR HB8.out)).trans HB8.out)
      obtain ⟨p0, p1, p2, p3, p4, p5, p6, p7⟩ := op_all HX10.out
      obtain ⟨q0, q1, q2, q3, q4, q5, q6, q7⟩ := op_all HB10.out
      have fz : ∀ i, w10.frozen? ⟨w.heap.size, i, none⟩ = false := fun i => by simp [World.frozen?, HB10.out]
      dsimp only at p0 p1 p2 p3 p4 p5 p6 p7
      clear hb10 t8)
   | (go_at_call 82; refine (refuse_t _).mono ?_; rintro _ wf ⟨rfl, hwf⟩; have hwf2 := hwf.symm; clear hwf; subst hwf2))
 exact ⟨rfl, K10.out, rfl⟩
theorem takeOp_c {r : Nat} {a : Option Addr} {c : Nat} {z0 : List Int} {w : World} (h : Rdr w r a c z0) :
   Calls Tryz.prog 84 #[.pointer (some ⟨r, 0, none⟩)] w (Takes w r ((opP z0).map fun p => (p.1.opV, p.2))) := by
 unfold opP
 rcases h0 : numP 1 z0 with _ | ⟨k, z1⟩
 · exact takeOp_n0 h h0
 simp only
 rcases h1 : numP 4 z1 with _ | ⟨fid, z2⟩
 · exact takeOp_n1 h h0 h1
 simp only
 rcases h2 : numP 4 z2 with _ | ⟨dir, z3⟩
 · exact takeOp_n2 h h0 h1 h2
 simp only
 rcases h3 : shortP z3 with _ | ⟨nm, z4⟩
 · exact takeOp_n3 h h0 h1 h2 h3
 simp only
 rcases h4 : numP 4 z4 with _ | ⟨tt, z5⟩
 · exact takeOp_n4 h h0 h1 h2 h3 h4
 simp only
 rcases h5 : shortP z5 with _ | ⟨nm2, z6⟩
 · exact takeOp_n5 h h0 h1 h2 h3 h4 h5
 simp only
 rcases h6 : numP 2 z6 with _ | ⟨md, z7⟩
 · exact takeOp_n6 h h0 h1 h2 h3 h4 h5 h6
 simp only
 rcases h7 : shortP z7 with _ | ⟨dt, z8⟩
 · exact takeOp_n7 h h0 h1 h2 h3 h4 h5 h6 h7
 simp only
 cases hr : rightF ⟨k, fid, dir, Fr.tx nm, tt, Fr.tx nm2, md, Fr.tx dt, 0⟩ with
 | true => exact takeOp_s h h0 h1 h2 h3 h4 h5 h6 h7 hr
 | false => exact takeOp_w h h0 h1 h2 h3 h4 h5 h6 h7 hr
end Go.Proofs.YtihgiemgcmpmmaaGreat
