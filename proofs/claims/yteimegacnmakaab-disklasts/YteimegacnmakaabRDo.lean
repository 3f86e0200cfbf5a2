/-
  What do of the statements on disks does: a deed on both disks.
-/
import Derived.Test.YteimegacnmakaabRPair
namespace Go.Proofs.Yteimegacnmakaab
open Go.RowKit Go.ChangeShapes Go.WideShapes Go.ChangeAt Go.Maps
set_option linter.unusedVariables false
set_option linter.unusedSimpArgs false
theorem Pair.trio {w : World} {d b1 b2 r N : Nat} {on : Int → Sec} {c : Int → Option Sec} (h : Pair w d b1 b2 r N on c) {X o : Nat} {v : Value} {cur : Array Value} {t : TypeId} (hc : w.heap[X]? = some (.cells cur t (0, 0))) (ht : t ≠ 94) : ¬ Trio b1 b2 r X := by
  obtain ⟨⟨_, _, _, _, m2, m, m1, _⟩, L, B, ⟨⟨lv, bv, hr, _⟩, _⟩, _⟩ := h
  obtain ⟨⟨D2, ⟨es2, cl2, hb2, _⟩, _⟩, _⟩ := m2
  obtain ⟨⟨D1, ⟨es1, cl1, hb1, _⟩, _⟩, _⟩ := m1
  rintro (rfl | rfl | rfl)
  · rw [hb1] at hc; cases hc
  · rw [hb2] at hc; cases hc
  · rw [hr] at hc; cases hc; exact ht rfl
theorem out_b2 {b1 b2 r : Nat} {w w' : World} (h : Out (fun k => k = b2) w w') : Out (Trio b1 b2 r) w w' := h.mono fun k e => .inr (.inl e)
theorem out_b12 {b1 b2 r : Nat} {w w' : World} (h : Out (fun k => k = b1 ∨ k = b2) w w') : Out (Trio b1 b2 r) w w' := h.mono fun k e => by rcases e with e | e; exact .inl e; exact .inr (.inl e)
theorem out_r {b1 b2 r : Nat} {w w' : World} (h : Out (fun k => k = r) w w') : Out (Trio b1 b2 r) w w' := h.mono fun k e => .inr (.inr e)
def DoPost (w : World) (d b1 b2 r N : Nat) (e : Ending) (w' : World) : Prop := e = .returned (.bool true) ∧ (∃ on' c', Pair w' d b1 b2 r N on' c') ∧ Out (Trio b1 b2 r) w w'
theorem box_cells (w : World) (x : Dd) : (w.alloc (.cells #[.int .i64 x.k, .int .i64 x.i, .int .u8 x.c, .slice x.a x.len x.cap] 51)).heap[w.heap.size]? = some (.cells #[.int .i64 x.k, .int .i64 x.i, .int .u8 x.c, .slice x.a x.len x.cap] 51 (0, 0)) := heap_alloc_new w _
theorem four_cells {w : World} {X : Nat} {a b c d : Value} {t : TypeId} (h : w.heap[X]? = some (.cells #[a, b, c, d] t (0, 0))) : w.cell? ⟨X, 0, none⟩ = some a ∧ w.cell? ⟨X, 1, none⟩ = some b ∧ w.cell? ⟨X, 2, none⟩ = some c ∧ w.cell? ⟨X, 3, none⟩ = some d := by
  simp [World.cell?, h]
/-- A deed in a variable. -/
def BoxAt (w : World) (X : Nat) (k i y : Int) (a : Option Addr) (len cap : Nat) : Prop := w.heap[X]? = some (.cells #[.int .i64 k, .int .i64 i, .int .u8 y, .slice a len cap] 51 (0, 0))
theorem BoxAt.lt {w : World} {X : Nat} {k i y : Int} {a : Option Addr} {len cap : Nat} (h : BoxAt w X k i y a len cap) : X < w.heap.size := lt_blk h
theorem BoxAt.out {S : Nat → Prop} {w w' : World} {X : Nat} {k i y : Int} {a : Option Addr} {len cap : Nat} (h : BoxAt w X k i y a len cap) (ho : Out S w w') (hS : ¬ S X) : BoxAt w' X k i y a len cap := by
  unfold BoxAt at *; rw [ho.block X (lt_blk h) hS]; exact h
theorem BoxAt.later {w w' : World} {X : Nat} {k i y : Int} {a : Option Addr} {len cap : Nat} (h : BoxAt w X k i y a len cap) (hb : Below w.heap.size w w') : BoxAt w' X k i y a len cap := h.out (S := fun _ => False) (Out.of hb) id
theorem BoxAt.cells {w : World} {X : Nat} {k i y : Int} {a : Option Addr} {len cap : Nat} (h : BoxAt w X k i y a len cap) : w.cell? ⟨X, 1, none⟩ = some (.int .i64 i) ∧ w.cell? ⟨X, 2, none⟩ = some (.int .u8 y) ∧ w.cell? ⟨X, 3, none⟩ = some (.slice a len cap) := (four_cells h).2
theorem isZ_out {S : Nat → Prop} {w w' : World} {a : Option Addr} {len : Nat} {zs : List Int} (h : IsZ w a len zs) (ho : Out S w w') (hS : ∀ k cur t fr, w.heap[k]? = some (.cells cur t fr) → ¬ S k) : IsZ w' a len zs := by
  obtain ⟨h1, h2, h3, h4⟩ := h
  refine ⟨h1, h2, fun hp => ?_, h4⟩
  obtain ⟨b, off, e, hc⟩ := h3 hp
  refine ⟨b, off, e, fun i hi => ?_⟩
  rw [← hc i hi]
  have h5 := hc i hi
  have h6 : ∃ cur t fr, w.heap[b]? = some (.cells cur t fr) := by
    unfold World.cell? at h5
    split at h5
    · rename_i e5; exact ⟨_, _, _, e5⟩
    · cases h5
  obtain ⟨cur, t, fr, e6⟩ := h6
  exact World.cell?_of_block (ho.block b (lt_blk e6) (hS b cur t fr e6))
theorem isZ_lat {w w' : World} {a : Option Addr} {len : Nat} {zs : List Int} (h : IsZ w a len zs) (hb : Below w.heap.size w w') : IsZ w' a len zs := isZ_out h (Out.of (S := fun _ => False) hb) (fun _ _ _ _ _ => id)
theorem isZ_disk {w w' : World} {a : Option Addr} {len : Nat} {zs : List Int} {d b1 b2 M : Nat} {on : Int → Sec} {c : Int → Option Sec} (h : IsZ w a len zs) (hd : IsD w d b1 b2 M on c) (ho : Out (fun k => k = b1 ∨ k = b2) w w') : IsZ w' a len zs := by
  refine isZ_out h ho fun k cur t fr hk e => ?_
  obtain ⟨_, _, _, _, ⟨⟨D2, ⟨es2, cl2, hb2, _⟩, _⟩, _⟩, m, ⟨⟨D1, ⟨es1, cl1, hb1, _⟩, _⟩, _⟩, _⟩ := hd
  rcases e with rfl | rfl
  · rw [hb1] at hk; cases hk
  · rw [hb2] at hk; cases hk
set_option maxRecDepth 100000 in
set_option maxHeartbeats 4000000 in
theorem do_write {w : World} {d b1 b2 r N : Nat} {on : Int → Sec} {c : Int → Option Sec} (h : Pair w d b1 b2 r N on c) (i y : Int) (a : Option Addr) (len cap : Nat) (h0 : 0 ≤ i) (h1 : i < N) (hy0 : 0 ≤ y) (hy1 : y < 256) :
    Calls Try.prog 27 #[pD d, pD r, .agg #[.int .i64 0, .int .i64 i, .int .u8 y, .slice a len cap]] w (DoPost w d b1 b2 r N) := by
  have hN := h.lts
  obtain ⟨hD, L, B, hR, hon, hc⟩ := h
  have hb0 : Below w.heap.size w (w.alloc (.cells #[.int .i64 0, .int .i64 i, .int .u8 y, .slice a len cap] 51)) := (Below.refl _ _).alloc (Nat.le_refl _) _
  have hX : (w.alloc (.cells #[.int .i64 0, .int .i64 i, .int .u8 y, .slice a len cap] 51)).heap[w.heap.size]? = some (.cells #[.int .i64 0, .int .i64 i, .int .u8 y, .slice a len cap] 51 (0, 0)) := heap_alloc_new w _
  have HD0 := hid (hD.later hb0)
  have HR0 := hid (hR.later hb0)
  have HB0 := hid hb0
  have HX := hid hX
  have HBP := hid hR.2.2.2.1
  have HON := hid hon
  have HC := hid hc
  have hdl := hD.cells
  have hrl : r < w.heap.size := by obtain ⟨⟨_, _, e, _⟩, _⟩ := hR; exact lt_blk e
  have hfy := full_is hy0 hy1
  clear hD hR hon hc hb0 hX
  go_enter Try.func27, Try.ntmps27
  go_wp2
  generalize (w.alloc (.cells #[.int .i64 0, .int .i64 i, .int .u8 y, .slice a len cap] 51)) = W at *
  obtain ⟨x0, x1, x2, x3⟩ := four_cells HX.out
  have hwl : w.heap.size < W.heap.size := lt_blk HX.out
  have HX1 : Hid (BoxAt W.drew w.heap.size 0 i y a len cap) := HX.out
  have HD1 : Hid (IsD W.drew d b1 b2 N on c) := HD0.out
  have HR1 : Hid (IsR W.drew r N L B) := HR0.out
  have hne1 : w.heap.size ≠ b2 := by omega
  have hne2 : w.heap.size ≠ r := by omega
  go_region_held3 (fun w' => w'.cell? ⟨w.heap.size, 1, none⟩ = some (.int .i64 i) ∧ w'.cell? ⟨w.heap.size, 2, none⟩ = some (.int .u8 y)) (first | go_keep | exact ⟨S4.out.cells.1, S4.out.cells.2.1⟩ | exact ⟨S3.out.cells.1, S3.out.cells.2.1⟩ | exact ⟨S2.out.cells.1, S2.out.cells.2.1⟩ | exact ⟨S1.out.cells.1, S1.out.cells.2.1⟩)
    (first
      | (go_at_call 20; refine (sector_c y W.drew).mono ?_; rintro _ w1 ⟨rfl, hb1⟩; have D1 := hid (HD1.out.later hb1); have R1 := hid (HR1.out.later hb1); have S1 := hid (HX1.out.later hb1); have O1 := hid (Out.of (S := Trio b1 b2 r) hb1))
      | (go_at_call 19; refine (write_c D1.out i (full y) hfy h0 h1).mono ?_; rintro _ w2 ⟨rfl, hD2, ho2⟩; have D2 := hid hD2; have R2 := hid (R1.out.disk D1.out (ho2.mono (fun _ e => Or.inr e))); have S2 := hid (S1.out.out ho2 hne1); have O2 := hid (O1.out.trans (out_b2 ho2)))
      | (go_at_call 20; refine (sector_c y w2).mono ?_; rintro _ w3 ⟨rfl, hb3⟩; have D3 := hid (D2.out.later hb3); have R3 := hid (R2.out.later hb3); have S3 := hid (S2.out.later hb3); have O3 := hid (O2.out.trans (Out.of hb3)))
      | (go_at_call 24; refine (rwrite_c R3.out i (full y) hfy h0 h1).mono ?_; rintro _ w4 ⟨rfl, hR4, ho4⟩; have D4 := hid (D3.out.ref R3.out ho4); have R4 := hid hR4; have S4 := hid (S3.out.out ho4 hne2); have O4 := hid (O3.out.trans (out_r ho4))))
  go_wp2
  go_ret
  exact ⟨rfl, ⟨_, _, pair_write (w := w) D4.out HBP.out R4.out HON.out HC.out⟩, (Out.of HB0.out).trans (((Out.refl _ W).drew).trans O4.out)⟩
set_option maxRecDepth 100000 in
set_option maxHeartbeats 4000000 in
theorem do_bad {w : World} {d b1 b2 r N : Nat} {on : Int → Sec} {c : Int → Option Sec} (h : Pair w d b1 b2 r N on c) (i y : Int) (a : Option Addr) (len cap : Nat) (hi : i < 0 ∨ (N : Int) ≤ i) (hy0 : 0 ≤ y) (hy1 : y < 256) :
    Calls Try.prog 27 #[pD d, pD r, .agg #[.int .i64 0, .int .i64 i, .int .u8 y, .slice a len cap]] w (DoPost w d b1 b2 r N) := by
  have hN := h.lts
  obtain ⟨hD, L, B, hR, hon, hc⟩ := h
  have hb0 : Below w.heap.size w (w.alloc (.cells #[.int .i64 0, .int .i64 i, .int .u8 y, .slice a len cap] 51)) := (Below.refl _ _).alloc (Nat.le_refl _) _
  have hX : (w.alloc (.cells #[.int .i64 0, .int .i64 i, .int .u8 y, .slice a len cap] 51)).heap[w.heap.size]? = some (.cells #[.int .i64 0, .int .i64 i, .int .u8 y, .slice a len cap] 51 (0, 0)) := heap_alloc_new w _
  have HD0 := hid (hD.later hb0)
  have HR0 := hid (hR.later hb0)
  have HB0 := hid hb0
  have HX := hid hX
  have HBP := hid hR.2.2.2.1
  have HON := hid hon
  have HC := hid hc
  have hdl := hD.cells
  have hrl : r < w.heap.size := by obtain ⟨⟨_, _, e, _⟩, _⟩ := hR; exact lt_blk e
  clear hD hR hon hc hb0 hX
  go_enter Try.func27, Try.ntmps27
  go_wp2
  generalize (w.alloc (.cells #[.int .i64 0, .int .i64 i, .int .u8 y, .slice a len cap] 51)) = W at *
  obtain ⟨x0, x1, x2, x3⟩ := four_cells HX.out
  have hwl : w.heap.size < W.heap.size := lt_blk HX.out
  have HX1 : Hid (BoxAt W.drew w.heap.size 0 i y a len cap) := HX.out
  have HD1 : Hid (IsD W.drew d b1 b2 N on c) := HD0.out
  have HR1 : Hid (IsR W.drew r N L B) := HR0.out
  have hne1 : w.heap.size ≠ b2 := by omega
  have hne2 : w.heap.size ≠ r := by omega
  go_region_held3 (fun w' => w'.cell? ⟨w.heap.size, 1, none⟩ = some (.int .i64 i) ∧ w'.cell? ⟨w.heap.size, 2, none⟩ = some (.int .u8 y)) (first | go_keep | exact ⟨S4.out.cells.1, S4.out.cells.2.1⟩ | exact ⟨S3.out.cells.1, S3.out.cells.2.1⟩ | exact ⟨S2.out.cells.1, S2.out.cells.2.1⟩ | exact ⟨S1.out.cells.1, S1.out.cells.2.1⟩)
    (first
      | (go_at_call 20; refine (sector_c y W.drew).mono ?_; rintro _ w1 ⟨rfl, hb1⟩; have D1 := hid (HD1.out.later hb1); have R1 := hid (HR1.out.later hb1); have S1 := hid (HX1.out.later hb1); have O1 := hid (Out.of (S := Trio b1 b2 r) hb1))
      | (go_at_call 19; refine (write_bad D1.out i (full y) hi).mono ?_; rintro _ w2 ⟨rfl, hb2⟩; have D2 := hid (D1.out.later hb2); have R2 := hid (R1.out.later hb2); have S2 := hid (S1.out.later hb2); have O2 := hid (O1.out.trans (Out.of hb2)))
      | (go_at_call 20; refine (sector_c y w2).mono ?_; rintro _ w3 ⟨rfl, hb3⟩; have D3 := hid (D2.out.later hb3); have R3 := hid (R2.out.later hb3); have S3 := hid (S2.out.later hb3); have O3 := hid (O2.out.trans (Out.of hb3)))
      | (go_at_call 24; refine (rwrite_bad R3.out i (full y) hi).mono ?_; rintro _ w4 ⟨rfl, hb4⟩; have D4 := hid (D3.out.later hb4); have R4 := hid (R3.out.later hb4); have S4 := hid (S3.out.later hb4); have O4 := hid (O3.out.trans (Out.of hb4))))
  go_wp2
  go_ret
  exact ⟨rfl, ⟨_, _, ⟨D4.out, L, B, R4.out, HON.out, HC.out⟩⟩, (Out.of HB0.out).trans (((Out.refl _ W).drew).trans O4.out)⟩
set_option maxRecDepth 100000 in
set_option maxHeartbeats 4000000 in
theorem do_flush {w : World} {d b1 b2 r N : Nat} {on : Int → Sec} {c : Int → Option Sec} (h : Pair w d b1 b2 r N on c) (i y : Int) (a : Option Addr) (len cap : Nat) :
    Calls Try.prog 27 #[pD d, pD r, .agg #[.int .i64 1, .int .i64 i, .int .u8 y, .slice a len cap]] w (DoPost w d b1 b2 r N) := by
  have hN := h.lts
  obtain ⟨hD, L, B, hR, hon, hc⟩ := h
  have hb0 : Below w.heap.size w (w.alloc (.cells #[.int .i64 1, .int .i64 i, .int .u8 y, .slice a len cap] 51)) := (Below.refl _ _).alloc (Nat.le_refl _) _
  have hX : (w.alloc (.cells #[.int .i64 1, .int .i64 i, .int .u8 y, .slice a len cap] 51)).heap[w.heap.size]? = some (.cells #[.int .i64 1, .int .i64 i, .int .u8 y, .slice a len cap] 51 (0, 0)) := heap_alloc_new w _
  have HD0 := hid (hD.later hb0)
  have HR0 := hid (hR.later hb0)
  have HB0 := hid hb0
  have HX := hid hX
  have HBP := hid hR.2.2.2.1
  have HBB := hid hR.2.2.2.2.1
  have HLL := hid hR.2.1
  have HON := hid hon
  have HC := hid hc
  have hdl := hD.cells
  have hrl : r < w.heap.size := by obtain ⟨⟨_, _, e, _⟩, _⟩ := hR; exact lt_blk e
  clear hD hR hon hc hb0 hX
  go_enter Try.func27, Try.ntmps27
  go_wp2_with fail
  generalize (w.alloc (.cells #[.int .i64 1, .int .i64 i, .int .u8 y, .slice a len cap] 51)) = W at *
  refine (flush_c HD0.out).mono ?_
  rintro _ w2 ⟨rfl, hD2, ho2⟩
  have R2 := hid (HR0.out.disk HD0.out ho2)
  have D2 := hid hD2
  have O2 := hid ho2
  clear hD2 ho2
  go_wp2_with (go_at_call 25; refine (rflush_c R2.out).mono ?_; rintro _ w3 ⟨rfl, hR3, ho3⟩)
  go_ret
  exact ⟨rfl, ⟨_, _, pair_out (on := on) (c := c) true [] HBP.out (fun p hp => (HBB.out p hp).2.1) HLL.out (D2.out.ref R2.out ho3) hR3 HON.out HC.out (fun i => by simp)⟩, (Out.of HB0.out).trans ((out_b12 O2.out).trans (out_r ho3))⟩
set_option maxRecDepth 100000 in
set_option maxHeartbeats 4000000 in
theorem do_crash {w : World} {d b1 b2 r N : Nat} {on : Int → Sec} {c : Int → Option Sec} (h : Pair w d b1 b2 r N on c) (i y : Int) (a : Option Addr) (len cap : Nat) (ks : List Int) (hz : IsZ w a len ks) :
    Calls Try.prog 27 #[pD d, pD r, .agg #[.int .i64 2, .int .i64 i, .int .u8 y, .slice a len cap]] w (DoPost w d b1 b2 r N) := by
  have hN := h.lts
  obtain ⟨hD, L, B, hR, hon, hc⟩ := h
  have hb0 : Below w.heap.size w (w.alloc (.cells #[.int .i64 2, .int .i64 i, .int .u8 y, .slice a len cap] 51)) := (Below.refl _ _).alloc (Nat.le_refl _) _
  have hX : (w.alloc (.cells #[.int .i64 2, .int .i64 i, .int .u8 y, .slice a len cap] 51)).heap[w.heap.size]? = some (.cells #[.int .i64 2, .int .i64 i, .int .u8 y, .slice a len cap] 51 (0, 0)) := heap_alloc_new w _
  have HD0 := hid (hD.later hb0)
  have HR0 := hid (hR.later hb0)
  have HB0 := hid hb0
  have HX := hid hX
  have HBP := hid hR.2.2.2.1
  have HBB := hid hR.2.2.2.2.1
  have HLL := hid hR.2.1
  have HZ0 := hid (isZ_lat hz hb0)
  have HON := hid hon
  have HC := hid hc
  have hdl := hD.cells
  have hrl : r < w.heap.size := by obtain ⟨⟨_, _, e, _⟩, _⟩ := hR; exact lt_blk e
  clear hD hR hon hc hb0 hX
  go_enter Try.func27, Try.ntmps27
  go_wp2
  generalize (w.alloc (.cells #[.int .i64 2, .int .i64 i, .int .u8 y, .slice a len cap] 51)) = W at *
  obtain ⟨x0, x1, x2, x3⟩ := four_cells HX.out
  have hwl : w.heap.size < W.heap.size := lt_blk HX.out
  have HX1 : Hid (BoxAt W.drew w.heap.size 2 i y a len cap) := HX.out
  have HD1 : Hid (IsD W.drew d b1 b2 N on c) := HD0.out
  have HR1 : Hid (IsR W.drew r N L B) := HR0.out
  have HZ1 : Hid (IsZ W.drew a len ks) := HZ0.out
  have hne1 : ¬ (w.heap.size = b1 ∨ w.heap.size = b2) := by omega
  have hne2 : w.heap.size ≠ r := by omega
  go_region_held3 (fun w' => w'.cell? ⟨w.heap.size, 3, none⟩ = some (.slice a len cap)) (first | go_keep | exact S4.out.cells.2.2 | exact S2.out.cells.2.2)
    (first
      | (go_at_call 21; refine (crash_c HD1.out a len cap ks HZ1.out).mono ?_; rintro _ w2 ⟨rfl, hD2, ho2⟩; have D2 := hid hD2; have R2 := hid (HR1.out.disk HD1.out ho2); have S2 := hid (HX1.out.out ho2 hne1); have Z2 := hid (isZ_disk HZ1.out HD1.out ho2); have O2 := hid (out_b12 (r := r) ho2))
      | (go_at_call 44; refine (rcrash_c R2.out a len cap ks Z2.out).mono ?_; rintro _ w4 ⟨rfl, hR4, ho4⟩; have D4 := hid (D2.out.ref R2.out ho4); have R4 := hid hR4; have S4 := hid (S2.out.out ho4 hne2); have O4 := hid (O2.out.trans (out_r ho4))))
  go_wp2
  go_ret
  exact ⟨rfl, ⟨_, _, pair_out (on := on) (c := c) false ks HBP.out (fun p hp => (HBB.out p hp).2.1) HLL.out D4.out R4.out HON.out HC.out (fun i => by simp)⟩, (Out.of HB0.out).trans (((Out.refl _ W).drew).trans O4.out)⟩
set_option maxRecDepth 100000 in
set_option maxHeartbeats 1000000 in
theorem do_other {w : World} {d b1 b2 r N : Nat} {on : Int → Sec} {c : Int → Option Sec} (h : Pair w d b1 b2 r N on c) (k i y : Int) (a : Option Addr) (len cap : Nat) (hk0 : k ≠ 0) (hk1 : k ≠ 1) (hk2 : k ≠ 2) :
    Calls Try.prog 27 #[pD d, pD r, .agg #[.int .i64 k, .int .i64 i, .int .u8 y, .slice a len cap]] w (DoPost w d b1 b2 r N) := by
  have hb0 : Below w.heap.size w (w.alloc (.cells #[.int .i64 k, .int .i64 i, .int .u8 y, .slice a len cap] 51)) := (Below.refl _ _).alloc (Nat.le_refl _) _
  have H := hid (h.later hb0)
  have HB := hid hb0
  have e0 : (k == 0) = false := by simp [hk0]
  have e1 : (k == 1) = false := by simp [hk1]
  have e2 : (k == 2) = false := by simp [hk2]
  clear h hb0
  go_enter Try.func27, Try.ntmps27
  go_wp2
  go_ret
  exact ⟨rfl, ⟨_, _, H.out⟩, Out.of HB.out⟩
theorem do_c {w : World} {d b1 b2 r N : Nat} {on : Int → Sec} {c : Int → Option Sec} (h : Pair w d b1 b2 r N on c) (x : Dd) (hx : x.Wf) (hz : IsZ w x.a x.len x.zs) : Calls Try.prog 27 #[pD d, pD r, x.val] w (DoPost w d b1 b2 r N) := by
  obtain ⟨k, i, y, a, len, cap, zs⟩ := x
  show Calls Try.prog 27 #[pD d, pD r, .agg #[.int .i64 k, .int .i64 i, .int .u8 y, .slice a len cap]] w (DoPost w d b1 b2 r N)
  have hy := hx.2.2
  simp only at hy hz
  by_cases h0 : k = 0
  · subst h0
    by_cases hi : 0 ≤ i ∧ i < (N : Int)
    · exact do_write h i y a len cap hi.1 hi.2 hy.1 hy.2
    · exact do_bad h i y a len cap (by omega) hy.1 hy.2
  · by_cases h1 : k = 1
    · subst h1; exact do_flush h i y a len cap
    · by_cases h2 : k = 2
      · subst h2; exact do_crash h i y a len cap zs hz
      · exact do_other h k i y a len cap h0 h1 h2
end Go.Proofs.Yteimegacnmakaab
