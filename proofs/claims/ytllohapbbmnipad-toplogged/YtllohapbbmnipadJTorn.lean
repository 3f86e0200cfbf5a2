/-
  Torn of the package journal.
-/
import Derived.Test.YtllohapbbmnipadJFork
namespace Go.Proofs.Ytllohapbbmnipad
open Go.RowKit Go.ChangeShapes Go.WideShapes Go.ChangeAt Go.Maps
set_option linter.unusedVariables false
set_option linter.unusedSimpArgs false
theorem isZ_out {S : Nat → Prop} {w w' : World} {a : Option Addr} {len : Nat} {zs : List Int} (h : IsZ w a len zs) (ho : Out S w w') (hS : ∀ (b : Nat) (cur : Array Value) (t : TypeId) (fr : Nat × Nat), w.heap[b]? = some (.cells cur t fr) → ¬ S b) : IsZ w' a len zs := by
  obtain ⟨h1, h2, h3, h4⟩ := h
  refine ⟨h1, h2, fun hp => ?_, h4⟩
  obtain ⟨b, off, e, h5⟩ := h3 hp
  refine ⟨b, off, e, fun i hi => ?_⟩
  rw [← h5 i hi]
  have h6 : ∃ cur t fr, w.heap[b]? = some (.cells cur t fr) := by
    have := h5 i hi
    unfold World.cell? at this
    simp only at this
    split at this
    · rename_i cur t fr e; exact ⟨cur, t, fr, e⟩
    all_goals cases this
  obtain ⟨cur, t, fr, e6⟩ := h6
  exact World.cell?_of_block (ho.block b (lt_blk e6) (hS b cur t fr e6))
theorem IsZ.lat {w w' : World} {a : Option Addr} {len : Nat} {zs : List Int} (h : IsZ w a len zs) (hb : Below w.heap.size w w') : IsZ w' a len zs := isZ_out h (Out.of (S := fun _ => False) hb) (fun _ _ _ _ _ => id)
theorem IsZ.disk {w w' : World} {a : Option Addr} {len : Nat} {zs : List Int} {d b1 b2 M : Nat} {on : Int → Sec} {c : Int → Option Sec} (h : IsZ w a len zs) (hd : IsD w d b1 b2 M on c) (ho : Out (fun k => k = b1 ∨ k = b2) w w') : IsZ w' a len zs := by
  obtain ⟨⟨es2, cl2, h2⟩, es1, cl1, h1⟩ := hd.mapAt
  refine isZ_out h ho fun k cur t fr hk e => ?_
  rcases e with rfl | rfl
  · rw [h1] at hk; cases hk
  · rw [h2] at hk; cases hk
theorem row_disk {w w' : World} {q : Nat} {cs : Array Value} {t : TypeId} {fr : Nat × Nat} {d b1 b2 M : Nat} {on : Int → Sec} {c : Int → Option Sec} (h : w.heap[q]? = some (.cells cs t fr)) (hd : IsD w d b1 b2 M on c) (ho : Out (fun k => k = b1 ∨ k = b2) w w') : w'.heap[q]? = some (.cells cs t fr) := by
  obtain ⟨⟨es2, cl2, h2⟩, es1, cl1, h1⟩ := hd.mapAt
  rw [ho.block q (lt_blk h) (by rintro (rfl | rfl); (rw [h1] at h; cases h); (rw [h2] at h; cases h))]
  exact h
set_option maxHeartbeats 400000 in
theorem torn_nil (r : Bool) (st : Int) (a z : Option Addr) (len cap zl zc : Nat) (w : World) : Calls Try.prog 8 #[.pointer none, .slice a len cap, .bool r, .int .i64 st, .slice z zl zc] w fun e w' => e = .returned (.int .i64 1) ∧ w' = w := by
  go_enter Try.func8, Try.ntmps8
  go_wp2
  go_ret
  exact ⟨rfl, rfl⟩
set_option maxHeartbeats 400000 in
theorem torn_step (j : Nat) (r : Bool) (st : Int) (a z : Option Addr) (len cap zl zc : Nat) (w : World) (h0 : st ≠ 0) (h1 : st ≠ 1) : Calls Try.prog 8 #[pB j, .slice a len cap, .bool r, .int .i64 st, .slice z zl zc] w fun e w' => e = .returned (.int .i64 2) ∧ w' = w := by
  have e0 : (st != 0) = true := by simpa using h0
  have e1 : (st != 1) = true := by simpa using h1
  have e2 : (st == 0) = false := by simpa using h0
  have e3 : (st == 1) = false := by simpa using h1
  go_enter Try.func8, Try.ntmps8
  go_wp2
  go_ret
  exact ⟨rfl, rfl⟩
/-- What is on a disk behind a Torn, of what stood there behind the first batch's writing and the second one's. -/
def tornF (st : Int) (zs : List Int) (v0 v1 v2 : Int → Sec) : Int → Sec := if st = 0 then fun i => if i ∈ zs then v1 i else v0 i else fun i => if i ∈ zs then v2 i else v1 i
/-- What Torn answers where an Append is torn. -/
def TornPost (j d b1 b2 N : Nat) (on : Int → Sec) (c : Int → Option Sec) (g : Jo.Gr) (st : Int) (zs : List Int) (w : World) (e : Ending) (w' : World) : Prop :=
  (Jo.needF g = 0 ∧ e = .returned (.int .i64 2) ∧ Below w.heap.size w w') ∨
  (Jo.needF g ≠ 0 ∧ arSt (vw on c) N + asz N < arEnd (vw on c) N + Jo.needF g ∧ e = .returned (.int .i64 4) ∧ Below w.heap.size w w') ∨
  (Jo.needF g ≠ 0 ∧ arEnd (vw on c) N + Jo.needF g ≤ arSt (vw on c) N + asz N ∧ e = .returned (.int .i64 0) ∧
    IsJ w' j d b1 b2 N (tornF st zs on (updO (vw on c) (arEnd (vw on c) N) ((Jo.laid g (best (vw on c) 2).2 ((grps (vw on c) N).length + 1)).take (Jo.needF g - 1))) (added (vw on c) N g)) (fun _ => none) ∧ Out (fun k => k = b1 ∨ k = b2) w w')
set_option maxRecDepth 20000 in
set_option maxHeartbeats 2000000 in
theorem torn_a0 {w : World} {j d b1 b2 N : Nat} {on : Int → Sec} {c : Int → Option Sec} (h : IsJ w j d b1 b2 N on c) (a : Option Addr) (len cap : Nat) (g : Jo.Gr) (hG : IsG0 w a len g) (z : Option Addr) (zl zc : Nat) (zs : List Int) (hZ : IsZ w z zl zs) :
    Calls Try.prog 8 #[pB j, .slice a len cap, .bool false, .int .i64 0, .slice z zl zc] w (TornPost j d b1 b2 N on c g 0 zs w) := by
  have AC := hid (appending_c h a len cap g hG)
  have hbb := best_bd (fun i => h.2.1.sec i) 2 (Nat.le_refl _)
  have haz : 2 * asz N + 2 ≤ N := by have := h.2.2; unfold asz; omega
  have hst : arSt (vw on c) N + asz N ≤ N := by
    have : (best (vw on c) 2).1 * asz N ≤ 1 * asz N := Nat.mul_le_mul_right _ hbb.1
    unfold arSt; omega
  have H := hid h
  have HZ0 := hid hZ
  clear h hG hZ
  go_enter Try.func8, Try.ntmps8
  go_wp2_with fail
  refine AC.out.mono ?_
  rintro e w1 ⟨hb1, ⟨hz, rfl⟩ | ⟨hz, hf, rfl⟩ | ⟨hz, hf, p, o, k, rfl, hS⟩⟩
  · unfold noB
    have HZ := hid hz
    clear hz
    go_wp2
    go_ret
    exact .inl ⟨HZ.out, rfl, hb1.alloc hb1.size _⟩
  · unfold noB
    have HZ := hid hz
    have HF := hid hf
    clear hz hf
    go_wp2
    go_ret
    exact .inr (.inl ⟨HZ.out, HF.out, rfl, hb1.alloc hb1.size _⟩)
  · have h3 : 3 ≤ Jo.needF g := by
      have hp := Jo.need_pos hz
      have hl4 := (Jo.ok_load hp.1).1
      rw [hp.2]; unfold Jo.secsOf Jo.many; omega
    have S0 := hS.sub 0 (Jo.needF g - 1) (by omega)
    rw [List.drop_zero, Nat.zero_mul, Nat.add_zero] at S0
    have HZ := hid hz
    have HF := hid hf
    have HS0 := hid S0
    have hend : arEnd (vw on c) N + (Jo.needF g - 1) ≤ N := by omega
    have hm0 : 0 < Jo.needF g - 1 := by omega
    clear hz hf hS S0 h3
    generalize hq : arEnd (vw on c) N + (Jo.needF g - 1) = q at *
    have HQ := hid hq
    clear hq
    have hBw : Below w1.heap.size w1 (w1.alloc (.cells #[.int .i64 (arEnd (vw on c) N : Nat), .slice (some ⟨p, o, none⟩) (Jo.needF g - 1) k, .int .i64 (q : Int), .slice (some ⟨p, o + (Jo.needF g - 1) * 32, none⟩) 1 (k - (Jo.needF g - 1))] 66)) := (Below.refl _ _).alloc (Nat.le_refl _) _
    have HBw := hid hBw
    clear hBw
    go_wp2_with fail
    refine wp_loop_rounds 1 ?_
    rw [rounds_succ]
    go_wp2_with fail
    generalize (w1.alloc (.cells #[.int .i64 (arEnd (vw on c) N : Nat), .slice (some ⟨p, o, none⟩) (Jo.needF g - 1) k, .int .i64 (q : Int), .slice (some ⟨p, o + (Jo.needF g - 1) * 32, none⟩) 1 (k - (Jo.needF g - 1))] 66)) = Wa at *
    have hBa : Below w.heap.size w Wa := hb1.trans (HBw.out.mono hb1.size)
    refine (jwrite_c (H.out.later hBa) (arEnd (vw on c) N) p o (Jo.needF g - 1) k _ (HS0.out.later HBw.out) (by rw [HQ.out]; exact hend) hm0).mono ?_
    rintro _ w2 ⟨rfl, hJ2, hO2⟩
    have hO2' : Out (fun k => k = b1 ∨ k = b2) Wa w2 := hO2.mono (fun k e => .inr e)
    have HZ2 := hid ((HZ0.out.lat hBa).disk (H.out.later hBa).2.1 hO2')
    have cj2 := hJ2.cell
    have HJ2 := hid hJ2
    clear hJ2
    go_wp2_with fail
    refine (crash_c HJ2.out.2.1 z zl zc zs HZ2.out).mono ?_
    rintro _ w3 ⟨rfl, hD3, hO3⟩
    have HO3 := hid hO3
    have HD3 := hid hD3
    clear hD3 hO3
    go_wp2
    go_ret
    refine .inr (.inr ⟨HZ.out, HF.out, rfl, ?_, ((Out.of hBa).trans hO2').trans HO3.out⟩)
    have := HJ2.out.flushed HD3.out HO3.out
    have e : (fun i => if i ∈ zs then (updL c (arEnd (vw on c) N) ((Jo.laid g (best (vw on c) 2).2 ((grps (vw on c) N).length + 1)).take (Jo.needF g - 1)) i).getD (on i) else on i) = tornF 0 zs on (updO (vw on c) (arEnd (vw on c) N) ((Jo.laid g (best (vw on c) 2).2 ((grps (vw on c) N).length + 1)).take (Jo.needF g - 1))) (added (vw on c) N g) := by
      unfold tornF
      rw [if_pos rfl, ← updL_updO]
    rw [e] at this
    exact this
set_option maxRecDepth 20000 in
set_option maxHeartbeats 2000000 in
theorem torn_a1 {w : World} {j d b1 b2 N : Nat} {on : Int → Sec} {c : Int → Option Sec} (h : IsJ w j d b1 b2 N on c) (a : Option Addr) (len cap : Nat) (g : Jo.Gr) (hG : IsG0 w a len g) (z : Option Addr) (zl zc : Nat) (zs : List Int) (hZ : IsZ w z zl zs) :
    Calls Try.prog 8 #[pB j, .slice a len cap, .bool false, .int .i64 1, .slice z zl zc] w (TornPost j d b1 b2 N on c g 1 zs w) := by
  have AC := hid (appending_c h a len cap g hG)
  have hbb := best_bd (fun i => h.2.1.sec i) 2 (Nat.le_refl _)
  have haz : 2 * asz N + 2 ≤ N := by have := h.2.2; unfold asz; omega
  have hst : arSt (vw on c) N + asz N ≤ N := by
    have : (best (vw on c) 2).1 * asz N ≤ 1 * asz N := Nat.mul_le_mul_right _ hbb.1
    unfold arSt; omega
  have H := hid h
  have HZ0 := hid hZ
  clear h hG hZ
  go_enter Try.func8, Try.ntmps8
  go_wp2_with fail
  refine AC.out.mono ?_
  rintro e w1 ⟨hb1, ⟨hz, rfl⟩ | ⟨hz, hf, rfl⟩ | ⟨hz, hf, p, o, k, rfl, hS⟩⟩
  · unfold noB
    have HZ := hid hz
    clear hz
    go_wp2
    go_ret
    exact .inl ⟨HZ.out, rfl, hb1.alloc hb1.size _⟩
  · unfold noB
    have HZ := hid hz
    have HF := hid hf
    clear hz hf
    go_wp2
    go_ret
    exact .inr (.inl ⟨HZ.out, HF.out, rfl, hb1.alloc hb1.size _⟩)
  · have h3 : 3 ≤ Jo.needF g := by
      have hp := Jo.need_pos hz
      have hl4 := (Jo.ok_load hp.1).1
      rw [hp.2]; unfold Jo.secsOf Jo.many; omega
    have S0 := hS.sub 0 (Jo.needF g - 1) (by omega)
    rw [List.drop_zero, Nat.zero_mul, Nat.add_zero] at S0
    have HZ := hid hz
    have HF := hid hf
    have S1 := hS.rest (Jo.needF g - 1) (by omega)
    rw [show Jo.needF g - (Jo.needF g - 1) = 1 by omega] at S1
    have HS0 := hid S0
    have HS1 := hid S1
    have hend : arEnd (vw on c) N + (Jo.needF g - 1) ≤ N := by omega
    have hend1 : arEnd (vw on c) N + (Jo.needF g - 1) + 1 ≤ N := by omega
    have hm0 : 0 < Jo.needF g - 1 := by omega
    have hlen : Jo.needF g - 1 ≤ (Jo.laid g (best (vw on c) 2).2 ((grps (vw on c) N).length + 1)).length := by rw [hS.1]; omega
    have HLN := hid hlen
    clear hz hf hS S0 S1 h3 hlen
    generalize hq : arEnd (vw on c) N + (Jo.needF g - 1) = q at *
    have HQ := hid hq
    clear hq
    have hBw : Below w1.heap.size w1 ((w1.alloc (.cells #[.int .i64 (arEnd (vw on c) N : Nat), .slice (some ⟨p, o, none⟩) (Jo.needF g - 1) k, .int .i64 (q : Int), .slice (some ⟨p, o + (Jo.needF g - 1) * 32, none⟩) 1 (k - (Jo.needF g - 1))] 66)).alloc (.cells #[.int .i64 (arEnd (vw on c) N : Nat), .slice (some ⟨p, o, none⟩) (Jo.needF g - 1) k] 65)) := ((Below.refl _ _).alloc (Nat.le_refl _) _).alloc (by simp) _
    have hXw : ((w1.alloc (.cells #[.int .i64 (arEnd (vw on c) N : Nat), .slice (some ⟨p, o, none⟩) (Jo.needF g - 1) k, .int .i64 (q : Int), .slice (some ⟨p, o + (Jo.needF g - 1) * 32, none⟩) 1 (k - (Jo.needF g - 1))] 66)).alloc (.cells #[.int .i64 (arEnd (vw on c) N : Nat), .slice (some ⟨p, o, none⟩) (Jo.needF g - 1) k] 65)).heap[w1.heap.size]? = some (.cells #[.int .i64 (arEnd (vw on c) N : Nat), .slice (some ⟨p, o, none⟩) (Jo.needF g - 1) k, .int .i64 (q : Int), .slice (some ⟨p, o + (Jo.needF g - 1) * 32, none⟩) 1 (k - (Jo.needF g - 1))] 66 (0, 0)) := by
      rw [(alloc_facts _ _).2.1 _ (by simp)]; exact heap_alloc_new w1 _
    have HBw := hid hBw
    have HXw := hid hXw
    clear hBw hXw
    go_wp2_with fail
    refine wp_loop_rounds 2 ?_
    rw [rounds_succ]
    go_wp2_with fail
    generalize ((w1.alloc (.cells #[.int .i64 (arEnd (vw on c) N : Nat), .slice (some ⟨p, o, none⟩) (Jo.needF g - 1) k, .int .i64 (q : Int), .slice (some ⟨p, o + (Jo.needF g - 1) * 32, none⟩) 1 (k - (Jo.needF g - 1))] 66)).alloc (.cells #[.int .i64 (arEnd (vw on c) N : Nat), .slice (some ⟨p, o, none⟩) (Jo.needF g - 1) k] 65)) = Wa at *
    have hBa : Below w.heap.size w Wa := hb1.trans (HBw.out.mono hb1.size)
    refine (jwrite_c (H.out.later hBa) (arEnd (vw on c) N) p o (Jo.needF g - 1) k _ (HS0.out.later HBw.out) (by rw [HQ.out]; exact hend) hm0).mono ?_
    rintro _ w2 ⟨rfl, hJ2, hO2⟩
    have hO2' : Out (fun k => k = b1 ∨ k = b2) Wa w2 := hO2.mono (fun k e => .inr e)
    have HZ2 := hid ((HZ0.out.lat hBa).disk (H.out.later hBa).2.1 hO2')
    have HS12 := hid ((HS1.out.later HBw.out).disk (by omega) (H.out.later hBa).2.1 hO2')
    have HX2 : Hid (w2.heap[w1.heap.size]? = some (.cells #[.int .i64 (arEnd (vw on c) N : Nat), .slice (some ⟨p, o, none⟩) (Jo.needF g - 1) k, .int .i64 (q : Int), .slice (some ⟨p, o + (Jo.needF g - 1) * 32, none⟩) 1 (k - (Jo.needF g - 1))] 66 (0, 0))) := row_disk HXw.out (H.out.later hBa).2.1 hO2'
    have cj2 := hJ2.cell
    have HJ2 := hid hJ2
    clear hJ2
    go_wp2_with fail
    refine (flush_c HJ2.out.2.1).mono ?_
    rintro _ w3 ⟨rfl, hD3, hO3⟩
    rw [updL_updO] at hD3
    have HJ3 := hid (HJ2.out.flushed hD3 hO3)
    have HZ3 := hid (HZ2.out.disk HJ2.out.2.1 hO3)
    have HS13 := hid (HS12.out.disk (by omega) HJ2.out.2.1 hO3)
    have hX3 := row_disk HX2.out HJ2.out.2.1 hO3
    have x32 : w3.cell? ⟨w1.heap.size, 2, none⟩ = some (.int .i64 (q : Int)) := by rw [cell_of_row w3 _ 2 _ _ _ hX3]; rfl
    have x33 : w3.cell? ⟨w1.heap.size, 3, none⟩ = some (.slice (some ⟨p, o + (Jo.needF g - 1) * 32, none⟩) 1 (k - (Jo.needF g - 1))) := by rw [cell_of_row w3 _ 3 _ _ _ hX3]; rfl
    have HO3 := hid (((Out.of (S := fun k => k = b1 ∨ k = b2) hBa).trans hO2').trans hO3)
    clear hO2 hO2' hO3 cj2 hD3 HZ2 HS12 HX2 hX3
    go_wp2
    rw [rounds_succ]
    go_wp2_with fail
    refine (jwrite_c HJ3.out q p (o + (Jo.needF g - 1) * 32) 1 (k - (Jo.needF g - 1)) _ HS13.out hend1 (by omega)).mono ?_
    rintro _ w4 ⟨rfl, hJ4, hO4⟩
    have hO4' : Out (fun k => k = b1 ∨ k = b2) w3 w4 := hO4.mono (fun k e => .inr e)
    have HZ4 := hid (HZ3.out.disk HJ3.out.2.1 hO4')
    have HO4 := hid (HO3.out.trans hO4')
    have cj4 := hJ4.cell
    have HJ4 := hid hJ4
    clear hJ4 hO4 hO4'
    go_wp2_with fail
    refine (crash_c HJ4.out.2.1 z zl zc zs HZ4.out).mono ?_
    rintro _ w5 ⟨rfl, hD5, hO5⟩
    have HO5 := hid hO5
    have HD5 := hid hD5
    clear hD5 hO5
    go_wp2
    go_ret
    refine .inr (.inr ⟨HZ.out, HF.out, rfl, ?_, HO4.out.trans HO5.out⟩)
    have := HJ4.out.flushed HD5.out HO5.out
    have e : (fun i => if i ∈ zs then (updL (fun _ => none) q ((Jo.laid g (best (vw on c) 2).2 ((grps (vw on c) N).length + 1)).drop (Jo.needF g - 1)) i).getD (updO (vw on c) (arEnd (vw on c) N) ((Jo.laid g (best (vw on c) 2).2 ((grps (vw on c) N).length + 1)).take (Jo.needF g - 1)) i) else updO (vw on c) (arEnd (vw on c) N) ((Jo.laid g (best (vw on c) 2).2 ((grps (vw on c) N).length + 1)).take (Jo.needF g - 1)) i) = tornF 1 zs on (updO (vw on c) (arEnd (vw on c) N) ((Jo.laid g (best (vw on c) 2).2 ((grps (vw on c) N).length + 1)).take (Jo.needF g - 1))) (added (vw on c) N g) := by
      unfold tornF
      rw [if_neg (by decide)]
      have e2 : added (vw on c) N g = fun i => (updL (fun _ => none) q ((Jo.laid g (best (vw on c) 2).2 ((grps (vw on c) N).length + 1)).drop (Jo.needF g - 1)) i).getD (updO (vw on c) (arEnd (vw on c) N) ((Jo.laid g (best (vw on c) 2).2 ((grps (vw on c) N).length + 1)).take (Jo.needF g - 1)) i) := by
        rw [updL_updO, vw_none, ← HQ.out, updO_two _ _ _ _ HLN.out]; rfl
      rw [e2]
    rw [e] at this
    exact this
end Go.Proofs.Ytllohapbbmnipad
