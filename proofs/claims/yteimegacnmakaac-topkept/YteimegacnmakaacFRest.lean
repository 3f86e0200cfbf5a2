/-
  What the package frame reads: the packet that bytes begin with, all tests but the last one passed.
-/
import Derived.Test.YteimegacnmakaacFFirst
namespace Go.Proofs.Yteimegacnmakaac
open Go.RowKit Go.ChangeShapes Go.WideShapes Go.ChangeAt
open Go.BigFrame
set_option linter.unusedVariables false
set_option linter.unusedSimpArgs false
theorem IsB.of_block {w w' : World} {b off len : Nat} {zs : List Int} (h : IsB w (some ⟨b, off, none⟩) len zs) (hb : w'.heap[b]? = w.heap[b]?) : IsB w' (some ⟨b, off, none⟩) len zs := by
  obtain ⟨h1, h2, h3, h4⟩ := h
  refine ⟨h1, h2, fun hp => ?_, h4⟩
  obtain ⟨b', off', e, hc⟩ := h3 hp
  cases e
  exact ⟨b, off, rfl, fun i hi => by rw [World.cell?_of_block (w := w) (w' := w') hb]; exact hc i hi⟩
theorem IsB.drew {w : World} {a : Option Addr} {len : Nat} {zs : List Int} (h : IsB w a len zs) : IsB w.drew a len zs := h
theorem six_b {b B : Nat} (w : World) (h : b ≠ B) (v0 v1 v2 v3 v4 v5 : Value) : ((((((w.setCell ⟨B, 0, none⟩ v0).setCell ⟨B, 1, none⟩ v1).setCell ⟨B, 2, none⟩ v2).setCell ⟨B, 3, none⟩ v3).setCell ⟨B, 4, none⟩ v4).setCell ⟨B, 5, none⟩ v5).heap[b]? = w.heap[b]? := by
  rw [heap_setCell_other _ _ _ _ h, heap_setCell_other _ _ _ _ h, heap_setCell_other _ _ _ _ h, heap_setCell_other _ _ _ _ h, heap_setCell_other _ _ _ _ h, heap_setCell_other _ _ _ _ h]
theorem six_pb {w : World} {B : Nat} {p : Fr.Pk} (q : Fr.Pk) (h : PB w B p) : PB (((((((w.setCell ⟨B, 0, none⟩ (.int .u8 q.k)).setCell ⟨B, 1, none⟩ (.int .u8 q.f)).setCell ⟨B, 2, none⟩ (.int .u8 q.t)).setCell ⟨B, 3, none⟩ (.int .u32 q.e)).setCell ⟨B, 4, none⟩ (.int .u32 q.s)).setCell ⟨B, 5, none⟩ (.string q.b))) B q := by
  unfold PB at *
  rw [heap_setCell_same _ B 5 _ _ _ (heap_setCell_same _ B 4 _ _ _ (heap_setCell_same _ B 3 _ _ _ (heap_setCell_same _ B 2 _ _ _ (heap_setCell_same _ B 1 _ _ _ (heap_setCell_same _ B 0 _ _ _ h)))))]
  rfl
theorem s_of {w : World} {b off len cap n : Nat} {zs : List Int} {x2 x3 x4 : Int} {X : ByteArray} (h : IsB w (some ⟨b, off, none⟩) len zs) (hl : 19 + n ≤ len) (e2 : zs.getD 2 0 = x2) (e3 : zs.getD 3 0 = x3) (e4 : zs.getD 4 0 = x4) (eX : Fr.tx ((zs.drop 15).take n) = X) :
    w.cell? ⟨b, off + 2, none⟩ = some (.int .u8 x2) ∧ w.cell? ⟨b, off + 3, none⟩ = some (.int .u8 x3) ∧ w.cell? ⟨b, off + 4, none⟩ = some (.int .u8 x4) ∧ (convert 44 9 (.slice (some ⟨b, off + 15, none⟩) n (cap - 15))).run Try.prog w = .ok (.string X) w := by
  subst e2 e3 e4 eX
  have q := h.2.2.1
  obtain ⟨b', off', e, hc⟩ := q (by omega)
  cases e
  exact ⟨hc 2 (by omega), hc 3 (by omega), hc 4 (by omega), (h.sub 15 n (by omega)).conv⟩
set_option maxHeartbeats 1000000 in
theorem first_bad (b off : Nat) (len cap : Nat) (zs : List Int) (w : World) (hb : IsB w (some ⟨b, off, none⟩) len zs) (hlc : len ≤ cap) (h : 19 ≤ len) (n : Nat) (hn : Fr.nb zs = n) (h2 : 19 + n ≤ len) (hk : zs.getD 0 0 = 66 ∧ zs.getD 1 0 = 87) (hs : Fr.at4 zs (15 + n) = M.foldF (zs.take (15 + n))) (hr : Fr.rightB (Fr.parse zs) = false) :
    Calls Try.prog 27 #[.slice (some ⟨b, off, none⟩) len cap] w (FirstPost zs w) := by
  have N : Hid (∀ p, ¬ Fr.Begins p zs) := fun p hp => by have h9 := (begins_long hp).2.2.2.2.2.1; have h8 := hp.2.1; rw [← h9, hr] at h8; cases h8
  have hm : len ≤ maxLen := hb.2.1
  unfold maxLen at hm
  have HB := hid hb
  have z13 := hb.2.2.2 13
  have z14 := hb.2.2.2 14
  have HN : Hid (((zs.drop 13).take 2).getD 0 0 + 256 * ((zs.drop 13).take 2).getD 1 0 = n) := by
    show _ = _; rw [← hn]; unfold Fr.nb; simp [List.getD, List.getElem?_take, List.getElem?_drop]
  have hn2 : n < 65536 := by unfold Fr.nb at hn; omega
  have dL : decide ((len : Int) < 15 + n + 4) = false := decide_eq_false (by omega)
  have i1 : (2 : Int) ≤ cap := by omega
  have i2 : (15 : Int) + n + 4 ≤ cap := by omega
  have i3 : (15 : Int) + n ≤ 15 + n + 4 := by omega
  have i4 : (15 : Int) + n ≤ cap := by omega
  have i5 : (0 : Int) ≤ 15 + n := by omega
  have t1 : (15 + (n : Int)).toNat = 15 + n := by omega
  have t2 : (15 + (n : Int) + 4).toNat = 19 + n := by omega
  have t3 : ¬ cap = 15 + n := by omega
  have t4 : 19 + n - (15 + n) = 4 := by omega
  have dM : ((Fr.tx (zs.take 2)).toList == [66, 87]) = true := by rw [tx_mark zs (by rw [hb.1]; omega) hb.2.2.2]; simpa using hk
  have dS : (Fr.at4 ((zs.drop (15 + n)).take 4) 0 != M.foldF (zs.take (15 + n))) = false := by rw [at4_sub, bne_eq_false_iff_eq]; exact hs
  have z2 := hb.2.2.2 2
  have z3 := hb.2.2.2 3
  have z4 := hb.2.2.2 4
  have HP : Hid (Fr.parse zs = ⟨zs.getD 2 0, zs.getD 3 0, zs.getD 4 0, Fr.at4 ((zs.drop 5).take 4) 0, Fr.at4 ((zs.drop 9).take 4) 0, Fr.tx ((zs.drop 15).take n)⟩) := by
    show _ = _
    unfold Fr.parse; rw [hn, at4_sub, at4_sub, Int.toNat_natCast]; rfl
  have HWF := hid (Fr.wf_parse zs hb.2.2.2)
  have hbl : (Fr.tx ((zs.drop 15).take n)).size = n := by rw [Fr.tx_size, List.length_take, List.length_drop, hb.1]; omega
  clear hn hk hs
  clear hb z13 z14
  go_enter Try.func27, Try.ntmps27
  go_wp2_with fail
  have hB0 : Below w.heap.size w (w.alloc (.cells #[.int .u8 0, .int .u8 0, .int .u8 0, .int .u32 0, .int .u32 0, .string ⟨#[]⟩] 43)) := (Below.refl _ _).alloc (Nat.le_refl _) _
  have hP0 : PB (w.alloc (.cells #[.int .u8 0, .int .u8 0, .int .u8 0, .int .u32 0, .int .u32 0, .string ⟨#[]⟩] 43)) w.heap.size ⟨0, 0, 0, 0, 0, ⟨#[]⟩⟩ := heap_alloc_new w _
  generalize hW0 : (w.alloc (.cells #[.int .u8 0, .int .u8 0, .int .u8 0, .int .u32 0, .int .u32 0, .string ⟨#[]⟩] 43)) = W at *
  clear hW0
  have HB0 := hid (HB.out.later hB0)
  refine (number2_c _ _ _ _ (HB0.out.sub 13 2 (by omega))).mono ?_
  rintro _ W ⟨rfl, rfl⟩
  rw [HN.out]
  have kc : ∀ w1, Below W.heap.size W w1 → (convert 44 9 (.slice (some ⟨b, off, none⟩) 2 cap)).run Try.prog w1 = .ok (.string (Fr.tx (zs.take 2))) w1 := fun w1 h1 => ((HB0.out.later h1).front 2 (by omega)).conv
  go_wp2_with fail
  refine wp_region_class (by kernel_rfl) (by kernel_rfl) ?_
  repeat (first
    | go_big_quiet_skip
    | (go_big_quiet_want
       apply quiet_by
       · intro w1 hw1
         go_simp
         first
           | rfl
           | exact kc _ hw1
           | (go_at_call 38; exact class_same hw1 (number4_c _ _ _ _ ((HB0.out.later hw1).sub (15 + n) 4 (by omega))))
           | (go_at_call 36; exact class_same hw1 (fold_c _ _ _ _ _ ((HB0.out.later hw1).front (15 + n) (by omega))))
       · go_simp; rfl
       go_big_quiet_on))
  refine wpQuiet_nil ?_
  intro w2 hw2
  have hP2 : PB w2 w.heap.size ⟨0, 0, 0, 0, 0, ⟨#[]⟩⟩ := by unfold PB at *; rw [hw2.block _ (lt_of_blk hP0)]; exact hP0
  have HB2 := hid (HB0.out.later hw2)
  obtain ⟨c0, c1, c2, c3, c4, c5⟩ := hP2.cells
  have f2 : ∀ i, w2.frozen? ⟨w.heap.size, i, none⟩ = false := fun i => pb_frozen hP2 i
  have hbB : b ≠ w.heap.size := fun e => by
    obtain ⟨_, _, q, _⟩ := HB.out
    obtain ⟨b', off', e', hc⟩ := q (by omega)
    cases e'
    have := World.block_lt_of_cell? w _ (hc 2 (by omega))
    simp at this; omega
  have K4 : Hid (∀ (i c : Nat), i + 4 ≤ len → Calls Try.prog 38 #[.slice (some ⟨b, off + i, none⟩) 4 c] w2.drew fun e w' => e = .returned (.int .u32 (Fr.at4 ((zs.drop i).take 4) 0)) ∧ w' = w2.drew) := fun i c hi => number4_c _ c _ w2.drew (IsB.sub (w := w2.drew) HB2.out i 4 hi)
  have hBw2 := hB0.trans (hw2.mono hB0.size)
  have HD := hid HB2.out.1
  generalize hx2 : zs.getD 2 0 = x2 at *
  generalize hx3 : zs.getD 3 0 = x3 at *
  generalize hx4 : zs.getD 4 0 = x4 at *
  generalize hX : Fr.tx ((zs.drop 15).take n) = X at *
  have HX := hid (And.intro hx2 (And.intro hx3 (And.intro hx4 hX)))
  clear hx2 hx3 hx4 hX
  obtain ⟨d2, d3, d4, kd⟩ := s_of (cap := cap) (w := w2.drew) HB2.out h2 HX.out.1 HX.out.2.1 HX.out.2.2.1 HX.out.2.2.2
  have hS6 := fun v0 v1 v2 v3 v4 v5 => s_of (cap := cap) (IsB.drew (IsB.of_block HB2.out (six_b w2 hbB v0 v1 v2 v3 v4 v5))) h2 HX.out.1 HX.out.2.1 HX.out.2.2.1 HX.out.2.2.2
  have t5 : 15 + n - 15 = n := by omega
  have j2 : (2 : Int) < len := by omega
  have j3 : (3 : Int) < len := by omega
  have j4 : (4 : Int) < len := by omega
  have j5 : (9 : Int) ≤ cap := by omega
  have j6 : (13 : Int) ≤ cap := by omega
  have j7 : (15 : Int) ≤ 15 + n := by omega
  have j8 : ¬ cap = 5 := by omega
  have j9 : ¬ cap = 9 := by omega
  have j10 : ¬ cap = 15 := by omega
  go_wp2_with fail
  go_region_held3 (fun w' => w'.cell? ⟨b, off + 2, none⟩ = some (.int .u8 x2) ∧ w'.cell? ⟨b, off + 3, none⟩ = some (.int .u8 x3) ∧ w'.cell? ⟨b, off + 4, none⟩ = some (.int .u8 x4) ∧ (convert 44 9 (.slice (some ⟨b, off + 15, none⟩) n (cap - 15))).run Try.prog w' = .ok (.string X) w') (first | go_keep | (exact ⟨d2, d3, d4, kd⟩) | (exact hS6 _ _ _ _ _ _)) ((go_at_call 38; refine (K4.out _ _ (by omega)).mono ?_; rintro e w' ⟨rfl, rfl⟩))
  have hP3 := six_pb ⟨x2, x3, x4, Fr.at4 ((zs.drop 5).take 4) 0, Fr.at4 ((zs.drop 9).take 4) 0, X⟩ hP2
  have hB3 := below6 hBw2 (Nat.le_refl _) (.int .u8 x2) (.int .u8 x3) (.int .u8 x4) (.int .u32 (Fr.at4 ((zs.drop 5).take 4) 0)) (.int .u32 (Fr.at4 ((zs.drop 9).take 4) 0)) (.string X)
  have HWQ := hid (HP.out ▸ HWF.out)
  have HR := hid (HP.out ▸ hr)
  have HPZ := hid HP.out
  simp only at hP3
  generalize Fr.at4 ((zs.drop 5).take 4) 0 = x5 at *
  generalize Fr.at4 ((zs.drop 9).take 4) 0 = x6 at *
  have C := fun W => right_c ⟨x2, x3, x4, x5, x6, X⟩ HWQ.out (by simp only [hbl]; unfold maxLen; omega) W
  rw [show Fr.val ⟨x2, x3, x4, x5, x6, X⟩ = .agg #[.int .u8 x2, .int .u8 x3, .int .u8 x4, .int .u32 x5, .int .u32 x6, .string X] from rfl] at C
  have HC : Hid _ := C
  generalize hW3 : ((((((w2.setCell ⟨w.heap.size, 0, none⟩ (.int .u8 x2)).setCell ⟨w.heap.size, 1, none⟩ (.int .u8 x3)).setCell ⟨w.heap.size, 2, none⟩ (.int .u8 x4)).setCell ⟨w.heap.size, 3, none⟩ (.int .u32 x5)).setCell ⟨w.heap.size, 4, none⟩ (.int .u32 x6)).setCell ⟨w.heap.size, 5, none⟩ (.string X)) = W3 at hP3 hB3 ⊢
  clear hW3 C HP hr HWF hS6 d2 d3 d4 kd K4 c0 c1 c2 c3 c4 c5 f2 hP2 hw2 kc dM dS
  obtain ⟨c0, c1, c2, c3, c4, c5⟩ := hP3.cells
  go_wp2_with fail
  refine (HC.out _).mono ?_
  rintro _ w4 ⟨rfl, hb4⟩
  rw [HR.out]
  have hP4 : PB w4 w.heap.size ⟨x2, x3, x4, x5, x6, X⟩ := by unfold PB at *; rw [hb4.block _ (lt_of_blk (w := W3) hP3)]; exact hP3
  have hB4 := hB3.trans (Below.mono (B := W3.heap.size) ⟨hb4.os, hb4.tape, hb4.output, hb4.size, hb4.block⟩ hB3.size)
  clear c0 c1 c2 c3 c4 c5
  obtain ⟨c0, c1, c2, c3, c4, c5⟩ := hP4.cells
  have f4 : ∀ i, w4.frozen? ⟨w.heap.size, i, none⟩ = false := fun i => pb_frozen hP4 i
  go_wp2
  exact bodyPost_ret (v := .tuple #[noPk, .int .i64 0, .bool false]) (by simp [results, Try.results27, go_sem, noPk, c0, c1, c2, c3, c4, c5]) rfl ⟨.inr ⟨N.out, rfl⟩, below6 hB4 (Nat.le_refl _) _ _ _ _ _ _⟩
set_option maxHeartbeats 1000000 in
theorem first_good (b off : Nat) (len cap : Nat) (zs : List Int) (w : World) (hb : IsB w (some ⟨b, off, none⟩) len zs) (hlc : len ≤ cap) (h : 19 ≤ len) (n : Nat) (hn : Fr.nb zs = n) (h2 : 19 + n ≤ len) (hk : zs.getD 0 0 = 66 ∧ zs.getD 1 0 = 87) (hs : Fr.at4 zs (15 + n) = M.foldF (zs.take (15 + n))) (hr : Fr.rightB (Fr.parse zs) = true) :
    Calls Try.prog 27 #[.slice (some ⟨b, off, none⟩) len cap] w (FirstPost zs w) := by
  have N : Hid (Fr.Begins (Fr.parse zs) zs) := (Fr.first_iff zs hb.2.2.2 _).1 (by
    unfold Fr.firstF
    rw [if_pos]
    rw [hn, Int.toNat_natCast]
    exact ⟨by rw [hb.1]; omega, by rw [hb.1]; omega, hk.1, hk.2, hs, hr⟩)
  have hm : len ≤ maxLen := hb.2.1
  unfold maxLen at hm
  have HB := hid hb
  have z13 := hb.2.2.2 13
  have z14 := hb.2.2.2 14
  have HN : Hid (((zs.drop 13).take 2).getD 0 0 + 256 * ((zs.drop 13).take 2).getD 1 0 = n) := by
    show _ = _; rw [← hn]; unfold Fr.nb; simp [List.getD, List.getElem?_take, List.getElem?_drop]
  have hn2 : n < 65536 := by unfold Fr.nb at hn; omega
  have dL : decide ((len : Int) < 15 + n + 4) = false := decide_eq_false (by omega)
  have i1 : (2 : Int) ≤ cap := by omega
  have i2 : (15 : Int) + n + 4 ≤ cap := by omega
  have i3 : (15 : Int) + n ≤ 15 + n + 4 := by omega
  have i4 : (15 : Int) + n ≤ cap := by omega
  have i5 : (0 : Int) ≤ 15 + n := by omega
  have t1 : (15 + (n : Int)).toNat = 15 + n := by omega
  have t2 : (15 + (n : Int) + 4).toNat = 19 + n := by omega
  have t3 : ¬ cap = 15 + n := by omega
  have t4 : 19 + n - (15 + n) = 4 := by omega
  have dM : ((Fr.tx (zs.take 2)).toList == [66, 87]) = true := by rw [tx_mark zs (by rw [hb.1]; omega) hb.2.2.2]; simpa using hk
  have dS : (Fr.at4 ((zs.drop (15 + n)).take 4) 0 != M.foldF (zs.take (15 + n))) = false := by rw [at4_sub, bne_eq_false_iff_eq]; exact hs
  have z2 := hb.2.2.2 2
  have z3 := hb.2.2.2 3
  have z4 := hb.2.2.2 4
  have HP : Hid (Fr.parse zs = ⟨zs.getD 2 0, zs.getD 3 0, zs.getD 4 0, Fr.at4 ((zs.drop 5).take 4) 0, Fr.at4 ((zs.drop 9).take 4) 0, Fr.tx ((zs.drop 15).take n)⟩) := by
    show _ = _
    unfold Fr.parse; rw [hn, at4_sub, at4_sub, Int.toNat_natCast]; rfl
  have HWF := hid (Fr.wf_parse zs hb.2.2.2)
  have hbl : (Fr.tx ((zs.drop 15).take n)).size = n := by rw [Fr.tx_size, List.length_take, List.length_drop, hb.1]; omega
  clear hn hk hs
  clear hb z13 z14
  go_enter Try.func27, Try.ntmps27
  go_wp2_with fail
  have hB0 : Below w.heap.size w (w.alloc (.cells #[.int .u8 0, .int .u8 0, .int .u8 0, .int .u32 0, .int .u32 0, .string ⟨#[]⟩] 43)) := (Below.refl _ _).alloc (Nat.le_refl _) _
  have hP0 : PB (w.alloc (.cells #[.int .u8 0, .int .u8 0, .int .u8 0, .int .u32 0, .int .u32 0, .string ⟨#[]⟩] 43)) w.heap.size ⟨0, 0, 0, 0, 0, ⟨#[]⟩⟩ := heap_alloc_new w _
  generalize hW0 : (w.alloc (.cells #[.int .u8 0, .int .u8 0, .int .u8 0, .int .u32 0, .int .u32 0, .string ⟨#[]⟩] 43)) = W at *
  clear hW0
  have HB0 := hid (HB.out.later hB0)
  refine (number2_c _ _ _ _ (HB0.out.sub 13 2 (by omega))).mono ?_
  rintro _ W ⟨rfl, rfl⟩
  rw [HN.out]
  have kc : ∀ w1, Below W.heap.size W w1 → (convert 44 9 (.slice (some ⟨b, off, none⟩) 2 cap)).run Try.prog w1 = .ok (.string (Fr.tx (zs.take 2))) w1 := fun w1 h1 => ((HB0.out.later h1).front 2 (by omega)).conv
  go_wp2_with fail
  refine wp_region_class (by kernel_rfl) (by kernel_rfl) ?_
  repeat (first
    | go_big_quiet_skip
    | (go_big_quiet_want
       apply quiet_by
       · intro w1 hw1
         go_simp
         first
           | rfl
           | exact kc _ hw1
           | (go_at_call 38; exact class_same hw1 (number4_c _ _ _ _ ((HB0.out.later hw1).sub (15 + n) 4 (by omega))))
           | (go_at_call 36; exact class_same hw1 (fold_c _ _ _ _ _ ((HB0.out.later hw1).front (15 + n) (by omega))))
       · go_simp; rfl
       go_big_quiet_on))
  refine wpQuiet_nil ?_
  intro w2 hw2
  have hP2 : PB w2 w.heap.size ⟨0, 0, 0, 0, 0, ⟨#[]⟩⟩ := by unfold PB at *; rw [hw2.block _ (lt_of_blk hP0)]; exact hP0
  have HB2 := hid (HB0.out.later hw2)
  obtain ⟨c0, c1, c2, c3, c4, c5⟩ := hP2.cells
  have f2 : ∀ i, w2.frozen? ⟨w.heap.size, i, none⟩ = false := fun i => pb_frozen hP2 i
  have hbB : b ≠ w.heap.size := fun e => by
    obtain ⟨_, _, q, _⟩ := HB.out
    obtain ⟨b', off', e', hc⟩ := q (by omega)
    cases e'
    have := World.block_lt_of_cell? w _ (hc 2 (by omega))
    simp at this; omega
  have K4 : Hid (∀ (i c : Nat), i + 4 ≤ len → Calls Try.prog 38 #[.slice (some ⟨b, off + i, none⟩) 4 c] w2.drew fun e w' => e = .returned (.int .u32 (Fr.at4 ((zs.drop i).take 4) 0)) ∧ w' = w2.drew) := fun i c hi => number4_c _ c _ w2.drew (IsB.sub (w := w2.drew) HB2.out i 4 hi)
  have hBw2 := hB0.trans (hw2.mono hB0.size)
  have HD := hid HB2.out.1
  generalize hx2 : zs.getD 2 0 = x2 at *
  generalize hx3 : zs.getD 3 0 = x3 at *
  generalize hx4 : zs.getD 4 0 = x4 at *
  generalize hX : Fr.tx ((zs.drop 15).take n) = X at *
  have HX := hid (And.intro hx2 (And.intro hx3 (And.intro hx4 hX)))
  clear hx2 hx3 hx4 hX
  obtain ⟨d2, d3, d4, kd⟩ := s_of (cap := cap) (w := w2.drew) HB2.out h2 HX.out.1 HX.out.2.1 HX.out.2.2.1 HX.out.2.2.2
  have hS6 := fun v0 v1 v2 v3 v4 v5 => s_of (cap := cap) (IsB.drew (IsB.of_block HB2.out (six_b w2 hbB v0 v1 v2 v3 v4 v5))) h2 HX.out.1 HX.out.2.1 HX.out.2.2.1 HX.out.2.2.2
  have t5 : 15 + n - 15 = n := by omega
  have j2 : (2 : Int) < len := by omega
  have j3 : (3 : Int) < len := by omega
  have j4 : (4 : Int) < len := by omega
  have j5 : (9 : Int) ≤ cap := by omega
  have j6 : (13 : Int) ≤ cap := by omega
  have j7 : (15 : Int) ≤ 15 + n := by omega
  have j8 : ¬ cap = 5 := by omega
  have j9 : ¬ cap = 9 := by omega
  have j10 : ¬ cap = 15 := by omega
  go_wp2_with fail
  go_region_held3 (fun w' => w'.cell? ⟨b, off + 2, none⟩ = some (.int .u8 x2) ∧ w'.cell? ⟨b, off + 3, none⟩ = some (.int .u8 x3) ∧ w'.cell? ⟨b, off + 4, none⟩ = some (.int .u8 x4) ∧ (convert 44 9 (.slice (some ⟨b, off + 15, none⟩) n (cap - 15))).run Try.prog w' = .ok (.string X) w') (first | go_keep | (exact ⟨d2, d3, d4, kd⟩) | (exact hS6 _ _ _ _ _ _)) ((go_at_call 38; refine (K4.out _ _ (by omega)).mono ?_; rintro e w' ⟨rfl, rfl⟩))
  have hP3 := six_pb ⟨x2, x3, x4, Fr.at4 ((zs.drop 5).take 4) 0, Fr.at4 ((zs.drop 9).take 4) 0, X⟩ hP2
  have hB3 := below6 hBw2 (Nat.le_refl _) (.int .u8 x2) (.int .u8 x3) (.int .u8 x4) (.int .u32 (Fr.at4 ((zs.drop 5).take 4) 0)) (.int .u32 (Fr.at4 ((zs.drop 9).take 4) 0)) (.string X)
  have HWQ := hid (HP.out ▸ HWF.out)
  have HR := hid (HP.out ▸ hr)
  have HPZ := hid HP.out
  simp only at hP3
  generalize Fr.at4 ((zs.drop 5).take 4) 0 = x5 at *
  generalize Fr.at4 ((zs.drop 9).take 4) 0 = x6 at *
  have C := fun W => right_c ⟨x2, x3, x4, x5, x6, X⟩ HWQ.out (by simp only [hbl]; unfold maxLen; omega) W
  rw [show Fr.val ⟨x2, x3, x4, x5, x6, X⟩ = .agg #[.int .u8 x2, .int .u8 x3, .int .u8 x4, .int .u32 x5, .int .u32 x6, .string X] from rfl] at C
  have HC : Hid _ := C
  generalize hW3 : ((((((w2.setCell ⟨w.heap.size, 0, none⟩ (.int .u8 x2)).setCell ⟨w.heap.size, 1, none⟩ (.int .u8 x3)).setCell ⟨w.heap.size, 2, none⟩ (.int .u8 x4)).setCell ⟨w.heap.size, 3, none⟩ (.int .u32 x5)).setCell ⟨w.heap.size, 4, none⟩ (.int .u32 x6)).setCell ⟨w.heap.size, 5, none⟩ (.string X)) = W3 at hP3 hB3 ⊢
  clear hW3 C HP hr HWF hS6 d2 d3 d4 kd K4 c0 c1 c2 c3 c4 c5 f2 hP2 hw2 kc dM dS
  obtain ⟨c0, c1, c2, c3, c4, c5⟩ := hP3.cells
  go_wp2_with fail
  refine (HC.out _).mono ?_
  rintro _ w4 ⟨rfl, hb4⟩
  rw [HR.out]
  have hP4 : PB w4 w.heap.size ⟨x2, x3, x4, x5, x6, X⟩ := by unfold PB at *; rw [hb4.block _ (lt_of_blk (w := W3) hP3)]; exact hP3
  have hB4 := hB3.trans (Below.mono (B := W3.heap.size) ⟨hb4.os, hb4.tape, hb4.output, hb4.size, hb4.block⟩ hB3.size)
  clear c0 c1 c2 c3 c4 c5
  obtain ⟨c0, c1, c2, c3, c4, c5⟩ := hP4.cells
  have f4 : ∀ i, w4.frozen? ⟨w.heap.size, i, none⟩ = false := fun i => pb_frozen hP4 i
  go_wp2
  have hbz : (15 : Int) + n + 4 = 19 + X.size := by rw [hbl]; omega
  rw [hbz] at *
  exact bodyPost_ret (v := .tuple #[Fr.val ⟨x2, x3, x4, x5, x6, X⟩, .int .i64 (19 + X.size), .bool true]) (by simp [results, Try.results27, go_sem, Fr.val, c0, c1, c2, c3, c4, c5]) rfl ⟨.inl ⟨⟨x2, x3, x4, x5, x6, X⟩, HPZ.out ▸ N.out, rfl⟩, below6 hB4 (Nat.le_refl _) _ _ _ _ _ _⟩
theorem first_c (a : Option Addr) (len cap : Nat) (zs : List Int) (w : World) (hb : IsB w a len zs) (hlc : len ≤ cap) :
    Calls Try.prog 27 #[.slice a len cap] w (FirstPost zs w) := by
  by_cases h : len < 19
  · exact first_short a len cap zs w hb h
  · obtain ⟨b, off, rfl, _⟩ := hb.2.2.1 (by omega)
    obtain ⟨n, hn⟩ := Int.eq_ofNat_of_zero_le (show 0 ≤ Fr.nb zs by unfold Fr.nb; have := hb.2.2.2 13; have := hb.2.2.2 14; omega)
    by_cases h2 : len < 19 + n
    · exact first_mid b off len cap zs w hb hlc (by omega) n hn h2
    · by_cases hk : zs.getD 0 0 = 66 ∧ zs.getD 1 0 = 87
      · by_cases hs : Fr.at4 zs (15 + n) = M.foldF (zs.take (15 + n))
        · cases hr : Fr.rightB (Fr.parse zs) with
          | true => exact first_good b off len cap zs w hb hlc (by omega) n hn (by omega) hk hs hr
          | false => exact first_bad b off len cap zs w hb hlc (by omega) n hn (by omega) hk hs hr
        · exact first_sum b off len cap zs w hb hlc (by omega) n hn (by omega) hk hs
      · exact first_mark b off len cap zs w hb hlc (by omega) n hn (by omega) hk
end Go.Proofs.Yteimegacnmakaac
