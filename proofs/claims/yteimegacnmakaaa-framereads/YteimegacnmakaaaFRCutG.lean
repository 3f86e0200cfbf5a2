/-
  What the document's answer for Cut and Decode returns.
-/
import Derived.Test.YteimegacnmakaaaFRCut
namespace Go.Proofs.Yteimegacnmakaaa
open Go.RowKit Go.ChangeShapes Go.WideShapes Go.ChangeAt
open Go.BigFrame
set_option linter.unusedVariables false
set_option linter.unusedSimpArgs false
set_option maxHeartbeats 4000000 in
theorem rcut_good (b off : Nat) (len cap : Nat) (zs : List Int) (w : World) (hb : IsB w (some ⟨b, off, none⟩) len zs) (hlc : len ≤ cap) (hsm : len < 1000000) (h : 19 ≤ len) (n : Nat) (hn : Fr.nb zs = n) (h2 : 19 + n ≤ len) (hr : Fr.rightB (Fr.parse zs) = true) (hd : Fr.enc (Fr.parse zs) = zs.take (19 + n)) :
    Calls Try.prog 18 #[.slice (some ⟨b, off, none⟩) len cap] w (CutPost zs w) := by
  have N : Hid (Fr.Begins (Fr.parse zs) zs) := ⟨Fr.wf_parse zs hb.2.2.2, hr, zs.drop (19 + n), by rw [hd, List.take_append_drop]⟩
  have HDZ : Hid (((Fr.tx (Fr.enc (Fr.parse zs))).toList == (Fr.tx (zs.take (19 + n))).toList) = true) := by
    show _ = _
    rw [tx_beq _ _ (Fr.enc_byte _ (Fr.wf_parse zs hb.2.2.2)) (fun x hx => Fr.mem_getD hb.2.2.2 x (List.mem_of_mem_take hx))]
    exact decide_eq_true hd
  have i0' : (19 : Int) + n ≤ len := by omega
  have z2 := hb.2.2.2 2
  have z3 := hb.2.2.2 3
  have z4 := hb.2.2.2 4
  have HPZ : Hid (Fr.parse zs = ⟨zs.getD 2 0, zs.getD 3 0, zs.getD 4 0, Fr.at4 ((zs.drop 5).take 4) 0, Fr.at4 ((zs.drop 9).take 4) 0, Fr.tx ((zs.drop 15).take n)⟩) := by
    show _ = _
    unfold Fr.parse; rw [hn, at4_sub, at4_sub, Int.toNat_natCast]; rfl
  have HWF := hid (Fr.wf_parse zs hb.2.2.2)
  have hbl : (Fr.tx ((zs.drop 15).take n)).size = n := by rw [Fr.tx_size, List.length_take, List.length_drop, hb.1]; omega
  have t1 : (15 + (n : Int)).toNat = 15 + n := by omega
  have t2 : (19 + (n : Int)).toNat = 19 + n := by omega
  have t5 : 15 + n - 15 = n := by omega
  have i1 : IntKind.i64.wrap (15 + (n : Int)) = 15 + n := by rw [IntKind.wrap_i64]; omega
  have i2 : (15 : Int) + n ≤ cap := by omega
  have i3 : (0 : Int) ≤ 15 + n := by omega
  have i4 : (15 : Int) ≤ 15 + n := by omega
  have i5 : IntKind.i64.wrap (19 + (n : Int)) = 19 + n := by rw [IntKind.wrap_i64]; omega
  have i6 : (19 : Int) + n ≤ cap := by omega
  have i7 : (0 : Int) ≤ 19 + n := by omega
  have i8 : (len : Int) ≤ cap := by omega
  have j2 : (2 : Int) < len := by omega
  have j3 : (3 : Int) < len := by omega
  have j4 : (4 : Int) < len := by omega
  have j5 : (9 : Int) ≤ cap := by omega
  have j6 : (13 : Int) ≤ cap := by omega
  have j8 : ¬ cap = 5 := by omega
  have j9 : ¬ cap = 9 := by omega
  have j10 : ¬ cap = 15 := by omega
  have HB := hid hb
  have z13 := hb.2.2.2 13
  have z14 := hb.2.2.2 14
  have HN : Hid (zs.getD 13 0 + zs.getD 14 0 * 256 = n) := by show _ = _; rw [← hn]; unfold Fr.nb; omega
  have hn2 : n < 65536 := by unfold Fr.nb at hn; omega
  obtain ⟨i0, hi, hz0, hz1, hz2⟩ := info_parts8
  have j13 : (13 : Int) < len := by omega
  have j14 : (14 : Int) < len := by omega
  clear hb hn
  go_enter Try.func18, Try.ntmps18
  go_wp2_with fail
  have hB0 : Below w.heap.size w (w.alloc (.cells #[.int .u8 0, .int .u8 0, .int .u8 0, .int .u32 0, .int .u32 0, .string ⟨#[]⟩] 25)) := (Below.refl _ _).alloc (Nat.le_refl _) _
  have hP0 := zero_pb w
  generalize (w.alloc (.cells #[.int .u8 0, .int .u8 0, .int .u8 0, .int .u32 0, .int .u32 0, .string ⟨#[]⟩] 25)) = W at *
  have HB0 := hid (HB.out.later hB0)
  obtain ⟨d13, d14⟩ : W.cell? ⟨b, off + 13, none⟩ = some (.int .u8 (zs.getD 13 0)) ∧ W.cell? ⟨b, off + 14, none⟩ = some (.int .u8 (zs.getD 14 0)) := by
    obtain ⟨_, _, q, _⟩ := HB0.out
    obtain ⟨b', off', e, hc⟩ := q (by omega)
    cases e
    exact ⟨hc 13 (by omega), hc 14 (by omega)⟩
  generalize zs.getD 13 0 = y13 at *
  generalize zs.getD 14 0 = y14 at *
  go_quiet (fail)
  have hBq : Below W.heap.size W (W.drewN nq) := below_drewN (Below.refl _ _) nq
  have hP1 := hP0.later hBq
  have HB1 := hid (HB0.out.later hBq)
  have hB1 := hB0.trans (hBq.mono hB0.size)
  generalize W.drewN nq = W1 at *
  clear d13 d14
  rw [HN.out]
  have hlt1 := hP1.lt
  have hbB : b < W1.heap.size := by
    obtain ⟨_, _, q, _⟩ := HB1.out
    obtain ⟨b', off', e', hc⟩ := q (by omega)
    cases e'
    exact World.block_lt_of_cell? W1 _ (hc 2 (by omega))
  have K4 : Hid (∀ (i c : Nat) (V : World), Below W1.heap.size W1 V → i + 4 ≤ len → Calls Try.prog 27 #[.slice (some ⟨b, off + i, none⟩) 4 c] V fun e w' => e = .returned (.int .u32 (Fr.at4 ((zs.drop i).take 4) 0)) ∧ Below W1.heap.size W1 w' ∧ Below V.heap.size V w') := fun i c V hV hi => (rnumber4_c _ c _ V ((HB1.out.later hV).sub i 4 hi)).mono fun e w' ⟨he, m, hw⟩ => ⟨he, by rw [hw]; exact below_drewN hV m, by rw [hw]; exact below_drewN (Below.refl _ _) m⟩
  generalize hx2 : zs.getD 2 0 = x2 at *
  generalize hx3 : zs.getD 3 0 = x3 at *
  generalize hx4 : zs.getD 4 0 = x4 at *
  generalize hX : Fr.tx ((zs.drop 15).take n) = X at *
  have HX := hid (And.intro hx2 (And.intro hx3 (And.intro hx4 hX)))
  clear hx2 hx3 hx4 hX
  have hS : ∀ V, Below W1.heap.size W1 V → _ := fun V hV => s_of (cap := cap) (w := V) (HB1.out.later hV) h2 HX.out.1 HX.out.2.1 HX.out.2.2.1 HX.out.2.2.2
  go_wp2_with fail
  go_region_held3 (fun w' => w'.cell? ⟨b, off + 2, none⟩ = some (.int .u8 x2) ∧ w'.cell? ⟨b, off + 3, none⟩ = some (.int .u8 x3) ∧ w'.cell? ⟨b, off + 4, none⟩ = some (.int .u8 x4) ∧ (convert 26 9 (.slice (some ⟨b, off + 15, none⟩) n (cap - 15))).run Try.prog w' = .ok (.string X) w') ((with_reducible exact hS _ (by first | with_reducible exact hbW | with_reducible exact Below.drew (Below.refl _ _) | with_reducible exact Below.drew (Below.alloc (Below.refl _ _) (Nat.le_refl _) _) | with_reducible exact Below.alloc hbW hzW _ | with_reducible exact below6 hbW (by omega) _ _ _ _ _ _))) ((go_at_call 27; refine (K4.out _ _ _ (by first | with_reducible exact hbW | with_reducible exact Below.drew (Below.refl _ _) | with_reducible exact Below.drew (Below.alloc (Below.refl _ _) (Nat.le_refl _) _) | with_reducible exact Below.alloc hbW hzW _ | with_reducible exact below6 hbW (by omega) _ _ _ _ _ _) (by omega)).mono ?_; rintro _ V ⟨rfl, hbW, hbV⟩; (have hzW := hbW.size); (have hzV := hbV.size); (first | (have pz := PB.later pz hbV) | (have pz := (by with_reducible exact PB.later (zero_pb _) hbV)) | (have pz := (by with_reducible exact PB.later (PB.drew (zero_pb _)) hbV)) | skip); (try (obtain ⟨y0, y1, y2, y3, y4, y5⟩ := pz.cells)); (try (have yf := fun i => pb_frozen pz i))))
  all_goals
    first
      | (have hQB := six_both (⟨x2, x3, x4, Fr.at4 ((zs.drop 5).take 4) 0, Fr.at4 ((zs.drop 9).take 4) 0, X⟩ : Fr.Pk) pz hbW (by omega); simp only at hQB; revert hQB; (generalize (World.setCell (World.setCell _ _ _) _ _) = Ve); rintro ⟨hQ, hBe⟩; clear pz; (obtain ⟨blk, ebk⟩ : ∃ blk, blk = pz_blk hQ := ⟨_, rfl⟩); (unfold pz_blk at ebk); (have hbk : W1.heap.size ≤ blk := by rw [ebk]; omega); (rw [← ebk] at hQ ⊢); clear ebk)
      | (have hQ : PB (V.alloc (.cells #[.int .u8 x2, .int .u8 x3, .int .u8 x4, .int .u32 (Fr.at4 ((zs.drop 5).take 4) 0), .int .u32 (Fr.at4 ((zs.drop 9).take 4) 0), .string X] 25)) V.heap.size ⟨x2, x3, x4, Fr.at4 ((zs.drop 5).take 4) 0, Fr.at4 ((zs.drop 9).take 4) 0, X⟩ := heap_alloc_new V _; have hBe := hbW.alloc hzW (.cells #[.int .u8 x2, .int .u8 x3, .int .u8 x4, .int .u32 (Fr.at4 ((zs.drop 5).take 4) 0), .int .u32 (Fr.at4 ((zs.drop 9).take 4) 0), .string X] 25); revert hQ hBe; (generalize (World.alloc V _) = Ve); intro hQ hBe; (obtain ⟨blk, ebk⟩ : ∃ blk, blk = pz_blk hQ := ⟨_, rfl⟩); (unfold pz_blk at ebk); (have hbk : W1.heap.size ≤ blk := by rw [ebk]; omega); (rw [← ebk] at hQ ⊢); clear ebk)
    have HWQ := hid (HPZ.out ▸ HWF.out)
    have HRQ := hid (HPZ.out ▸ hr)
    have HDE := hid (HPZ.out ▸ HDZ.out)
    generalize Fr.at4 ((zs.drop 5).take 4) 0 = x5 at *
    generalize Fr.at4 ((zs.drop 9).take 4) 0 = x6 at *
    have C := fun U => rencode_c ⟨x2, x3, x4, x5, x6, X⟩ HWQ.out (by simp only [hbl]; unfold maxLen; omega) U
    rw [show Fr.val ⟨x2, x3, x4, x5, x6, X⟩ = .agg #[.int .u8 x2, .int .u8 x3, .int .u8 x4, .int .u32 x5, .int .u32 x6, .string X] from rfl] at C
    have HC : Hid _ := C
    clear C K4
    obtain ⟨u0, u1, u2, u3, u4, u5⟩ := hQ.cells
    have hP5 := hP1.later hBe
    have HB5 := hid (HB1.out.later hBe)
    have hB5 := hB1.trans (hBe.mono hB1.size)
    clear hS
    try clear y0 y1 y2 y3 y4 y5
    try clear yf
    go_wp2_with fail
    refine (HC.out _).mono ?_
    rintro _ w5 hpost
    obtain ⟨hor, hb5⟩ := hpost
    have hP6 := hP5.later hb5
    have hQ6 := hQ.later hb5
    have HB6 := hid (HB5.out.later hb5)
    have hB6 := hB5.trans (hb5.mono hB5.size)
    clear u0 u1 u2 u3 u4 u5 hQ hP5 HB5 hBe hb5
    rcases hor with ⟨_, v5, rfl, hown5⟩ | ⟨h9, _⟩
    · obtain ⟨a5, cap5, rfl, hI5, hc5⟩ := isB_pile (T := 0) (g := 0) (Fr.enc_byte _ HWQ.out) hown5
      have hl5 := Fr.enc_length ⟨x2, x3, x4, x5, x6, X⟩
      obtain ⟨xb, xo, e9, _⟩ := hI5.2.2.1 (by omega)
      subst e9
      have kc : ∀ w1, Below w5.heap.size w5 w1 → (convert 26 9 (.slice (some ⟨xb, xo, none⟩) (Fr.enc ⟨x2, x3, x4, x5, x6, X⟩).length cap5)).run Try.prog w1 = .ok (.string (Fr.tx (Fr.enc ⟨x2, x3, x4, x5, x6, X⟩))) w1 := fun w1 h1 => (hI5.later h1).conv
      have kd : ∀ w1, Below w5.heap.size w5 w1 → (convert 26 9 (.slice (some ⟨b, off, none⟩) (19 + n) cap)).run Try.prog w1 = .ok (.string (Fr.tx (zs.take (19 + n)))) w1 := fun w1 h1 => ((HB6.out.later h1).front (19 + n) (by omega)).conv
      have dE : ((Fr.tx (Fr.enc ⟨x2, x3, x4, x5, x6, X⟩)).toList == (Fr.tx (zs.take (19 + n))).toList) = true := HDE.out
      clear hl5 hI5 hown5
      generalize (Fr.enc ⟨x2, x3, x4, x5, x6, X⟩).length = L5 at *
      generalize Fr.tx (Fr.enc ⟨x2, x3, x4, x5, x6, X⟩) = T5 at *
      generalize Fr.tx (zs.take (19 + n)) = T6 at *
      go_wp2_with fail
      refine wp_region_class (by kernel_rfl) (by kernel_rfl) ?_
      repeat (first
        | go_big_quiet_skip
        | (go_big_quiet_want
           apply quiet_by
           · intro w1 hw1
             go_simp
             first
               | rfl
               | exact kc _ hw1
               | exact kd _ hw1
           · go_simp; rfl
           go_big_quiet_on))
      refine wpQuiet_nil ?_
      intro w7 hw7
      have hP7 := hP6.later hw7
      have hB7 := hB6.trans (hw7.mono hB6.size)
      have hQ7 := hQ6.later hw7
      obtain ⟨q0, q1, q2, q3, q4, q5⟩ := hQ7.cells
      have hS0 := (PB.drew hQ7).cells
      have hSa := (PB.drew (PB.alloc hQ7 (.cells #[] 5))).cells
      simp only at hS0 hSa
      have hz7 := hB7.size
      have hl7 := hP7.lt
      have hlq := hQ7.lt
      have HOE : Hid ((w7.alloc (.cells #[] 5)).drew.ownsRow (w.heap.size + 1) 5 1 (.slice (some ⟨w7.heap.size, 0, none⟩) 0 0) 0 []) := own_mono (own_empty8 w7) (by omega)
      have HD : Hid ((zs.drop (19 + n)).length = len - (19 + n)) := by show _ = _; rw [List.length_drop, HB.out.1]
      have HZ : Hid (zs.drop (19 + (⟨x2, x3, x4, x5, x6, X⟩ : Fr.Pk).b.size) = zs.drop (19 + n)) := by show _ = _; simp only [hbl]
      by_cases hcap : cap = 19 + n
      · have hl0 : len = 19 + n := by omega
        have HD0 : Hid (zs.drop (19 + n) = []) := List.eq_nil_of_length_eq_zero (by rw [HD.out]; omega)
        subst hl0
        subst hcap
        go_wp2_with fail
        go_region_held3 (fun w' => w'.cell? ⟨blk, 0, none⟩ = some (.int .u8 x2) ∧ w'.cell? ⟨blk, 1, none⟩ = some (.int .u8 x3) ∧ w'.cell? ⟨blk, 2, none⟩ = some (.int .u8 x4) ∧ w'.cell? ⟨blk, 3, none⟩ = some (.int .u32 x5) ∧ w'.cell? ⟨blk, 4, none⟩ = some (.int .u32 x6) ∧ w'.cell? ⟨blk, 5, none⟩ = some (.string X)) (first | (with_reducible exact hS0) | (with_reducible exact hSa) | (with_reducible exact hS8) | (with_reducible exact hS6 _ _ _ _ _ _) | go_keep) ((refine stepc_append_own _ (by rfl) (.tmp 69) (.tmp 73) 26 (by rfl) (w.heap.size + 1) 5 i0 (.int .u8 0) 1 1 Try.underlying26 hi hz0 hz1 hz2 rfl (by decide) (.slice (some ⟨w7.heap.size, 0, none⟩) 0 0) 0 [] (by rfl) HOE.out ⟨b, off, none⟩ 0 _ ([] : List Value) (by rfl) (by rfl) (fun j u h => by cases h) (fun y hy => by cases hy) (by unfold maxLen; omega) (by omega) (by simp; omega) ?_; intro v8 w8 hown8 hgrow8; (have hP8 : PB w8 w.heap.size ⟨0, 0, 0, 0, 0, ⟨#[]⟩⟩ := PB.grown (base := w7.heap.size) (PB.drew (PB.alloc hP7 _)) hgrow8 (fun q hq => by cases hq; exact Nat.le_refl _) (by omega)); (have hQ8 : PB w8 blk ⟨x2, x3, x4, x5, x6, X⟩ := PB.grown (base := w7.heap.size) (PB.drew (PB.alloc hQ7 _)) hgrow8 (fun q hq => by cases hq; exact Nat.le_refl _) hQ7.lt); (have hS8 := hQ8.cells); (obtain ⟨g0, g1, g2, g3, g4, g5⟩ := hP8.cells); (have f8 : ∀ i, w8.frozen? ⟨w.heap.size, i, none⟩ = false := fun i => pb_frozen hP8 i); (have hS6 := fun v0 v1 v2 v3 v4 v5 => (pb_six (B := w.heap.size) hQ8 (by omega) v0 v1 v2 v3 v4 v5).cells); (have hB8 : Below w.heap.size w w8 := Below.grown (Below.drew (hB7.alloc hB7.size _)) hgrow8 (by have := hB7.size; simp; omega) (fun q hq => by cases hq; exact hB7.size))))
        have hO8 : w8.ownsRow (w.heap.size + 1) 5 1 v8 (zs.drop (19 + (⟨x2, x3, x4, x5, x6, X⟩ : Fr.Pk).b.size)).length ((zs.drop (19 + (⟨x2, x3, x4, x5, x6, X⟩ : Fr.Pk).b.size)).map u8V) := by rw [HZ.out, HD0.out]; exact hown8
        go_wp2
        exact bodyPost_ret (v := .tuple #[Fr.val ⟨x2, x3, x4, x5, x6, X⟩, v8, .int .i64 0]) (by simp [results, Try.results18, go_sem, Fr.val, g0, g1, g2, g3, g4, g5]) rfl ⟨.inl ⟨_, v8, HPZ.out ▸ N.out, rfl, own_six hO8 _ _ _ _ _ _⟩, below6 hB8 (Nat.le_refl _) _ _ _ _ _ _⟩
      · have HC7 : Hid (∀ j u, ((zs.drop (19 + n)).map u8V)[j]? = some u → ((w7.alloc (.cells #[] 5)).drew).cell? ((⟨b, off + (19 + n), none⟩ : Addr).add j) = some u) := fun j u h => by
          have h1 := isB_cells ((HB6.out.later hw7).sub (19 + n) (len - (19 + n)) (by omega)) j u (by rw [List.take_of_length_le (by rw [HD.out]; omega)]; exact h)
          exact cell_later ((Below.refl w7.heap.size w7).alloc (Nat.le_refl _) (.cells #[] 5)).drew h1
        go_wp2_with fail
        go_region_held3 (fun w' => w'.cell? ⟨blk, 0, none⟩ = some (.int .u8 x2) ∧ w'.cell? ⟨blk, 1, none⟩ = some (.int .u8 x3) ∧ w'.cell? ⟨blk, 2, none⟩ = some (.int .u8 x4) ∧ w'.cell? ⟨blk, 3, none⟩ = some (.int .u32 x5) ∧ w'.cell? ⟨blk, 4, none⟩ = some (.int .u32 x6) ∧ w'.cell? ⟨blk, 5, none⟩ = some (.string X)) (first | (with_reducible exact hS0) | (with_reducible exact hSa) | (with_reducible exact hS8) | (with_reducible exact hS6 _ _ _ _ _ _) | go_keep) ((refine stepc_append_own _ (by rfl) (.tmp 69) (.tmp 73) 26 (by rfl) (w.heap.size + 1) 5 i0 (.int .u8 0) 1 1 Try.underlying26 hi hz0 hz1 hz2 rfl (by decide) (.slice (some ⟨w7.heap.size, 0, none⟩) 0 0) 0 [] (by rfl) HOE.out ⟨b, off + (19 + n), none⟩ (len - (19 + n)) _ ((zs.drop (19 + n)).map u8V) (by rfl) (by rw [List.length_map, HD.out]; omega) HC7.out (u8_one _) (by unfold maxLen; omega) (by omega) (by simp; omega) ?_; intro v8 w8 hown8 hgrow8; (have hP8 : PB w8 w.heap.size ⟨0, 0, 0, 0, 0, ⟨#[]⟩⟩ := PB.grown (base := w7.heap.size) (PB.drew (PB.alloc hP7 _)) hgrow8 (fun q hq => by cases hq; exact Nat.le_refl _) (by omega)); (have hQ8 : PB w8 blk ⟨x2, x3, x4, x5, x6, X⟩ := PB.grown (base := w7.heap.size) (PB.drew (PB.alloc hQ7 _)) hgrow8 (fun q hq => by cases hq; exact Nat.le_refl _) hQ7.lt); (have hS8 := hQ8.cells); (obtain ⟨g0, g1, g2, g3, g4, g5⟩ := hP8.cells); (have f8 : ∀ i, w8.frozen? ⟨w.heap.size, i, none⟩ = false := fun i => pb_frozen hP8 i); (have hS6 := fun v0 v1 v2 v3 v4 v5 => (pb_six (B := w.heap.size) hQ8 (by omega) v0 v1 v2 v3 v4 v5).cells); (have hB8 : Below w.heap.size w w8 := Below.grown (Below.drew (hB7.alloc hB7.size _)) hgrow8 (by have := hB7.size; simp; omega) (fun q hq => by cases hq; exact hB7.size))))
        have hO8 : w8.ownsRow (w.heap.size + 1) 5 1 v8 (zs.drop (19 + (⟨x2, x3, x4, x5, x6, X⟩ : Fr.Pk).b.size)).length ((zs.drop (19 + (⟨x2, x3, x4, x5, x6, X⟩ : Fr.Pk).b.size)).map u8V) := by rw [HZ.out, HD.out]; rw [Nat.zero_add, List.nil_append] at hown8; exact hown8
        go_wp2
        exact bodyPost_ret (v := .tuple #[Fr.val ⟨x2, x3, x4, x5, x6, X⟩, v8, .int .i64 0]) (by simp [results, Try.results18, go_sem, Fr.val, g0, g1, g2, g3, g4, g5]) rfl ⟨.inl ⟨_, v8, HPZ.out ▸ N.out, rfl, own_six hO8 _ _ _ _ _ _⟩, below6 hB8 (Nat.le_refl _) _ _ _ _ _ _⟩
    · exact absurd h9 (by rw [HRQ.out]; decide)
theorem rcut_c (a : Option Addr) (len cap : Nat) (zs : List Int) (w : World) (hb : IsB w a len zs) (hlc : len ≤ cap) (hsm : len < 1000000) :
    Calls Try.prog 18 #[.slice a len cap] w (CutPost zs w) := by
  by_cases h : len < 19
  · exact rcut_short a len cap zs w hb h
  · obtain ⟨b, off, rfl, _⟩ := hb.2.2.1 (by omega)
    obtain ⟨n, hn⟩ := Int.eq_ofNat_of_zero_le (show 0 ≤ Fr.nb zs by unfold Fr.nb; have := hb.2.2.2 13; have := hb.2.2.2 14; omega)
    by_cases h2 : len < 19 + n
    · exact rcut_mid b off len cap zs w hb hlc hsm (by omega) n hn h2
    · cases hr : Fr.rightB (Fr.parse zs) with
      | false => exact rcut_wrong b off len cap zs w hb hlc hsm (by omega) n hn (by omega) hr
      | true =>
        by_cases hd : Fr.enc (Fr.parse zs) = zs.take (19 + n)
        · exact rcut_good b off len cap zs w hb hlc hsm (by omega) n hn (by omega) hr hd
        · exact rcut_diff b off len cap zs w hb hlc hsm (by omega) n hn (by omega) hr hd
end Go.Proofs.Yteimegacnmakaaa
