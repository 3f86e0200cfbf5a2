/-
  The document's op: an operation's bytes.
-/
import Derived.Test.YtfbcdikoafdnbaaRF1
namespace Go.Proofs.Ytfbcdikoafdnbaa
open Go.RowKit Go.ChangeShapes Go.WideShapes Go.ChangeAt
set_option linter.unusedVariables false
set_option linter.unusedSimpArgs false
set_option maxRecDepth 100000
set_option maxHeartbeats 8000000 in
theorem rop_c (x : Rec) (w : World) (hw : x.Wf) (hs : x.nm.size ≤ 200 ∧ x.nm2.size ≤ 200 ∧ x.dt.size ≤ 200) :
    Calls Try.prog 25 #[x.opV] w fun e w' => ∃ v, e = .returned v ∧ OwB w' w.heap.size v (opB x) ∧ Below w.heap.size w w' := by
  obtain ⟨⟨a0, a1⟩, ⟨b0, b1⟩, ⟨c0, c1⟩, ⟨d0, d1⟩, ⟨e0, e1⟩, _⟩ := hw
  have hX : (w.alloc (.cells x.ops.toArray 27)).heap[w.heap.size]? = some (.cells x.ops.toArray 27 (0, 0)) := heap_alloc_new w _
  have hBV : Below w.heap.size w (w.alloc (.cells x.ops.toArray 27)) := below_1 _ _
  have hzV : (w.alloc (.cells x.ops.toArray 27)).heap.size = w.heap.size + 1 := by simp
  have KS : Hid (∀ W, Below (w.heap.size + 1) (w.alloc (.cells x.ops.toArray 27)) W → W.cell? ⟨w.heap.size, 0, none⟩ = some (.int .u8 x.k) ∧ W.cell? ⟨w.heap.size, 1, none⟩ = some (.int .u32 x.fid) ∧ W.cell? ⟨w.heap.size, 2, none⟩ = some (.int .u32 x.dir) ∧ W.cell? ⟨w.heap.size, 3, none⟩ = some (.string x.nm) ∧ W.cell? ⟨w.heap.size, 4, none⟩ = some (.int .u32 x.to) ∧ W.cell? ⟨w.heap.size, 5, none⟩ = some (.string x.nm2) ∧ W.cell? ⟨w.heap.size, 6, none⟩ = some (.int .u16 x.md) ∧ W.cell? ⟨w.heap.size, 7, none⟩ = some (.string x.dt)) := hid (fun W hb => op_all ((hb.block w.heap.size (by omega)).trans hX))
  have BV := hid hBV
  have EK : Hid (beF x.k 1 = [x.k]) := hid (by unfold beF beF; simp; omega)
  have EO : Hid (opB x = ((((beF x.k 1 ++ beF x.fid 4) ++ beF x.dir 4) ++ txF x.nm ++ beF x.to 4) ++ txF x.nm2 ++ beF x.md 2) ++ txF x.dt) := hid (by unfold opB; simp only [List.append_assoc])
  have P1 : Hid (∀ W, Calls Try.prog 30 #[.int .u64 x.fid, .int .i64 4] W fun e w' => ∃ v, e = .returned v ∧ OwB w' W.heap.size v (beF x.fid 4) ∧ Below W.heap.size W w') := hid (fun W => rput_c x.fid 4 W (by omega) (by omega) (by omega))
  have P2 : Hid (∀ W, Calls Try.prog 30 #[.int .u64 x.dir, .int .i64 4] W fun e w' => ∃ v, e = .returned v ∧ OwB w' W.heap.size v (beF x.dir 4) ∧ Below W.heap.size W w') := hid (fun W => rput_c x.dir 4 W (by omega) (by omega) (by omega))
  have P3 : Hid (∀ W, Calls Try.prog 30 #[.int .u64 x.to, .int .i64 4] W fun e w' => ∃ v, e = .returned v ∧ OwB w' W.heap.size v (beF x.to 4) ∧ Below W.heap.size W w') := hid (fun W => rput_c x.to 4 W (by omega) (by omega) (by omega))
  have P4 : Hid (∀ W, Calls Try.prog 30 #[.int .u64 x.md, .int .i64 2] W fun e w' => ∃ v, e = .returned v ∧ OwB w' W.heap.size v (beF x.md 2) ∧ Below W.heap.size W w') := hid (fun W => rput_c x.md 2 W (by omega) (by omega) (by omega))
  have T1 := hid (fun W => rtext_c x.nm W hs.1)
  have T2 := hid (fun W => rtext_c x.nm2 W hs.2.1)
  have T3 := hid (fun W => rtext_c x.dt W hs.2.2)
  have l1 : (txF x.nm).length ≤ 300 := by rw [txF_len]; omega
  have l2 : (txF x.nm2).length ≤ 300 := by rw [txF_len]; omega
  have l3 : (txF x.dt).length ≤ 300 := by rw [txF_len]; omega
  have m1 : (beF x.fid 4).length = 4 := beF_len _ _
  have m2 : (beF x.dir 4).length = 4 := beF_len _ _
  have m3 : (beF x.to 4).length = 4 := beF_len _ _
  have m4 : (beF x.md 2).length = 2 := beF_len _ _
  have wu1 : IntKind.u64.wrap x.fid = x.fid := by rw [IntKind.wrap_u64]; omega
  have wu2 : IntKind.u64.wrap x.dir = x.dir := by rw [IntKind.wrap_u64]; omega
  have wu3 : IntKind.u64.wrap x.to = x.to := by rw [IntKind.wrap_u64]; omega
  have wu4 : IntKind.u64.wrap x.md = x.md := by rw [IntKind.wrap_u64]; omega
  unfold Rec.opV
  clear hs a0 a1 b0 b1 c0 c1 d0 d1 e0 e1 hX hBV
  generalize beF x.fid 4 = z1 at *
  generalize beF x.dir 4 = z2 at *
  generalize beF x.to 4 = z4 at *
  generalize beF x.md 2 = z6 at *
  generalize txF x.nm = z3 at *
  generalize txF x.nm2 = z5 at *
  generalize txF x.dt = z7 at *
  generalize beF x.k 1 = z0 at *
  go_enter Try.func25, Try.ntmps25
  go_upto_region 1 with fail
  change Code.wp _ _ _ _ (w.alloc (.cells x.ops.toArray 27))
  generalize w.alloc (.cells x.ops.toArray 27) = V at *
  obtain ⟨y0, y1, y2, y3, y4, y5, y6, y7⟩ := KS.out V (Below.refl _ _)
  have DV : Hid (Below (w.heap.size + 1) V V.drew) := hid (Below.refl _ V).drew
  have DA : Hid (Below (w.heap.size + 1) V (V.alloc (.cells #[.int .u8 x.k] 5)).drew) := hid (((Below.refl _ V).alloc (Nat.le_of_eq hzV.symm) _).drew)
  have NV : Hid (OwB (V.alloc (.cells #[.int .u8 x.k] 5)).drew (w.heap.size + 1) (.slice (some ⟨w.heap.size + 1, 0, none⟩) 1 1) [x.k]) := hid (by have := OwB.new V x.k; rw [hzV] at this; exact this)
  have ZV := hid (Nat.le_of_eq hzV.symm)
  have ZD : Hid (w.heap.size + 1 ≤ V.drew.heap.size) := hid (Nat.le_of_eq hzV.symm)
  have ZA : Hid (w.heap.size + 1 ≤ (V.alloc (.cells #[.int .u8 x.k] 5)).drew.heap.size) := hid (Nat.le_trans ZV.out (alloc_leR V _))
  go_cut [3] from 4 to 11 (fun s3 wx => Hid (OwB wx (w.heap.size + 1) s3 (z0 ++ z1)) ∧ Hid (Below (w.heap.size + 1) V wx))
  case first =>
    go_region_held3 (fun w' => w'.cell? ⟨w.heap.size, 0, none⟩ = some (.int .u8 x.k) ∧ w'.cell? ⟨w.heap.size, 1, none⟩ = some (.int .u32 x.fid) ∧ w'.cell? ⟨w.heap.size, 2, none⟩ = some (.int .u32 x.dir) ∧ w'.cell? ⟨w.heap.size, 3, none⟩ = some (.string x.nm) ∧ w'.cell? ⟨w.heap.size, 4, none⟩ = some (.int .u32 x.to) ∧ w'.cell? ⟨w.heap.size, 5, none⟩ = some (.string x.nm2) ∧ w'.cell? ⟨w.heap.size, 6, none⟩ = some (.int .u16 x.md) ∧ w'.cell? ⟨w.heap.size, 7, none⟩ = some (.string x.dt)) (first | (with_reducible exact KS.out _ B9.out) | (with_reducible exact KS.out _ B2.out) | go_keep)
      (first
        | (have _q := TA.out; clear _q; refine step_appB9 _ (by rfl) _ _ (by rfl) (w.heap.size + 1) _ [x.k] (by rfl) (OA.out) _ z1 (by rfl) R2.out (by simp) (by omega) ZW.out ?_; intro v9 w9 ho9 hg9; have O9 := hid ho9; have B9 := hid (grown_bel B2.out OA.out (Nat.le_refl _) ZW.out hg9); obtain ⟨a9, n9, c9, rfl⟩ := ho9.any; clear ho9 hg9)
        | (have _q := TB.out; clear _q; refine step_appB9 _ (by rfl) _ _ (by rfl) (w.heap.size + 1) _ [x.k] (by rfl) ((OwB.new w2 x.k).base ZW.out) _ z1 (by rfl) (R2.out.later ((Below.refl _ _).alloc (Nat.le_refl _) _)) (by simp) (by omega) (Nat.le_trans ZW.out (alloc_leR _ _)) ?_; intro v9 w9 ho9 hg9; have O9 := hid ho9; have B9 := hid (grown_bel (B2.out.alloc ZW.out _) ((OwB.new w2 x.k).base ZW.out) (Nat.le_refl _) (Nat.le_trans ZW.out (alloc_leR _ _)) hg9); obtain ⟨a9, n9, c9, rfl⟩ := ho9.any; clear ho9 hg9)
        | (go_at_call 30; with_reducible refine (P1.out V.drew).mono ?_; rintro _ w2 ⟨v2, rfl, ho2, hb2⟩; have R2 := hid (ho2.base (Nat.zero_le _)); have B2 := hid (DV.out.trans (hb2.mono ZD.out)); have ZW := hid (Nat.le_trans ZD.out hb2.size); have TB := hid ho2; clear ho2 hb2)
        | (go_at_call 30; with_reducible refine (P1.out _).mono ?_; rintro _ w2 ⟨v2, rfl, ho2, hb2⟩; have R2 := hid (ho2.base (Nat.zero_le _)); have B2 := hid (DA.out.trans (hb2.mono ZA.out)); have ZW := hid (Nat.le_trans ZA.out hb2.size); have OA := hid (NV.out.later hb2); have TA := hid ho2; clear ho2 hb2)
        )
    all_goals (
      go_wp2_with fail
      go_meet
      exact ⟨hid (by rw [EK.out]; exact O9.out), B9⟩)
  obtain ⟨H3, HB⟩ := hcut
  obtain ⟨va, vn, vc, rfl⟩ := H3.out.any
  clear y0 y1 y2 y3 y4 y5 y6 y7 DV DA NV ZD ZA
  obtain ⟨y0, y1, y2, y3, y4, y5, y6, y7⟩ := KS.out wc HB.out
  have W0 : Hid (w.heap.size + 1 ≤ wc.drew.heap.size) := hid (Nat.le_trans ZV.out HB.out.size)
  have HD : Hid (Below (w.heap.size + 1) V wc.drew) := hid HB.out.drew
  have D0 : Hid (Below wc.heap.size wc wc.drew) := hid (Below.refl _ wc).drew
  have O0 : Hid (OwB wc.drew (w.heap.size + 1) (.slice va vn vc) (z0 ++ z1)) := hid H3.out
  have LZ : (z0 ++ z1).length ≤ 5000 := by rw [EK.out, List.length_append]; simp; omega
  go_upto_region 2 with fail
  go_cut [3] from 12 to 21 (fun s3 wx => Hid (OwB wx (w.heap.size + 1) s3 (z0 ++ z1 ++ z2 ++ z3)) ∧ Hid (Below (w.heap.size + 1) V wx))
  case first =>
    go_region_held3 (fun w' => w'.cell? ⟨w.heap.size, 0, none⟩ = some (.int .u8 x.k) ∧ w'.cell? ⟨w.heap.size, 1, none⟩ = some (.int .u32 x.fid) ∧ w'.cell? ⟨w.heap.size, 2, none⟩ = some (.int .u32 x.dir) ∧ w'.cell? ⟨w.heap.size, 3, none⟩ = some (.string x.nm) ∧ w'.cell? ⟨w.heap.size, 4, none⟩ = some (.int .u32 x.to) ∧ w'.cell? ⟨w.heap.size, 5, none⟩ = some (.string x.nm2) ∧ w'.cell? ⟨w.heap.size, 6, none⟩ = some (.int .u16 x.md) ∧ w'.cell? ⟨w.heap.size, 7, none⟩ = some (.string x.dt)) (first | (with_reducible exact KS.out _ B7.out) | (with_reducible exact KS.out _ B6.out) | (with_reducible exact KS.out _ B5.out) | (with_reducible exact KS.out _ B4.out) | go_keep)
      (first
        | (have _q := U6.out; clear _q; refine step_appB9 _ (by rfl) _ _ (by rfl) (w.heap.size + 1) _ _ (by rfl) O6.out _ z3 (by rfl) R6.out (by rw [List.length_append]; omega) (by omega) Z6.out ?_; intro v7 w7 ho7 hg7; have O7 := hid ho7; have B7 := hid (grown_bel B6.out O6.out (Nat.le_refl _) Z6.out hg7); obtain ⟨a7, n7, c7, rfl⟩ := ho7.any; clear ho7 hg7)
        | (have _q := U5.out; clear _q; go_at_call 35; with_reducible refine (T1.out w5).mono ?_; rintro _ w6 ⟨v6, rfl, ho6, hb6⟩; have R6 := hid (ho6.base (Nat.zero_le _)); have O6 := hid (O5.out.later hb6); have B6 := hid (B5.out.trans (hb6.mono Z5.out)); have Z6 := hid (Nat.le_trans Z5.out hb6.size); have U6 := hid ho6; clear ho6 hb6)
        | (have _q := U4.out; clear _q; refine step_appB9 _ (by rfl) _ _ (by rfl) (w.heap.size + 1) _ _ (by rfl) O4.out _ z2 (by rfl) R4.out (by omega) (by omega) Z4.out ?_; intro v5 w5 ho5 hg5; have O5 := hid ho5; have B5 := hid (grown_bel B4.out O4.out (Nat.le_refl _) Z4.out hg5); have Z5 := hid (Nat.le_trans Z4.out hg5.size); have U5 := hid ho5; obtain ⟨a5, n5, c5, rfl⟩ := ho5.any; clear ho5 hg5)
        | (go_at_call 30; with_reducible refine (P2.out wc.drew).mono ?_; rintro _ w4 ⟨v4, rfl, ho4, hb4⟩; have R4 := hid (ho4.base (Nat.zero_le _)); have O4 := hid (O0.out.later hb4); have B4 := hid (HD.out.trans (hb4.mono W0.out)); have Z4 := hid (Nat.le_trans W0.out hb4.size); have U4 := hid ho4; clear ho4 hb4)
        )
    all_goals (
      go_wp2_with fail
      go_meet
      exact ⟨O7, B7⟩)
  clear y0 y1 y2 y3 y4 y5 y6 y7 W0 HD D0 O0 LZ H3 HB
  obtain ⟨H3, HB⟩ := hcut
  obtain ⟨va, vn, vc, rfl⟩ := H3.out.any
  obtain ⟨y0, y1, y2, y3, y4, y5, y6, y7⟩ := KS.out wc HB.out
  have W0 : Hid (w.heap.size + 1 ≤ wc.drew.heap.size) := hid (Nat.le_trans ZV.out HB.out.size)
  have HD : Hid (Below (w.heap.size + 1) V wc.drew) := hid HB.out.drew
  have D0 : Hid (Below wc.heap.size wc wc.drew) := hid (Below.refl _ wc).drew
  have O0 : Hid (OwB wc.drew (w.heap.size + 1) (.slice va vn vc) (z0 ++ z1 ++ z2 ++ z3)) := hid H3.out
  have LZ : (z0 ++ z1 ++ z2 ++ z3).length ≤ 5000 := by rw [EK.out]; simp; omega
  go_upto_region 3 with fail
  go_cut [3] from 22 to 31 (fun s3 wx => Hid (OwB wx (w.heap.size + 1) s3 (z0 ++ z1 ++ z2 ++ z3 ++ z4 ++ z5)) ∧ Hid (Below (w.heap.size + 1) V wx))
  case first =>
    go_region_held3 (fun w' => w'.cell? ⟨w.heap.size, 0, none⟩ = some (.int .u8 x.k) ∧ w'.cell? ⟨w.heap.size, 1, none⟩ = some (.int .u32 x.fid) ∧ w'.cell? ⟨w.heap.size, 2, none⟩ = some (.int .u32 x.dir) ∧ w'.cell? ⟨w.heap.size, 3, none⟩ = some (.string x.nm) ∧ w'.cell? ⟨w.heap.size, 4, none⟩ = some (.int .u32 x.to) ∧ w'.cell? ⟨w.heap.size, 5, none⟩ = some (.string x.nm2) ∧ w'.cell? ⟨w.heap.size, 6, none⟩ = some (.int .u16 x.md) ∧ w'.cell? ⟨w.heap.size, 7, none⟩ = some (.string x.dt)) (first | (with_reducible exact KS.out _ B7.out) | (with_reducible exact KS.out _ B6.out) | (with_reducible exact KS.out _ B5.out) | (with_reducible exact KS.out _ B4.out) | go_keep)
      (first
        | (have _q := U6.out; clear _q; refine step_appB9 _ (by rfl) _ _ (by rfl) (w.heap.size + 1) _ _ (by rfl) O6.out _ z5 (by rfl) R6.out (by rw [List.length_append]; omega) (by omega) Z6.out ?_; intro v7 w7 ho7 hg7; have O7 := hid ho7; have B7 := hid (grown_bel B6.out O6.out (Nat.le_refl _) Z6.out hg7); obtain ⟨a7, n7, c7, rfl⟩ := ho7.any; clear ho7 hg7)
        | (have _q := U5.out; clear _q; go_at_call 35; with_reducible refine (T2.out w5).mono ?_; rintro _ w6 ⟨v6, rfl, ho6, hb6⟩; have R6 := hid (ho6.base (Nat.zero_le _)); have O6 := hid (O5.out.later hb6); have B6 := hid (B5.out.trans (hb6.mono Z5.out)); have Z6 := hid (Nat.le_trans Z5.out hb6.size); have U6 := hid ho6; clear ho6 hb6)
        | (have _q := U4.out; clear _q; refine step_appB9 _ (by rfl) _ _ (by rfl) (w.heap.size + 1) _ _ (by rfl) O4.out _ z4 (by rfl) R4.out (by omega) (by omega) Z4.out ?_; intro v5 w5 ho5 hg5; have O5 := hid ho5; have B5 := hid (grown_bel B4.out O4.out (Nat.le_refl _) Z4.out hg5); have Z5 := hid (Nat.le_trans Z4.out hg5.size); have U5 := hid ho5; obtain ⟨a5, n5, c5, rfl⟩ := ho5.any; clear ho5 hg5)
        | (go_at_call 30; with_reducible refine (P3.out wc.drew).mono ?_; rintro _ w4 ⟨v4, rfl, ho4, hb4⟩; have R4 := hid (ho4.base (Nat.zero_le _)); have O4 := hid (O0.out.later hb4); have B4 := hid (HD.out.trans (hb4.mono W0.out)); have Z4 := hid (Nat.le_trans W0.out hb4.size); have U4 := hid ho4; clear ho4 hb4)
        )
    all_goals (
      go_wp2_with fail
      go_meet
      exact ⟨O7, B7⟩)
  clear y0 y1 y2 y3 y4 y5 y6 y7 W0 HD D0 O0 LZ H3 HB
  obtain ⟨H3, HB⟩ := hcut
  obtain ⟨va, vn, vc, rfl⟩ := H3.out.any
  obtain ⟨y0, y1, y2, y3, y4, y5, y6, y7⟩ := KS.out wc HB.out
  have W0 : Hid (w.heap.size + 1 ≤ wc.drew.heap.size) := hid (Nat.le_trans ZV.out HB.out.size)
  have HD : Hid (Below (w.heap.size + 1) V wc.drew) := hid HB.out.drew
  have D0 : Hid (Below wc.heap.size wc wc.drew) := hid (Below.refl _ wc).drew
  have O0 : Hid (OwB wc.drew (w.heap.size + 1) (.slice va vn vc) (z0 ++ z1 ++ z2 ++ z3 ++ z4 ++ z5)) := hid H3.out
  have LZ : (z0 ++ z1 ++ z2 ++ z3 ++ z4 ++ z5).length ≤ 5000 := by rw [EK.out]; simp; omega
  go_upto_region 4 with fail
  go_cut [2] from 32 to 41 (fun s3 wx => Hid (OwB wx (w.heap.size + 1) s3 (z0 ++ z1 ++ z2 ++ z3 ++ z4 ++ z5 ++ z6 ++ z7)) ∧ Hid (Below (w.heap.size + 1) V wx))
  case first =>
    go_region_held3 (fun w' => w'.cell? ⟨w.heap.size, 0, none⟩ = some (.int .u8 x.k) ∧ w'.cell? ⟨w.heap.size, 1, none⟩ = some (.int .u32 x.fid) ∧ w'.cell? ⟨w.heap.size, 2, none⟩ = some (.int .u32 x.dir) ∧ w'.cell? ⟨w.heap.size, 3, none⟩ = some (.string x.nm) ∧ w'.cell? ⟨w.heap.size, 4, none⟩ = some (.int .u32 x.to) ∧ w'.cell? ⟨w.heap.size, 5, none⟩ = some (.string x.nm2) ∧ w'.cell? ⟨w.heap.size, 6, none⟩ = some (.int .u16 x.md) ∧ w'.cell? ⟨w.heap.size, 7, none⟩ = some (.string x.dt)) (first | (with_reducible exact KS.out _ B7.out) | (with_reducible exact KS.out _ B6.out) | (with_reducible exact KS.out _ B5.out) | (with_reducible exact KS.out _ B4.out) | go_keep)
      (first
        | (have _q := U6.out; clear _q; refine step_appB9 _ (by rfl) _ _ (by rfl) (w.heap.size + 1) _ _ (by rfl) O6.out _ z7 (by rfl) R6.out (by rw [List.length_append]; omega) (by omega) Z6.out ?_; intro v7 w7 ho7 hg7; have O7 := hid ho7; have B7 := hid (grown_bel B6.out O6.out (Nat.le_refl _) Z6.out hg7); obtain ⟨a7, n7, c7, rfl⟩ := ho7.any; clear ho7 hg7)
        | (have _q := U5.out; clear _q; go_at_call 35; with_reducible refine (T3.out w5).mono ?_; rintro _ w6 ⟨v6, rfl, ho6, hb6⟩; have R6 := hid (ho6.base (Nat.zero_le _)); have O6 := hid (O5.out.later hb6); have B6 := hid (B5.out.trans (hb6.mono Z5.out)); have Z6 := hid (Nat.le_trans Z5.out hb6.size); have U6 := hid ho6; clear ho6 hb6)
        | (have _q := U4.out; clear _q; refine step_appB9 _ (by rfl) _ _ (by rfl) (w.heap.size + 1) _ _ (by rfl) O4.out _ z6 (by rfl) R4.out (by omega) (by omega) Z4.out ?_; intro v5 w5 ho5 hg5; have O5 := hid ho5; have B5 := hid (grown_bel B4.out O4.out (Nat.le_refl _) Z4.out hg5); have Z5 := hid (Nat.le_trans Z4.out hg5.size); have U5 := hid ho5; obtain ⟨a5, n5, c5, rfl⟩ := ho5.any; clear ho5 hg5)
        | (go_at_call 30; with_reducible refine (P4.out wc.drew).mono ?_; rintro _ w4 ⟨v4, rfl, ho4, hb4⟩; have R4 := hid (ho4.base (Nat.zero_le _)); have O4 := hid (O0.out.later hb4); have B4 := hid (HD.out.trans (hb4.mono W0.out)); have Z4 := hid (Nat.le_trans W0.out hb4.size); have U4 := hid ho4; clear ho4 hb4)
        )
    all_goals (
      go_wp2_with fail
      go_meet
      exact ⟨O7, B7⟩)
  clear y0 y1 y2 y3 y4 y5 y6 y7 W0 HD D0 O0 LZ H3 HB
  obtain ⟨H3, HB⟩ := hcut
  obtain ⟨va, vn, vc, rfl⟩ := H3.out.any
  go_wp2
  go_ret
  exact ⟨_, rfl, by rw [EO.out]; exact H3.out.base (Nat.le_succ _), BV.out.trans (HB.out.mono (Nat.le_succ _))⟩
end Go.Proofs.Ytfbcdikoafdnbaa
