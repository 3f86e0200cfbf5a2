/-
  What the document's answer for Cut and Decode returns.
-/
import Derived.Test.YteimegacnmakaaaFRef
import Derived.Test.YteimegacnmakaaaFCut
namespace Go.Proofs.Yteimegacnmakaaa
open Go.RowKit Go.ChangeShapes Go.WideShapes Go.ChangeAt
open Go.BigFrame
set_option linter.unusedVariables false
set_option linter.unusedSimpArgs false
theorem tx_beq (l l' : List Int) (h : ∀ x ∈ l, 0 ≤ x ∧ x ≤ 255) (h' : ∀ x ∈ l', 0 ≤ x ∧ x ≤ 255) : ((Fr.tx l).toList == (Fr.tx l').toList) = decide (l = l') := by
  rw [Bool.eq_iff_iff, beq_iff_eq, decide_eq_true_iff]
  constructor
  · intro e
    rw [Lib.toList_data, Lib.toList_data] at e
    rw [← Fr.bs_tx l h, ← Fr.bs_tx l' h']
    unfold Fr.bs; rw [e]
  · intro e; rw [e]
def pz_blk {w : World} {B : Nat} {p : Fr.Pk} (_ : PB w B p) : Nat := B
theorem six_both {W V : World} {B : Nat} {p : Fr.Pk} (q : Fr.Pk) (pz : PB V B p) (hb : Below W.heap.size W V) (hB : W.heap.size ≤ B) :
    PB (((((((V.setCell ⟨B, 0, none⟩ (.int .u8 q.k)).setCell ⟨B, 1, none⟩ (.int .u8 q.f)).setCell ⟨B, 2, none⟩ (.int .u8 q.t)).setCell ⟨B, 3, none⟩ (.int .u32 q.e)).setCell ⟨B, 4, none⟩ (.int .u32 q.s)).setCell ⟨B, 5, none⟩ (.string q.b))) B q ∧
    Below W.heap.size W (((((((V.setCell ⟨B, 0, none⟩ (.int .u8 q.k)).setCell ⟨B, 1, none⟩ (.int .u8 q.f)).setCell ⟨B, 2, none⟩ (.int .u8 q.t)).setCell ⟨B, 3, none⟩ (.int .u32 q.e)).setCell ⟨B, 4, none⟩ (.int .u32 q.s)).setCell ⟨B, 5, none⟩ (.string q.b))) :=
  ⟨six_pb q pz, below6 hb hB _ _ _ _ _ _⟩
theorem below6' {B blk : Nat} {w w' : World} (h : Below B w w') (hb : B ≤ blk) (v0 v1 v2 v3 v4 v5 : Value) : Below B w ((((((w'.setCell ⟨blk, 0, none⟩ v0).setCell ⟨blk, 1, none⟩ v1).setCell ⟨blk, 2, none⟩ v2).setCell ⟨blk, 3, none⟩ v3).setCell ⟨blk, 4, none⟩ v4).setCell ⟨blk, 5, none⟩ v5) := below6 h hb _ _ _ _ _ _
set_option maxHeartbeats 400000 in
theorem rcut_short (a : Option Addr) (len cap : Nat) (zs : List Int) (w : World) (hb : IsB w a len zs) (h : len < 19) :
    Calls Try.prog 18 #[.slice a len cap] w (CutPost zs w) := by
  have N : Hid (∀ p, ¬ Fr.Begins p zs) := fun p hp => by have := (begins_long hp).1; have := hb.1; omega
  clear hb
  go_enter Try.func18, Try.ntmps18
  go_wp2
  exact bodyPost_ret (v := .tuple #[noPk, .slice none 0 0, .int .i64 3]) (by simp [results, Try.results18, go_sem, noPk]) rfl ⟨.inr ⟨N.out, rfl⟩, (Below.refl _ _).alloc (Nat.le_refl _) _⟩
set_option maxHeartbeats 4000000 in
theorem rcut_mid (b off : Nat) (len cap : Nat) (zs : List Int) (w : World) (hb : IsB w (some ⟨b, off, none⟩) len zs) (hlc : len ≤ cap) (hsm : len < 1000000) (h : 19 ≤ len) (n : Nat) (hn : Fr.nb zs = n) (h2 : len < 19 + n) :
    Calls Try.prog 18 #[.slice (some ⟨b, off, none⟩) len cap] w (CutPost zs w) := by
  have N : Hid (∀ p, ¬ Fr.Begins p zs) := fun p hp => by have := begins_long hp; have := hb.1; omega
  have dL : (len : Int) < 19 + n := by omega
  have HB := hid hb
  have z13 := hb.2.2.2 13
  have z14 := hb.2.2.2 14
  have HN : Hid (zs.getD 13 0 + zs.getD 14 0 * 256 = n) := by show _ = _; rw [← hn]; unfold Fr.nb; omega
  have hn2 : n < 65536 := by unfold Fr.nb at hn; omega
  obtain ⟨i0, hi, hz0, hz1, hz2⟩ := info_parts8
  have j13 : (13 : Int) < len := by omega
  have j14 : (14 : Int) < len := by omega
  clear hb hn
  go_enter Try.func18, Try.ntmps18
  go_wp2_with fail
  have hB0 : Below w.heap.size w (w.alloc (.cells #[.int .u8 0, .int .u8 0, .int .u8 0, .int .u32 0, .int .u32 0, .string ⟨#[]⟩] 25)) := (Below.refl _ _).alloc (Nat.le_refl _) _
  have hP0 := zero_pb w
  generalize (w.alloc (.cells #[.int .u8 0, .int .u8 0, .int .u8 0, .int .u32 0, .int .u32 0, .string ⟨#[]⟩] 25)) = W at *
  have HB0 := hid (HB.out.later hB0)
  obtain ⟨d13, d14⟩ : W.cell? ⟨b, off + 13, none⟩ = some (.int .u8 (zs.getD 13 0)) ∧ W.cell? ⟨b, off + 14, none⟩ = some (.int .u8 (zs.getD 14 0)) := by
    obtain ⟨_, _, q, _⟩ := HB0.out
    obtain ⟨b', off', e, hc⟩ := q (by omega)
    cases e
    exact ⟨hc 13 (by omega), hc 14 (by omega)⟩
  generalize zs.getD 13 0 = y13 at *
  generalize zs.getD 14 0 = y14 at *
  go_quiet (fail)
  have hBq : Below W.heap.size W (W.drewN nq) := below_drewN (Below.refl _ _) nq
  have hP1 := hP0.later hBq
  have HB1 := hid (HB0.out.later hBq)
  have hB1 := hB0.trans (hBq.mono hB0.size)
  generalize W.drewN nq = W1 at *
  clear d13 d14
  rw [HN.out]
  obtain ⟨c0, c1, c2, c3, c4, c5⟩ := hP1.cells
  have f1 : ∀ i, W1.frozen? ⟨w.heap.size, i, none⟩ = false := fun i => pb_frozen hP1 i
  go_wp2
  exact bodyPost_ret (v := .tuple #[noPk, .slice none 0 0, .int .i64 3]) (by simp [results, Try.results18, go_sem, noPk, c0, c1, c2, c3, c4, c5]) rfl ⟨.inr ⟨N.out, rfl⟩, below6 hB1 (Nat.le_refl _) _ _ _ _ _ _⟩
set_option maxHeartbeats 4000000 in
theorem rcut_wrong (b off : Nat) (len cap : Nat) (zs : List Int) (w : World) (hb : IsB w (some ⟨b, off, none⟩) len zs) (hlc : len ≤ cap) (hsm : len < 1000000) (h : 19 ≤ len) (n : Nat) (hn : Fr.nb zs = n) (h2 : 19 + n ≤ len) (hr : Fr.rightB (Fr.parse zs) = false) :
    Calls Try.prog 18 #[.slice (some ⟨b, off, none⟩) len cap] w (CutPost zs w) := by
  have N : Hid (∀ p, ¬ Fr.Begins p zs) := fun p hp => by have h9 := (begins_long hp).2.2.2.2.2.1; have h8 := hp.2.1; rw [← h9, hr] at h8; cases h8
  have i0' : (19 : Int) + n ≤ len := by omega
  have z2 := hb.2.2.2 2
  have z3 := hb.2.2.2 3
  have z4 := hb.2.2.2 4
  have HPZ : Hid (Fr.parse zs = ⟨zs.getD 2 0, zs.getD 3 0, zs.getD 4 0, Fr.at4 ((zs.drop 5).take 4) 0, Fr.at4 ((zs.drop 9).take 4) 0, Fr.tx ((zs.drop 15).take n)⟩) := by
    show _ = _
    unfold Fr.parse; rw [hn, at4_sub, at4_sub, Int.toNat_natCast]; rfl
  have HWF := hid (Fr.wf_parse zs hb.2.2.2)
  have hbl : (Fr.tx ((zs.drop 15).take n)).size = n := by rw [Fr.tx_size, List.length_take, List.length_drop, hb.1]; omega
  have t1 : (15 + (n : Int)).toNat = 15 + n := by omega
  have t2 : (19 + (n : Int)).toNat = 19 + n := by omega
  have t5 : 15 + n - 15 = n := by omega
  have i1 : IntKind.i64.wrap (15 + (n : Int)) = 15 + n := by rw [IntKind.wrap_i64]; omega
  have i2 : (15 : Int) + n ≤ cap := by omega
  have i3 : (0 : Int) ≤ 15 + n := by omega
  have i4 : (15 : Int) ≤ 15 + n := by omega
  have i5 : IntKind.i64.wrap (19 + (n : Int)) = 19 + n := by rw [IntKind.wrap_i64]; omega
  have i6 : (19 : Int) + n ≤ cap := by omega
  have i7 : (0 : Int) ≤ 19 + n := by omega
  have i8 : (len : Int) ≤ cap := by omega
  have j2 : (2 : Int) < len := by omega
  have j3 : (3 : Int) < len := by omega
  have j4 : (4 : Int) < len := by omega
  have j5 : (9 : Int) ≤ cap := by omega
  have j6 : (13 : Int) ≤ cap := by omega
  have j8 : ¬ cap = 5 := by omega
  have j9 : ¬ cap = 9 := by omega
  have j10 : ¬ cap = 15 := by omega
  have HB := hid hb
  have z13 := hb.2.2.2 13
  have z14 := hb.2.2.2 14
  have HN : Hid (zs.getD 13 0 + zs.getD 14 0 * 256 = n) := by show _ = _; rw [← hn]; unfold Fr.nb; omega
  have hn2 : n < 65536 := by unfold Fr.nb at hn; omega
  obtain ⟨i0, hi, hz0, hz1, hz2⟩ := info_parts8
  have j13 : (13 : Int) < len := by omega
  have j14 : (14 : Int) < len := by omega
  clear hb hn
  go_enter Try.func18, Try.ntmps18
  go_wp2_with fail
  have hB0 : Below w.heap.size w (w.alloc (.cells #[.int .u8 0, .int .u8 0, .int .u8 0, .int .u32 0, .int .u32 0, .string ⟨#[]⟩] 25)) := (Below.refl _ _).alloc (Nat.le_refl _) _
  have hP0 := zero_pb w
  generalize (w.alloc (.cells #[.int .u8 0, .int .u8 0, .int .u8 0, .int .u32 0, .int .u32 0, .string ⟨#[]⟩] 25)) = W at *
  have HB0 := hid (HB.out.later hB0)
  obtain ⟨d13, d14⟩ : W.cell? ⟨b, off + 13, none⟩ = some (.int .u8 (zs.getD 13 0)) ∧ W.cell? ⟨b, off + 14, none⟩ = some (.int .u8 (zs.getD 14 0)) := by
    obtain ⟨_, _, q, _⟩ := HB0.out
    obtain ⟨b', off', e, hc⟩ := q (by omega)
    cases e
    exact ⟨hc 13 (by omega), hc 14 (by omega)⟩
  generalize zs.getD 13 0 = y13 at *
  generalize zs.getD 14 0 = y14 at *
  go_quiet (fail)
  have hBq : Below W.heap.size W (W.drewN nq) := below_drewN (Below.refl _ _) nq
  have hP1 := hP0.later hBq
  have HB1 := hid (HB0.out.later hBq)
  have hB1 := hB0.trans (hBq.mono hB0.size)
  generalize W.drewN nq = W1 at *
  clear d13 d14
  rw [HN.out]
  have hlt1 := hP1.lt
  have hbB : b < W1.heap.size := by
    obtain ⟨_, _, q, _⟩ := HB1.out
    obtain ⟨b', off', e', hc⟩ := q (by omega)
    cases e'
    exact World.block_lt_of_cell? W1 _ (hc 2 (by omega))
  have K4 : Hid (∀ (i c : Nat) (V : World), Below W1.heap.size W1 V → i + 4 ≤ len → Calls Try.prog 27 #[.slice (some ⟨b, off + i, none⟩) 4 c] V fun e w' => e = .returned (.int .u32 (Fr.at4 ((zs.drop i).take 4) 0)) ∧ Below W1.heap.size W1 w' ∧ Below V.heap.size V w') := fun i c V hV hi => (rnumber4_c _ c _ V ((HB1.out.later hV).sub i 4 hi)).mono fun e w' ⟨he, m, hw⟩ => ⟨he, by rw [hw]; exact below_drewN hV m, by rw [hw]; exact below_drewN (Below.refl _ _) m⟩
  generalize hx2 : zs.getD 2 0 = x2 at *
  generalize hx3 : zs.getD 3 0 = x3 at *
  generalize hx4 : zs.getD 4 0 = x4 at *
  generalize hX : Fr.tx ((zs.drop 15).take n) = X at *
  have HX := hid (And.intro hx2 (And.intro hx3 (And.intro hx4 hX)))
  clear hx2 hx3 hx4 hX
  have hS : ∀ V, Below W1.heap.size W1 V → _ := fun V hV => s_of (cap := cap) (w := V) (HB1.out.later hV) h2 HX.out.1 HX.out.2.1 HX.out.2.2.1 HX.out.2.2.2
  go_wp2_with fail
  go_region_held3 (fun w' => w'.cell? ⟨b, off + 2, none⟩ = some (.int .u8 x2) ∧ w'.cell? ⟨b, off + 3, none⟩ = some (.int .u8 x3) ∧ w'.cell? ⟨b, off + 4, none⟩ = some (.int .u8 x4) ∧ (convert 26 9 (.slice (some ⟨b, off + 15, none⟩) n (cap - 15))).run Try.prog w' = .ok (.string X) w') ((with_reducible exact hS _ (by first | with_reducible exact hbW | with_reducible exact Below.drew (Below.refl _ _) | with_reducible exact Below.drew (Below.alloc (Below.refl _ _) (Nat.le_refl _) _) | with_reducible exact Below.alloc hbW hzW _ | with_reducible exact below6 hbW (by omega) _ _ _ _ _ _))) ((go_at_call 27; refine (K4.out _ _ _ (by first | with_reducible exact hbW | with_reducible exact Below.drew (Below.refl _ _) | with_reducible exact Below.drew (Below.alloc (Below.refl _ _) (Nat.le_refl _) _) | with_reducible exact Below.alloc hbW hzW _ | with_reducible exact below6 hbW (by omega) _ _ _ _ _ _) (by omega)).mono ?_; rintro _ V ⟨rfl, hbW, hbV⟩; (have hzW := hbW.size); (have hzV := hbV.size); (first | (have pz := PB.later pz hbV) | (have pz := (by with_reducible exact PB.later (zero_pb _) hbV)) | (have pz := (by with_reducible exact PB.later (PB.drew (zero_pb _)) hbV)) | skip); (try (obtain ⟨y0, y1, y2, y3, y4, y5⟩ := pz.cells)); (try (have yf := fun i => pb_frozen pz i))))
  all_goals
    first
      | (have hQB := six_both (⟨x2, x3, x4, Fr.at4 ((zs.drop 5).take 4) 0, Fr.at4 ((zs.drop 9).take 4) 0, X⟩ : Fr.Pk) pz hbW (by omega); simp only at hQB; revert hQB; (generalize (World.setCell (World.setCell _ _ _) _ _) = Ve); rintro ⟨hQ, hBe⟩; clear pz; (obtain ⟨blk, ebk⟩ : ∃ blk, blk = pz_blk hQ := ⟨_, rfl⟩); (unfold pz_blk at ebk); (have hbk : W1.heap.size ≤ blk := by rw [ebk]; omega); (rw [← ebk] at hQ ⊢); clear ebk)
      | (have hQ : PB (V.alloc (.cells #[.int .u8 x2, .int .u8 x3, .int .u8 x4, .int .u32 (Fr.at4 ((zs.drop 5).take 4) 0), .int .u32 (Fr.at4 ((zs.drop 9).take 4) 0), .string X] 25)) V.heap.size ⟨x2, x3, x4, Fr.at4 ((zs.drop 5).take 4) 0, Fr.at4 ((zs.drop 9).take 4) 0, X⟩ := heap_alloc_new V _; have hBe := hbW.alloc hzW (.cells #[.int .u8 x2, .int .u8 x3, .int .u8 x4, .int .u32 (Fr.at4 ((zs.drop 5).take 4) 0), .int .u32 (Fr.at4 ((zs.drop 9).take 4) 0), .string X] 25); revert hQ hBe; (generalize (World.alloc V _) = Ve); intro hQ hBe; (obtain ⟨blk, ebk⟩ : ∃ blk, blk = pz_blk hQ := ⟨_, rfl⟩); (unfold pz_blk at ebk); (have hbk : W1.heap.size ≤ blk := by rw [ebk]; omega); (rw [← ebk] at hQ ⊢); clear ebk)
    have HWQ := hid (HPZ.out ▸ HWF.out)
    have HRQ := hid (HPZ.out ▸ hr)
    generalize Fr.at4 ((zs.drop 5).take 4) 0 = x5 at *
    generalize Fr.at4 ((zs.drop 9).take 4) 0 = x6 at *
    have C := fun U => rencode_c ⟨x2, x3, x4, x5, x6, X⟩ HWQ.out (by simp only [hbl]; unfold maxLen; omega) U
    rw [show Fr.val ⟨x2, x3, x4, x5, x6, X⟩ = .agg #[.int .u8 x2, .int .u8 x3, .int .u8 x4, .int .u32 x5, .int .u32 x6, .string X] from rfl] at C
    have HC : Hid _ := C
    clear C K4
    obtain ⟨u0, u1, u2, u3, u4, u5⟩ := hQ.cells
    have hP5 := hP1.later hBe
    have HB5 := hid (HB1.out.later hBe)
    have hB5 := hB1.trans (hBe.mono hB1.size)
    clear hS
    try clear y0 y1 y2 y3 y4 y5
    try clear yf
    go_wp2_with fail
    refine (HC.out _).mono ?_
    rintro _ w5 hpost
    obtain ⟨hor, hb5⟩ := hpost
    have hP6 := hP5.later hb5
    have hQ6 := hQ.later hb5
    have HB6 := hid (HB5.out.later hb5)
    have hB6 := hB5.trans (hb5.mono hB5.size)
    clear u0 u1 u2 u3 u4 u5 hQ hP5 HB5 hBe hb5
    rcases hor with ⟨h9, _⟩ | ⟨_, rfl⟩
    · exact absurd h9 (by rw [HRQ.out]; decide)
    · have kc : True := trivial
      have kd : True := trivial
      go_wp2_with fail
      refine wp_region_class (by kernel_rfl) (by kernel_rfl) ?_
      repeat (first
        | go_big_quiet_skip
        | (go_big_quiet_want
           apply quiet_by
           · intro w1 hw1
             go_simp
             first
               | rfl
               | exact kc _ hw1
               | exact kd _ hw1
           · go_simp; rfl
           go_big_quiet_on))
      refine wpQuiet_nil ?_
      intro w7 hw7
      have hP7 := hP6.later hw7
      have hB7 := hB6.trans (hw7.mono hB6.size)
      obtain ⟨c0, c1, c2, c3, c4, c5⟩ := hP7.cells
      have f7 : ∀ i, w7.frozen? ⟨w.heap.size, i, none⟩ = false := fun i => pb_frozen hP7 i
      go_wp2
      exact bodyPost_ret (v := .tuple #[noPk, .slice none 0 0, .int .i64 3]) (by simp [results, Try.results18, go_sem, noPk, c0, c1, c2, c3, c4, c5]) rfl ⟨.inr ⟨N.out, rfl⟩, below6 hB7 (Nat.le_refl _) _ _ _ _ _ _⟩
set_option maxHeartbeats 4000000 in
theorem rcut_diff (b off : Nat) (len cap : Nat) (zs : List Int) (w : World) (hb : IsB w (some ⟨b, off, none⟩) len zs) (hlc : len ≤ cap) (hsm : len < 1000000) (h : 19 ≤ len) (n : Nat) (hn : Fr.nb zs = n) (h2 : 19 + n ≤ len) (hr : Fr.rightB (Fr.parse zs) = true) (hd : Fr.enc (Fr.parse zs) ≠ zs.take (19 + n)) :
    Calls Try.prog 18 #[.slice (some ⟨b, off, none⟩) len cap] w (CutPost zs w) := by
  have N : Hid (∀ p, ¬ Fr.Begins p zs) := fun p hp => by
    have h9 := begins_long hp
    obtain ⟨_, _, r, e⟩ := hp
    apply hd
    have hs : p.b.size = n := by omega
    rw [h9.2.2.2.2.2.1, ← hs, e, ← Fr.enc_length, List.take_left]
  have HDZ : Hid (((Fr.tx (Fr.enc (Fr.parse zs))).toList == (Fr.tx (zs.take (19 + n))).toList) = false) := by
    show _ = _
    rw [tx_beq _ _ (Fr.enc_byte _ (Fr.wf_parse zs hb.2.2.2)) (fun x hx => Fr.mem_getD hb.2.2.2 x (List.mem_of_mem_take hx))]
    exact decide_eq_false hd
  have i0' : (19 : Int) + n ≤ len := by omega
  have z2 := hb.2.2.2 2
  have z3 := hb.2.2.2 3
  have z4 := hb.2.2.2 4
  have HPZ : Hid (Fr.parse zs = ⟨zs.getD 2 0, zs.getD 3 0, zs.getD 4 0, Fr.at4 ((zs.drop 5).take 4) 0, Fr.at4 ((zs.drop 9).take 4) 0, Fr.tx ((zs.drop 15).take n)⟩) := by
    show _ = _
    unfold Fr.parse; rw [hn, at4_sub, at4_sub, Int.toNat_natCast]; rfl
  have HWF := hid (Fr.wf_parse zs hb.2.2.2)
  have hbl : (Fr.tx ((zs.drop 15).take n)).size = n := by rw [Fr.tx_size, List.length_take, List.length_drop, hb.1]; omega
  have t1 : (15 + (n : Int)).toNat = 15 + n := by omega
  have t2 : (19 + (n : Int)).toNat = 19 + n := by omega
  have t5 : 15 + n - 15 = n := by omega
  have i1 : IntKind.i64.wrap (15 + (n : Int)) = 15 + n := by rw [IntKind.wrap_i64]; omega
  have i2 : (15 : Int) + n ≤ cap := by omega
  have i3 : (0 : Int) ≤ 15 + n := by omega
  have i4 : (15 : Int) ≤ 15 + n := by omega
  have i5 : IntKind.i64.wrap (19 + (n : Int)) = 19 + n := by rw [IntKind.wrap_i64]; omega
  have i6 : (19 : Int) + n ≤ cap := by omega
  have i7 : (0 : Int) ≤ 19 + n := by omega
  have i8 : (len : Int) ≤ cap := by omega
  have j2 : (2 : Int) < len := by omega
  have j3 : (3 : Int) < len := by omega
  have j4 : (4 : Int) < len := by omega
  have j5 : (9 : Int) ≤ cap := by omega
  have j6 : (13 : Int) ≤ cap := by omega
  have j8 : ¬ cap = 5 := by omega
  have j9 : ¬ cap = 9 := by omega
  have j10 : ¬ cap = 15 := by omega
  have HB := hid hb
  have z13 := hb.2.2.2 13
  have z14 := hb.2.2.2 14
  have HN : Hid (zs.getD 13 0 + zs.getD 14 0 * 256 = n) := by show _ = _; rw [← hn]; unfold Fr.nb; omega
  have hn2 : n < 65536 := by unfold Fr.nb at hn; omega
  obtain ⟨i0, hi, hz0, hz1, hz2⟩ := info_parts8
  have j13 : (13 : Int) < len := by omega
  have j14 : (14 : Int) < len := by omega
  clear hb hn
  go_enter Try.func18, Try.ntmps18
  go_wp2_with fail
  have hB0 : Below w.heap.size w (w.alloc (.cells #[.int .u8 0, .int .u8 0, .int .u8 0, .int .u32 0, .int .u32 0, .string ⟨#[]⟩] 25)) := (Below.refl _ _).alloc (Nat.le_refl _) _
  have hP0 := zero_pb w
  generalize (w.alloc (.cells #[.int .u8 0, .int .u8 0, .int .u8 0, .int .u32 0, .int .u32 0, .string ⟨#[]⟩] 25)) = W at *
  have HB0 := hid (HB.out.later hB0)
  obtain ⟨d13, d14⟩ : W.cell? ⟨b, off + 13, none⟩ = some (.int .u8 (zs.getD 13 0)) ∧ W.cell? ⟨b, off + 14, none⟩ = some (.int .u8 (zs.getD 14 0)) := by
    obtain ⟨_, _, q, _⟩ := HB0.out
    obtain ⟨b', off', e, hc⟩ := q (by omega)
    cases e
    exact ⟨hc 13 (by omega), hc 14 (by omega)⟩
  generalize zs.getD 13 0 = y13 at *
  generalize zs.getD 14 0 = y14 at *
  go_quiet (fail)
  have hBq : Below W.heap.size W (W.drewN nq) := below_drewN (Below.refl _ _) nq
  have hP1 := hP0.later hBq
  have HB1 := hid (HB0.out.later hBq)
  have hB1 := hB0.trans (hBq.mono hB0.size)
  generalize W.drewN nq = W1 at *
  clear d13 d14
  rw [HN.out]
  have hlt1 := hP1.lt
  have hbB : b < W1.heap.size := by
    obtain ⟨_, _, q, _⟩ := HB1.out
    obtain ⟨b', off', e', hc⟩ := q (by omega)
    cases e'
    exact World.block_lt_of_cell? W1 _ (hc 2 (by omega))
  have K4 : Hid (∀ (i c : Nat) (V : World), Below W1.heap.size W1 V → i + 4 ≤ len → Calls Try.prog 27 #[.slice (some ⟨b, off + i, none⟩) 4 c] V fun e w' => e = .returned (.int .u32 (Fr.at4 ((zs.drop i).take 4) 0)) ∧ Below W1.heap.size W1 w' ∧ Below V.heap.size V w') := fun i c V hV hi => (rnumber4_c _ c _ V ((HB1.out.later hV).sub i 4 hi)).mono fun e w' ⟨he, m, hw⟩ => ⟨he, by rw [hw]; exact below_drewN hV m, by rw [hw]; exact below_drewN (Below.refl _ _) m⟩
  generalize hx2 : zs.getD 2 0 = x2 at *
  generalize hx3 : zs.getD 3 0 = x3 at *
  generalize hx4 : zs.getD 4 0 = x4 at *
  generalize hX : Fr.tx ((zs.drop 15).take n) = X at *
  have HX := hid (And.intro hx2 (And.intro hx3 (And.intro hx4 hX)))
  clear hx2 hx3 hx4 hX
  have hS : ∀ V, Below W1.heap.size W1 V → _ := fun V hV => s_of (cap := cap) (w := V) (HB1.out.later hV) h2 HX.out.1 HX.out.2.1 HX.out.2.2.1 HX.out.2.2.2
  go_wp2_with fail
  go_region_held3 (fun w' => w'.cell? ⟨b, off + 2, none⟩ = some (.int .u8 x2) ∧ w'.cell? ⟨b, off + 3, none⟩ = some (.int .u8 x3) ∧ w'.cell? ⟨b, off + 4, none⟩ = some (.int .u8 x4) ∧ (convert 26 9 (.slice (some ⟨b, off + 15, none⟩) n (cap - 15))).run Try.prog w' = .ok (.string X) w') ((with_reducible exact hS _ (by first | with_reducible exact hbW | with_reducible exact Below.drew (Below.refl _ _) | with_reducible exact Below.drew (Below.alloc (Below.refl _ _) (Nat.le_refl _) _) | with_reducible exact Below.alloc hbW hzW _ | with_reducible exact below6 hbW (by omega) _ _ _ _ _ _))) ((go_at_call 27; refine (K4.out _ _ _ (by first | with_reducible exact hbW | with_reducible exact Below.drew (Below.refl _ _) | with_reducible exact Below.drew (Below.alloc (Below.refl _ _) (Nat.le_refl _) _) | with_reducible exact Below.alloc hbW hzW _ | with_reducible exact below6 hbW (by omega) _ _ _ _ _ _) (by omega)).mono ?_; rintro _ V ⟨rfl, hbW, hbV⟩; (have hzW := hbW.size); (have hzV := hbV.size); (first | (have pz := PB.later pz hbV) | (have pz := (by with_reducible exact PB.later (zero_pb _) hbV)) | (have pz := (by with_reducible exact PB.later (PB.drew (zero_pb _)) hbV)) | skip); (try (obtain ⟨y0, y1, y2, y3, y4, y5⟩ := pz.cells)); (try (have yf := fun i => pb_frozen pz i))))
  all_goals
    first
      | (have hQB := six_both (⟨x2, x3, x4, Fr.at4 ((zs.drop 5).take 4) 0, Fr.at4 ((zs.drop 9).take 4) 0, X⟩ : Fr.Pk) pz hbW (by omega); simp only at hQB; revert hQB; (generalize (World.setCell (World.setCell _ _ _) _ _) = Ve); rintro ⟨hQ, hBe⟩; clear pz; (obtain ⟨blk, ebk⟩ : ∃ blk, blk = pz_blk hQ := ⟨_, rfl⟩); (unfold pz_blk at ebk); (have hbk : W1.heap.size ≤ blk := by rw [ebk]; omega); (rw [← ebk] at hQ ⊢); clear ebk)
      | (have hQ : PB (V.alloc (.cells #[.int .u8 x2, .int .u8 x3, .int .u8 x4, .int .u32 (Fr.at4 ((zs.drop 5).take 4) 0), .int .u32 (Fr.at4 ((zs.drop 9).take 4) 0), .string X] 25)) V.heap.size ⟨x2, x3, x4, Fr.at4 ((zs.drop 5).take 4) 0, Fr.at4 ((zs.drop 9).take 4) 0, X⟩ := heap_alloc_new V _; have hBe := hbW.alloc hzW (.cells #[.int .u8 x2, .int .u8 x3, .int .u8 x4, .int .u32 (Fr.at4 ((zs.drop 5).take 4) 0), .int .u32 (Fr.at4 ((zs.drop 9).take 4) 0), .string X] 25); revert hQ hBe; (generalize (World.alloc V _) = Ve); intro hQ hBe; (obtain ⟨blk, ebk⟩ : ∃ blk, blk = pz_blk hQ := ⟨_, rfl⟩); (unfold pz_blk at ebk); (have hbk : W1.heap.size ≤ blk := by rw [ebk]; omega); (rw [← ebk] at hQ ⊢); clear ebk)
    have HWQ := hid (HPZ.out ▸ HWF.out)
    have HRQ := hid (HPZ.out ▸ hr)
    have HDE := hid (HPZ.out ▸ HDZ.out)
    generalize Fr.at4 ((zs.drop 5).take 4) 0 = x5 at *
    generalize Fr.at4 ((zs.drop 9).take 4) 0 = x6 at *
    have C := fun U => rencode_c ⟨x2, x3, x4, x5, x6, X⟩ HWQ.out (by simp only [hbl]; unfold maxLen; omega) U
    rw [show Fr.val ⟨x2, x3, x4, x5, x6, X⟩ = .agg #[.int .u8 x2, .int .u8 x3, .int .u8 x4, .int .u32 x5, .int .u32 x6, .string X] from rfl] at C
    have HC : Hid _ := C
    clear C K4
    obtain ⟨u0, u1, u2, u3, u4, u5⟩ := hQ.cells
    have hP5 := hP1.later hBe
    have HB5 := hid (HB1.out.later hBe)
    have hB5 := hB1.trans (hBe.mono hB1.size)
    clear hS
    try clear y0 y1 y2 y3 y4 y5
    try clear yf
    go_wp2_with fail
    refine (HC.out _).mono ?_
    rintro _ w5 hpost
    obtain ⟨hor, hb5⟩ := hpost
    have hP6 := hP5.later hb5
    have hQ6 := hQ.later hb5
    have HB6 := hid (HB5.out.later hb5)
    have hB6 := hB5.trans (hb5.mono hB5.size)
    clear u0 u1 u2 u3 u4 u5 hQ hP5 HB5 hBe hb5
    rcases hor with ⟨_, v5, rfl, hown5⟩ | ⟨h9, _⟩
    · obtain ⟨a5, cap5, rfl, hI5, hc5⟩ := isB_pile (T := 0) (g := 0) (Fr.enc_byte _ HWQ.out) hown5
      have hl5 := Fr.enc_length ⟨x2, x3, x4, x5, x6, X⟩
      obtain ⟨xb, xo, e9, _⟩ := hI5.2.2.1 (by omega)
      subst e9
      have kc : ∀ w1, Below w5.heap.size w5 w1 → (convert 26 9 (.slice (some ⟨xb, xo, none⟩) (Fr.enc ⟨x2, x3, x4, x5, x6, X⟩).length cap5)).run Try.prog w1 = .ok (.string (Fr.tx (Fr.enc ⟨x2, x3, x4, x5, x6, X⟩))) w1 := fun w1 h1 => (hI5.later h1).conv
      have kd : ∀ w1, Below w5.heap.size w5 w1 → (convert 26 9 (.slice (some ⟨b, off, none⟩) (19 + n) cap)).run Try.prog w1 = .ok (.string (Fr.tx (zs.take (19 + n)))) w1 := fun w1 h1 => ((HB6.out.later h1).front (19 + n) (by omega)).conv
      have dE : ((Fr.tx (Fr.enc ⟨x2, x3, x4, x5, x6, X⟩)).toList == (Fr.tx (zs.take (19 + n))).toList) = false := HDE.out
      clear hl5 hI5 hown5
      generalize (Fr.enc ⟨x2, x3, x4, x5, x6, X⟩).length = L5 at *
      generalize Fr.tx (Fr.enc ⟨x2, x3, x4, x5, x6, X⟩) = T5 at *
      generalize Fr.tx (zs.take (19 + n)) = T6 at *
      go_wp2_with fail
      refine wp_region_class (by kernel_rfl) (by kernel_rfl) ?_
      repeat (first
        | go_big_quiet_skip
        | (go_big_quiet_want
           apply quiet_by
           · intro w1 hw1
             go_simp
             first
               | rfl
               | exact kc _ hw1
               | exact kd _ hw1
           · go_simp; rfl
           go_big_quiet_on))
      refine wpQuiet_nil ?_
      intro w7 hw7
      have hP7 := hP6.later hw7
      have hB7 := hB6.trans (hw7.mono hB6.size)
      obtain ⟨c0, c1, c2, c3, c4, c5⟩ := hP7.cells
      have f7 : ∀ i, w7.frozen? ⟨w.heap.size, i, none⟩ = false := fun i => pb_frozen hP7 i
      go_wp2
      exact bodyPost_ret (v := .tuple #[noPk, .slice none 0 0, .int .i64 3]) (by simp [results, Try.results18, go_sem, noPk, c0, c1, c2, c3, c4, c5]) rfl ⟨.inr ⟨N.out, rfl⟩, below6 hB7 (Nat.le_refl _) _ _ _ _ _ _⟩
    · exact absurd h9 (by rw [HRQ.out]; decide)
end Go.Proofs.Yteimegacnmakaaa
