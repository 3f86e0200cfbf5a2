/-
  What do of the statements on calls does, the other deeds; then any deed.
-/
import Derived.Test.YtjgpolaogneoaaaRD2
namespace Go.Proofs.Ytjgpolaogneoaaa
open Go.RowKit Go.ChangeShapes Go.WideShapes Go.ChangeAt
set_option linter.unusedVariables false
set_option linter.unusedSimpArgs false
set_option maxRecDepth 100000
set_option maxHeartbeats 4000000 in
theorem do_tick {w : World} {B c r s t : Nat} {l : Fr.Pk} {C R : Cl} {F : Nat → Tk} {n : Nat} (h : Bo w B c r s t l C R F n) (hn : n ≤ 100) (x : Dr) (hx : x.Wf) (hk : x.k = 1) :
    Calls Try.prog 24 #[pC B, x.val] w (DoP w B c r s t n) := by
  obtain ⟨hB, hD, hP, hb⟩ := do_pre h x
  have hl := h.lts
  obtain ⟨xk, xs, now, ⟨pk, pf, pt, pe, ps, pb⟩, xc, own⟩ := x
  obtain ⟨_, hxs, hxn, hxp, hxb, hxc⟩ := hx
  simp only at hk hxs hxn hxp hxb hxc
  subst hk
  unfold Dr.val
  unfold boxD boxP at hB hD hP hb
  simp only at *
  have HB := hid hB
  have HD := hid hD
  have HP := hid hP
  have HB0 := hid hb
  have ⟨⟨a1, a2, a3, a4⟩, ⟨a5, a6, a7⟩, ⟨a8, a9⟩, a10⟩ := hB.ne
  have n0 : w.heap.size ≠ B := by omega
  have n1 : w.heap.size ≠ c := by omega
  have n2 : w.heap.size ≠ r := by omega
  have n3 : w.heap.size ≠ s := by omega
  have n4 : w.heap.size ≠ t := by omega
  have m0 : w.heap.size + 1 ≠ B := by omega
  have m1 : w.heap.size + 1 ≠ c := by omega
  have m2 : w.heap.size + 1 ≠ r := by omega
  have m3 : w.heap.size + 1 ≠ s := by omega
  have m4 : w.heap.size + 1 ≠ t := by omega
  clear hB hD hP hb h
  go_enter Try.func24, Try.ntmps24
  go_wp2_with fail
  generalize ((w.alloc (.cells #[.int .i64 1, .string xs, .int .u64 now, .int .u8 pk, .int .u8 pf, .int .u8 pt, .int .u32 pe, .int .u32 ps, .string pb, .int .u8 xc, .bool own] 62)).alloc (.cells #[.int .u8 pk, .int .u8 pf, .int .u8 pt, .int .u32 pe, .int .u32 ps, .string pb] 39)) = W at *
  obtain ⟨g0, g1, _⟩ := HB.out.at'.cells
  obtain ⟨eP, rl⟩ := rel_tick HB.out.rel now
  have eB := rel_due HB.out.rel now
  have RL := hid rl
  have WL := hid (tick_wf HB.out.wc hn now)
  have HB7 := HB
  have HT : Hid (∀ V, Below W.heap.size W V → Calls Try.prog 15 #[pC c, .int .u64 now] V fun e w' => e = .returned (.tuple #[Fr.val (tickP C now), .bool (tickB C now)]) ∧ IsC 73 w' c (tickS C now) ∧ Ou (fun k => k = c) V w') := fun V hV => tick_c (HB.out.hc.later hV) (HB.out.wc.wf hn) now hxn.1 hxn.2
  have HR : Hid (∀ V, IsC 86 V r R → Calls Try.prog 37 #[pC r, .int .u64 now] V fun e w' => e = .returned (.tuple #[Fr.val (tickP C now), .bool (tickB C now)]) ∧ IsC 86 w' r (tickS R now) ∧ Ou (fun k => k = r) V w') := fun V hV => by
    have := rtick_c hV (HB.out.wr.wf hn) now hxn.1 hxn.2
    rwa [← eP, ← eB] at this
  clear rl eP eB
  generalize tickB C now = tb at *
  generalize tickP C now = P1 at *
  obtain ⟨p1k, p1f, p1t, p1e, p1s, p1b⟩ := P1
  obtain ⟨d0, d1, d2, _⟩ := HD.out.cells
  simp only at d2
  clear d0 d1
  have hnW : W.heap.size ≠ c := by have := HB7.out.lts; omega
  have CC : Hid (∀ V, Below W.heap.size W V → Calls Try.prog 15 #[pC c, .int .u64 now] V fun e w' => e = .returned (.tuple #[.agg #[.int .u8 p1k, .int .u8 p1f, .int .u8 p1t, .int .u32 p1e, .int .u32 p1s, .string p1b], .bool tb]) ∧ IsC 73 w' c (tickS C now) ∧ Ou (fun k => k = c) W w' ∧ (∀ A q, A ≠ c → PkAt V A q → PkAt w' A q)) := fun V hV =>
    (HT.out V hV).mono fun e w' q => ⟨q.1, q.2.1, (Ou.of hV).trans q.2.2, fun A q' hA hq => hq.out q.2.2 hA⟩
  have L1 : Hid (Below W.heap.size W W.drew) := bel_drew (Below.refl _ _)
  have L2 : Hid (Below W.heap.size W (W.alloc (.cells #[.int .u8 0, .int .u8 0, .int .u8 0, .int .u32 0, .int .u32 0, .string ⟨#[]⟩] 39)).drew) := bel_drew ((Below.refl _ _).alloc (Nat.le_refl _) _)
  have Z2 : Hid (PkAt (W.alloc (.cells #[.int .u8 0, .int .u8 0, .int .u8 0, .int .u32 0, .int .u32 0, .string ⟨#[]⟩] 39)).drew W.heap.size zpk) := PkAt.new W zpk
  go_cut [6, 7] from 49 to 58 (fun s6 s7 wx => ∃ A : Nat, s6 = .pointer (some ⟨A, 0, none⟩) ∧ s7 = .bool tb ∧ Hid (W.heap.size ≤ A ∧ PkAt wx A ⟨p1k, p1f, p1t, p1e, p1s, p1b⟩ ∧ IsC 73 wx c (tickS C now) ∧ Ou (fun k => k = c) W wx))
  case first =>
    have FX : Hid (∀ V, Ou (fun k => k = c ∨ k = W.heap.size) W V → V.cell? ⟨B, 0, none⟩ = some (pC c) ∧ V.cell? ⟨w.heap.size, 2, none⟩ = some (.int .u64 now)) := fun V hV => ⟨(HB.out.at'.out hV (by rintro (e | e); exact a1 e; have := HB.out.lts.1; omega)).cells.1, (HD.out.out hV (by rintro (e | e); exact n1 e; have := HD.out.lt; omega)).cells.2.2.1⟩
    go_region_held3 (fun w' => w'.cell? ⟨B, 0, none⟩ = some (pC c) ∧ w'.cell? ⟨w.heap.size, 2, none⟩ = some (.int .u64 now)) (first | (with_reducible exact FX.out _ O1.out) | (with_reducible exact FX.out _ (O1.out.alloc _)) | (with_reducible exact FX.out _ (((((((O1.out).set (.inr rfl)).set (.inr rfl)).set (.inr rfl)).set (.inr rfl)).set (.inr rfl)).set (.inr rfl))) | (with_reducible exact FX.out _ (Ou.of L1.out)) | (with_reducible exact FX.out _ (Ou.of L2.out)) | go_keep)
      (first
        | (go_at_call 15; with_reducible refine (CC.out _ L1.out).mono ?_; rintro _ w1 ⟨rfl, hC1, ho1, hk1⟩; have C1 := hid hC1; have O1 := hid (ho1.mono (T := fun k => k = c ∨ k = W.heap.size) fun _ e => .inl e); have X1 := hid ho1)
        | (go_at_call 15; with_reducible refine (CC.out _ L2.out).mono ?_; rintro _ w1 ⟨rfl, hC1, ho1, hk1⟩; have C1 := hid hC1; have O1 := hid (ho1.mono (T := fun k => k = c ∨ k = W.heap.size) fun _ e => .inl e); have X1 := hid ho1; have P1 := hid (hk1 W.heap.size zpk hnW Z2.out); obtain ⟨p0, p1, p2, p3, p4, p5, pf⟩ := P1.out.cells; have q0 := pf 0; have q1 := pf 1; have q2 := pf 2; have q3 := pf 3; have q4 := pf 4; have q5 := pf 5; clear pf))
    · go_wp2_with fail
      go_meet
      exact ⟨_, rfl, rfl, hid ⟨X1.out.size, PkAt.new w1 ⟨p1k, p1f, p1t, p1e, p1s, p1b⟩, C1.out.later ((Below.refl _ _).alloc (Nat.le_refl _) _), X1.out.alloc _⟩⟩
    · go_wp2_with fail
      go_meet
      exact ⟨_, rfl, rfl, hid ⟨Nat.le_refl _, row_set 5 _ (row_set 4 _ (row_set 3 _ (row_set 2 _ (row_set 1 _ (row_set 0 _ (P1.out)))))), C1.out.out (S := fun k => k = W.heap.size) (((((((Ou.refl (fun k => k = W.heap.size) w1).set rfl).set rfl).set rfl).set rfl).set rfl).set rfl) hnW.symm, ou_fresh (((((((O1.out).set (.inr rfl)).set (.inr rfl)).set (.inr rfl)).set (.inr rfl)).set (.inr rfl)).set (.inr rfl))⟩⟩
  case rest =>
    obtain ⟨A, rfl, rfl, HX⟩ := hcut
    obtain ⟨hA, hPA, hC1, hO1⟩ := HX.out
    have C1 := hid hC1
    have O1 := hid hO1
    have PA := hid hPA
    have AT1 := hid (HB.out.at'.out hO1 a1)
    have D1 := hid (HD.out.out hO1 n1)
    have R1 := hid (HB.out.hr.out hO1 a5.symm)
    have S1 := hid (HB.out.hs.out hO1 a6.symm)
    have T1 := hid (HB.out.ht.out hO1 a7.symm)
    have hls := HB.out.lts
    have nAB : A ≠ B := by omega
    have nAr : A ≠ r := by omega
    have hW1 := hO1.size
    have hAl := hPA.lt
    clear HX hC1 hO1 hPA CC L1 L2 Z2 HT g0 g1
    generalize wc = W1 at *
    have HBx : Hid (B < W1.heap.size ∧ c < W1.heap.size ∧ r < W1.heap.size ∧ s < W1.heap.size ∧ t < W1.heap.size) := hid (by omega)
    have nR1 : W1.heap.size ≠ r := by omega
    go_upto_region 8 with fail
    have hnW := nR1
    have CC : Hid (∀ V, Below W1.heap.size W1 V → Calls Try.prog 37 #[pC r, .int .u64 now] V fun e w' => e = .returned (.tuple #[.agg #[.int .u8 p1k, .int .u8 p1f, .int .u8 p1t, .int .u32 p1e, .int .u32 p1s, .string p1b], .bool tb]) ∧ IsC 86 w' r (tickS R now) ∧ Ou (fun k => k = r) W1 w' ∧ (∀ A q, A ≠ r → PkAt V A q → PkAt w' A q)) := fun V hV =>
      (HR.out V (R1.out.later hV)).mono fun e w' q => ⟨q.1, q.2.1, (Ou.of hV).trans q.2.2, fun A q' hA hq => hq.out q.2.2 hA⟩
    have L1 : Hid (Below W1.heap.size W1 W1.drew) := bel_drew (Below.refl _ _)
    have L2 : Hid (Below W1.heap.size W1 (W1.alloc (.cells #[.int .u8 0, .int .u8 0, .int .u8 0, .int .u32 0, .int .u32 0, .string ⟨#[]⟩] 39)).drew) := bel_drew ((Below.refl _ _).alloc (Nat.le_refl _) _)
    have Z2 : Hid (PkAt (W1.alloc (.cells #[.int .u8 0, .int .u8 0, .int .u8 0, .int .u32 0, .int .u32 0, .string ⟨#[]⟩] 39)).drew W1.heap.size zpk) := PkAt.new W1 zpk
    go_cut [8, 9] from 59 to 68 (fun s8 s9 wx => ∃ A : Nat, s8 = .pointer (some ⟨A, 0, none⟩) ∧ s9 = .bool tb ∧ Hid (W1.heap.size ≤ A ∧ PkAt wx A ⟨p1k, p1f, p1t, p1e, p1s, p1b⟩ ∧ IsC 86 wx r (tickS R now) ∧ Ou (fun k => k = r) W1 wx))
    case first =>
      have FX : Hid (∀ V, Ou (fun k => k = r ∨ k = W1.heap.size) W1 V → V.cell? ⟨B, 1, none⟩ = some (pC r) ∧ V.cell? ⟨w.heap.size, 2, none⟩ = some (.int .u64 now)) := fun V hV => ⟨(AT1.out.out hV (by rintro (e | e); exact a2 e; omega)).cells.2.1, (D1.out.out hV (by rintro (e | e); exact n2 e; have := D1.out.lt; omega)).cells.2.2.1⟩
      go_region_held3 (fun w' => w'.cell? ⟨B, 1, none⟩ = some (pC r) ∧ w'.cell? ⟨w.heap.size, 2, none⟩ = some (.int .u64 now)) (first | (with_reducible exact FX.out _ O1.out) | (with_reducible exact FX.out _ (O1.out.alloc _)) | (with_reducible exact FX.out _ (((((((O1.out).set (.inr rfl)).set (.inr rfl)).set (.inr rfl)).set (.inr rfl)).set (.inr rfl)).set (.inr rfl))) | (with_reducible exact FX.out _ (Ou.of L1.out)) | (with_reducible exact FX.out _ (Ou.of L2.out)) | go_keep)
        (first
          | (go_at_call 37; with_reducible refine (CC.out _ L1.out).mono ?_; rintro _ w1 ⟨rfl, hC1, ho1, hk1⟩; have C1 := hid hC1; have O1 := hid (ho1.mono (T := fun k => k = r ∨ k = W1.heap.size) fun _ e => .inl e); have X1 := hid ho1)
          | (go_at_call 37; with_reducible refine (CC.out _ L2.out).mono ?_; rintro _ w1 ⟨rfl, hC1, ho1, hk1⟩; have C1 := hid hC1; have O1 := hid (ho1.mono (T := fun k => k = r ∨ k = W1.heap.size) fun _ e => .inl e); have X1 := hid ho1; have P1 := hid (hk1 W1.heap.size zpk hnW Z2.out); obtain ⟨p0, p1, p2, p3, p4, p5, pf⟩ := P1.out.cells; have q0 := pf 0; have q1 := pf 1; have q2 := pf 2; have q3 := pf 3; have q4 := pf 4; have q5 := pf 5; clear pf))
      · go_wp2_with fail
        go_meet
        exact ⟨_, rfl, rfl, hid ⟨X1.out.size, PkAt.new w1 ⟨p1k, p1f, p1t, p1e, p1s, p1b⟩, C1.out.later ((Below.refl _ _).alloc (Nat.le_refl _) _), X1.out.alloc _⟩⟩
      · go_wp2_with fail
        go_meet
        exact ⟨_, rfl, rfl, hid ⟨Nat.le_refl _, row_set 5 _ (row_set 4 _ (row_set 3 _ (row_set 2 _ (row_set 1 _ (row_set 0 _ (P1.out)))))), C1.out.out (S := fun k => k = W1.heap.size) (((((((Ou.refl (fun k => k = W1.heap.size) w1).set rfl).set rfl).set rfl).set rfl).set rfl).set rfl) hnW.symm, ou_fresh (((((((O1.out).set (.inr rfl)).set (.inr rfl)).set (.inr rfl)).set (.inr rfl)).set (.inr rfl)).set (.inr rfl))⟩⟩
    case rest =>
      obtain ⟨A2, rfl, rfl, HX⟩ := hcut
      obtain ⟨hA2, hPA2, hR2, hO2⟩ := HX.out
      have AT2 := hid (AT1.out.out hO2 a2)
      have PA2 := hid (PA.out.out hO2 nAr)
      have hW2 := hO2.size
      obtain ⟨v0, v1, v2, v3, v4, v5, vf⟩ := PA2.out.cells
      obtain ⟨u0, u1, u2, u3, u4, u5, uf⟩ := hPA2.cells
      obtain ⟨_, _, _, _, b4, b5, b6, b7, b8, b9, bf⟩ := AT2.out.cells
      have f4 := bf 4
      have f5 := bf 5
      have f6 := bf 6
      have f7 := bf 7
      have f8 := bf 8
      have f9 := bf 9
      simp only at v0 v1 v2 v3 v4 v5 u0 u1 u2 u3 u4 u5
      have nA2B : A2 ≠ B := by omega
      have R2 := hid hR2
      have O2 := hid hO2
      have HA2 := hid hPA2
      clear HX hR2 hO2 hPA2 CC L1 L2 Z2 HR vf uf bf
      generalize wc = W2 at *
      have o12 : Hid (Ou (Five B c r s t) W W2) := hid ((O1.out.mono fun k e => .inr (.inl e)).trans (O2.out.mono fun k e => .inr (.inr (.inl e))))
      have KK : Hid (IsC 73 W2 c (tickS C now) ∧ IsK W2 s F ∧ IsRK W2 t F) := hid ⟨C1.out.out O2.out a5, S1.out.out O2.out a8.symm, T1.out.out O2.out a9.symm⟩
      have hAB1 : ¬ A = B := nAB
      have hAB2 : ¬ A2 = B := nA2B
      cases tb with
      | false =>
        go_wp2
        go_ret
        exact ⟨by first | rfl | exact ret_bool (by simp), ⟨l, tickS C now, tickS R now, F, ⟨AT2.out, KK.out.1, R2.out, KK.out.2.1, KK.out.2.2, RL.out, cwf_tick HB.out.wc now hxn.1 hxn.2, cwf_tick HB.out.wr now hxn.1 hxn.2, HB.out.wf, HB.out.wl⟩⟩, (Ou.of HB0.out).trans o12.out⟩
      | true =>
        go_wp2
        go_ret
        have oB : Ou (fun k => k = B) W2 ((((((W2.setCell ⟨B, 4, none⟩ (.int .u8 p1k)).setCell ⟨B, 5, none⟩ (.int .u8 p1f)).setCell ⟨B, 6, none⟩ (.int .u8 p1t)).setCell ⟨B, 7, none⟩ (.int .u32 p1e)).setCell ⟨B, 8, none⟩ (.int .u32 p1s)).setCell ⟨B, 9, none⟩ (.string p1b)) := ((((((Ou.refl (fun k => k = B) W2).set rfl).set rfl).set rfl).set rfl).set rfl).set rfl
        refine ⟨by first | rfl | exact ret_bool (by simp), ⟨⟨p1k, p1f, p1t, p1e, p1s, p1b⟩, tickS C now, tickS R now, F, ⟨row_set 9 _ (row_set 8 _ (row_set 7 _ (row_set 6 _ (row_set 5 _ (row_set 4 _ AT2.out))))), KK.out.1.out oB a1.symm, R2.out.out oB a2.symm, KK.out.2.1.out oB a3.symm, KK.out.2.2.out oB a4.symm, RL.out, cwf_tick HB.out.wc now hxn.1 hxn.2, cwf_tick HB.out.wr now hxn.1 hxn.2, HB.out.wf, WL.out⟩⟩, ((Ou.of HB0.out).trans o12.out).trans (oB.mono fun k e => .inl e)⟩
end Go.Proofs.Ytjgpolaogneoaaa
