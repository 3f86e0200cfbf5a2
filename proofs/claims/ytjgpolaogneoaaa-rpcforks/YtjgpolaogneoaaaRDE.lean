/-
  What do of the statements on calls does, the other deeds; then any deed.
-/
import Derived.Test.YtjgpolaogneoaaaRD2
namespace Go.Proofs.Ytjgpolaogneoaaa
open Go.RowKit Go.ChangeShapes Go.WideShapes Go.ChangeAt
set_option linter.unusedVariables false
set_option linter.unusedSimpArgs false
set_option maxRecDepth 100000
set_option maxHeartbeats 4000000 in
theorem do_ktake_true {w : World} {B c r s t : Nat} {l : Fr.Pk} {C R : Cl} {F : Nat → Tk} {n : Nat} (h : Bo w B c r s t l C R F n) (hn : n ≤ 100) (x : Dr) (hx : x.Wf) (hk : x.k = 4) (ho : x.own = true) :
    Calls Try.prog 24 #[pC B, x.val] w (DoP w B c r s t n) := by
  obtain ⟨hB, hD, hP, hb⟩ := do_pre h x
  have hl := h.lts
  obtain ⟨xk, xs, now, ⟨pk, pf, pt, pe, ps, pb⟩, xc, own⟩ := x
  simp only at ho
  subst ho
  obtain ⟨_, hxs, hxn, hxp, hxb, hxc⟩ := hx
  simp only at hk hxs hxn hxp hxb hxc
  subst hk
  unfold Dr.val
  unfold boxD boxP at hB hD hP hb
  simp only at *
  have HB := hid hB
  have HD := hid hD
  have HP := hid hP
  have HB0 := hid hb
  have ⟨⟨a1, a2, a3, a4⟩, ⟨a5, a6, a7⟩, ⟨a8, a9⟩, a10⟩ := hB.ne
  have n0 : w.heap.size ≠ B := by omega
  have n1 : w.heap.size ≠ c := by omega
  have n2 : w.heap.size ≠ r := by omega
  have n3 : w.heap.size ≠ s := by omega
  have n4 : w.heap.size ≠ t := by omega
  have m0 : w.heap.size + 1 ≠ B := by omega
  have m1 : w.heap.size + 1 ≠ c := by omega
  have m2 : w.heap.size + 1 ≠ r := by omega
  have m3 : w.heap.size + 1 ≠ s := by omega
  have m4 : w.heap.size + 1 ≠ t := by omega
  clear hB hD hP hb h
  go_enter Try.func24, Try.ntmps24
  go_upto_region 2 with fail
  generalize ((w.alloc (.cells #[.int .i64 4, .string xs, .int .u64 now, .int .u8 pk, .int .u8 pf, .int .u8 pt, .int .u32 pe, .int .u32 ps, .string pb, .int .u8 xc, .bool true] 62)).alloc (.cells #[.int .u8 pk, .int .u8 pf, .int .u8 pt, .int .u32 pe, .int .u32 ps, .string pb] 39)) = W at *
  obtain ⟨g0, g1, g2, g3, g4, g5, g6, g7, g8, g9, gf⟩ := HB.out.at'.cells
  obtain ⟨d0, d1, d2, _, _, _, _, _, _, d9, d10⟩ := HD.out.cells
  obtain ⟨p0, p1, p2, p3, p4, p5, pff⟩ := HP.out.cells
  simp only at d0 d1 d9 d10 p0 p1 p2 p3 p4 p5
  have q0 := pff 0
  have q1 := pff 1
  have q2 := pff 2
  have q3 := pff 3
  have q4 := pff 4
  have q5 := pff 5
  have k0 : ¬ w.heap.size + 1 = B := m0
  have k1 : ¬ B = w.heap.size + 1 := fun e => m0 e.symm
  have k2 : ¬ w.heap.size + 1 = w.heap.size := by omega
  have oP : Ou (fun k => k = w.heap.size + 1) W ((((((W.setCell ⟨w.heap.size + 1, 0, none⟩ (.int .u8 l.k)).setCell ⟨w.heap.size + 1, 1, none⟩ (.int .u8 l.f)).setCell ⟨w.heap.size + 1, 2, none⟩ (.int .u8 l.t)).setCell ⟨w.heap.size + 1, 3, none⟩ (.int .u32 l.e)).setCell ⟨w.heap.size + 1, 4, none⟩ (.int .u32 l.s)).setCell ⟨w.heap.size + 1, 5, none⟩ (.string l.b)) := ((((((Ou.refl (fun k => k = w.heap.size + 1) W).set rfl).set rfl).set rfl).set rfl).set rfl).set rfl
  have HBV := hid (HB.out.keep oP (by rintro k (e | e | e | e | e) <;> (intro e'; omega)))
  have HQ00 : PkAt ((((((W.setCell ⟨w.heap.size + 1, 0, none⟩ (.int .u8 l.k)).setCell ⟨w.heap.size + 1, 1, none⟩ (.int .u8 l.f)).setCell ⟨w.heap.size + 1, 2, none⟩ (.int .u8 l.t)).setCell ⟨w.heap.size + 1, 3, none⟩ (.int .u32 l.e)).setCell ⟨w.heap.size + 1, 4, none⟩ (.int .u32 l.s)).setCell ⟨w.heap.size + 1, 5, none⟩ (.string l.b)) (w.heap.size + 1) l := row_set 5 _ (row_set 4 _ (row_set 3 _ (row_set 2 _ (row_set 1 _ (row_set 0 _ HP.out)))))
  have HQ0 : Hid (PkAt ((((((W.setCell ⟨w.heap.size + 1, 0, none⟩ (.int .u8 l.k)).setCell ⟨w.heap.size + 1, 1, none⟩ (.int .u8 l.f)).setCell ⟨w.heap.size + 1, 2, none⟩ (.int .u8 l.t)).setCell ⟨w.heap.size + 1, 3, none⟩ (.int .u32 l.e)).setCell ⟨w.heap.size + 1, 4, none⟩ (.int .u32 l.s)).setCell ⟨w.heap.size + 1, 5, none⟩ (.string l.b)) (w.heap.size + 1) l) := hid HQ00
  clear HQ00
  have HDV := hid (HD.out.out oP (by omega))
  have OV : Hid (Below w.heap.size w ((((((W.setCell ⟨w.heap.size + 1, 0, none⟩ (.int .u8 l.k)).setCell ⟨w.heap.size + 1, 1, none⟩ (.int .u8 l.f)).setCell ⟨w.heap.size + 1, 2, none⟩ (.int .u8 l.t)).setCell ⟨w.heap.size + 1, 3, none⟩ (.int .u32 l.e)).setCell ⟨w.heap.size + 1, 4, none⟩ (.int .u32 l.s)).setCell ⟨w.heap.size + 1, 5, none⟩ (.string l.b))) := hid (HB0.out.trans (oP.below HB0.out.size (fun k e => by omega)))
  clear oP gf pff
  go_upto_region 23 with fail
  clear g0 g1 g2 g3 g4 g5 g6 g7 g8 g9 d0 d1 d2 d9 d10 p0 p1 p2 p3 p4 p5 q0 q1 q2 q3 q4 q5 HB HD HP
  generalize ((((((W.setCell ⟨w.heap.size + 1, 0, none⟩ (.int .u8 l.k)).setCell ⟨w.heap.size + 1, 1, none⟩ (.int .u8 l.f)).setCell ⟨w.heap.size + 1, 2, none⟩ (.int .u8 l.t)).setCell ⟨w.heap.size + 1, 3, none⟩ (.int .u32 l.e)).setCell ⟨w.heap.size + 1, 4, none⟩ (.int .u32 l.s)).setCell ⟨w.heap.size + 1, 5, none⟩ (.string l.b)) = V at *
  have HB := HBV
  have HD := HDV
  have hqp : Fr.Wf l := HB.out.wl.1
  have hqb : l.b.size ≤ maxLen := by have := HB.out.wl.2; unfold maxLen; omega
  have HQ := HQ0
  have WS := hid (wf_ktS HB.out.wf hqp)
  have HT : Hid (∀ V', Below V.heap.size V V' → Calls Try.prog 17 #[pC s, .agg #[.int .u8 l.k, .int .u8 l.f, .int .u8 l.t, .int .u32 l.e, .int .u32 l.s, .string l.b]] V' fun e w' => e = .returned (.tuple #[.string (ktBody F l), .bool (ktOk F l), Fr.val (ktPk F l), .bool (ktIs F l)]) ∧ IsK w' s (ktS F l) ∧ Ou (fun k => k = s) V' w') := fun V' hV => ktake_c (HB.out.hs.later hV) HB.out.wf l hqp hqb
  have HR : Hid (∀ V', IsRK V' t F → Calls Try.prog 40 #[pC t, .agg #[.int .u8 l.k, .int .u8 l.f, .int .u8 l.t, .int .u32 l.e, .int .u32 l.s, .string l.b]] V' fun e w' => e = .returned (.tuple #[.string (ktBody F l), .bool (ktOk F l), Fr.val (ktPk F l), .bool (ktIs F l)]) ∧ IsRK w' t (ktS F l) ∧ Ou (fun k => k = t) V' w') := fun V' hV => rkt_c hV HB.out.wf l hqp hqb
  generalize ktBody F l = kb at *
  generalize ktOk F l = ko at *
  generalize ktIs F l = ki at *
  generalize ktPk F l = P1 at *
  obtain ⟨p1k, p1f, p1t, p1e, p1s, p1b⟩ := P1
  have AT := hid HB.out.at'
  have HB7 := HB
  have hnW : V.heap.size ≠ s := by have := HB7.out.lts; omega
  have CC : Hid (∀ V', Below V.heap.size V V' → Calls Try.prog 17 #[pC s, .agg #[.int .u8 l.k, .int .u8 l.f, .int .u8 l.t, .int .u32 l.e, .int .u32 l.s, .string l.b]] V' fun e w' => e = .returned (.tuple #[.string kb, .bool ko, .agg #[.int .u8 p1k, .int .u8 p1f, .int .u8 p1t, .int .u32 p1e, .int .u32 p1s, .string p1b], .bool ki]) ∧ IsK w' s (ktS F l) ∧ Ou (fun k => k = s) V w' ∧ (∀ A q, A ≠ s → PkAt V' A q → PkAt w' A q)) := fun V' hV =>
    (HT.out V' hV).mono fun e w' q => ⟨q.1, q.2.1, (Ou.of hV).trans q.2.2, fun A q' hA hq => hq.out q.2.2 hA⟩
  have L1 : Hid (Below V.heap.size V V.drew) := bel_drew (Below.refl _ _)
  have L2 : Hid (Below V.heap.size V (V.alloc (.cells #[.int .u8 0, .int .u8 0, .int .u8 0, .int .u32 0, .int .u32 0, .string ⟨#[]⟩] 39)).drew) := bel_drew ((Below.refl _ _).alloc (Nat.le_refl _) _)
  have Z2 : Hid (PkAt (V.alloc (.cells #[.int .u8 0, .int .u8 0, .int .u8 0, .int .u32 0, .int .u32 0, .string ⟨#[]⟩] 39)).drew V.heap.size zpk) := PkAt.new V zpk
  go_cut [14, 15, 16, 17] from 146 to 156 (fun s14 s15 s16 s17 wx => ∃ A : Nat, s14 = .string kb ∧ s15 = .bool ko ∧ s16 = .pointer (some ⟨A, 0, none⟩) ∧ s17 = .bool ki ∧ Hid (V.heap.size ≤ A ∧ PkAt wx A ⟨p1k, p1f, p1t, p1e, p1s, p1b⟩ ∧ IsK wx s (ktS F l) ∧ Ou (fun k => k = s) V wx))
  case first =>
    have FX : Hid (∀ V', Ou (fun k => k = s ∨ k = V.heap.size) V V' → V'.cell? ⟨B, 2, none⟩ = some (pC s) ∧ V'.cell? ⟨w.heap.size + 1, 0, none⟩ = some (.int .u8 l.k) ∧ V'.cell? ⟨w.heap.size + 1, 1, none⟩ = some (.int .u8 l.f) ∧ V'.cell? ⟨w.heap.size + 1, 2, none⟩ = some (.int .u8 l.t) ∧ V'.cell? ⟨w.heap.size + 1, 3, none⟩ = some (.int .u32 l.e) ∧ V'.cell? ⟨w.heap.size + 1, 4, none⟩ = some (.int .u32 l.s) ∧ V'.cell? ⟨w.heap.size + 1, 5, none⟩ = some (.string l.b)) := fun V' hV => ⟨(AT.out.out hV (by rintro (e | e); exact a3 e; have := AT.out.lt; omega)).cells.2.2.1, (HQ.out.out hV (by rintro (e | e); exact m3 e; have := HQ.out.lt; omega)).cells.1, (HQ.out.out hV (by rintro (e | e); exact m3 e; have := HQ.out.lt; omega)).cells.2.1, (HQ.out.out hV (by rintro (e | e); exact m3 e; have := HQ.out.lt; omega)).cells.2.2.1, (HQ.out.out hV (by rintro (e | e); exact m3 e; have := HQ.out.lt; omega)).cells.2.2.2.1, (HQ.out.out hV (by rintro (e | e); exact m3 e; have := HQ.out.lt; omega)).cells.2.2.2.2.1, (HQ.out.out hV (by rintro (e | e); exact m3 e; have := HQ.out.lt; omega)).cells.2.2.2.2.2.1⟩
    go_region_held3 (fun w' => w'.cell? ⟨B, 2, none⟩ = some (pC s) ∧ w'.cell? ⟨w.heap.size + 1, 0, none⟩ = some (.int .u8 l.k) ∧ w'.cell? ⟨w.heap.size + 1, 1, none⟩ = some (.int .u8 l.f) ∧ w'.cell? ⟨w.heap.size + 1, 2, none⟩ = some (.int .u8 l.t) ∧ w'.cell? ⟨w.heap.size + 1, 3, none⟩ = some (.int .u32 l.e) ∧ w'.cell? ⟨w.heap.size + 1, 4, none⟩ = some (.int .u32 l.s) ∧ w'.cell? ⟨w.heap.size + 1, 5, none⟩ = some (.string l.b)) (first | (with_reducible exact FX.out _ O1.out) | (with_reducible exact FX.out _ (O1.out.alloc _)) | (with_reducible exact FX.out _ (((((((O1.out).set (.inr rfl)).set (.inr rfl)).set (.inr rfl)).set (.inr rfl)).set (.inr rfl)).set (.inr rfl))) | (with_reducible exact FX.out _ (Ou.of L1.out)) | (with_reducible exact FX.out _ (Ou.of L2.out)) | go_keep)
      (first
        | (go_at_call 17; with_reducible refine (CC.out _ L1.out).mono ?_; rintro _ w1 ⟨rfl, hC1, ho1, hk1⟩; have C1 := hid hC1; have O1 := hid (ho1.mono (T := fun k => k = s ∨ k = V.heap.size) fun _ e => .inl e); have X1 := hid ho1)
        | (go_at_call 17; with_reducible refine (CC.out _ L2.out).mono ?_; rintro _ w1 ⟨rfl, hC1, ho1, hk1⟩; have C1 := hid hC1; have O1 := hid (ho1.mono (T := fun k => k = s ∨ k = V.heap.size) fun _ e => .inl e); have X1 := hid ho1; have P1 := hid (hk1 V.heap.size zpk hnW Z2.out); obtain ⟨p0, p1, p2, p3, p4, p5, pf⟩ := P1.out.cells; have q0 := pf 0; have q1 := pf 1; have q2 := pf 2; have q3 := pf 3; have q4 := pf 4; have q5 := pf 5; clear pf))
    · go_wp2_with fail
      go_meet
      exact ⟨_, rfl, rfl, rfl, rfl, hid ⟨X1.out.size, PkAt.new w1 ⟨p1k, p1f, p1t, p1e, p1s, p1b⟩, C1.out.later ((Below.refl _ _).alloc (Nat.le_refl _) _), X1.out.alloc _⟩⟩
    · go_wp2_with fail
      go_meet
      exact ⟨_, rfl, rfl, rfl, rfl, hid ⟨Nat.le_refl _, row_set 5 _ (row_set 4 _ (row_set 3 _ (row_set 2 _ (row_set 1 _ (row_set 0 _ (P1.out)))))), C1.out.out (S := fun k => k = V.heap.size) (((((((Ou.refl (fun k => k = V.heap.size) w1).set rfl).set rfl).set rfl).set rfl).set rfl).set rfl) hnW.symm, ou_fresh (((((((O1.out).set (.inr rfl)).set (.inr rfl)).set (.inr rfl)).set (.inr rfl)).set (.inr rfl)).set (.inr rfl))⟩⟩
  case rest =>
    obtain ⟨A, rfl, rfl, rfl, rfl, HX⟩ := hcut
    obtain ⟨hA, hPA, hC1, hO1⟩ := HX.out
    have K1 := hid hC1
    have O1 := hid hO1
    have PA := hid hPA
    have AT1 := hid (AT.out.out hO1 a3)
    have PQ1 := hid (HQ.out.out hO1 m3)
    have C1 := hid (HB.out.hc.out hO1 a6)
    have R1 := hid (HB.out.hr.out hO1 a8)
    have T1 := hid (HB.out.ht.out hO1 a10.symm)
    have hls := HB.out.lts
    have nAt : A ≠ t := by omega
    have hW1 := hO1.size
    have hAl := hPA.lt
    clear HX hC1 hO1 hPA CC L1 L2 Z2 HT
    generalize wc = W1 at *
    have nR1 : W1.heap.size ≠ t := by omega
    go_upto_region 24 with fail
    have hnW := nR1
    have CC : Hid (∀ V, Below W1.heap.size W1 V → Calls Try.prog 40 #[pC t, .agg #[.int .u8 l.k, .int .u8 l.f, .int .u8 l.t, .int .u32 l.e, .int .u32 l.s, .string l.b]] V fun e w' => e = .returned (.tuple #[.string kb, .bool ko, .agg #[.int .u8 p1k, .int .u8 p1f, .int .u8 p1t, .int .u32 p1e, .int .u32 p1s, .string p1b], .bool ki]) ∧ IsRK w' t (ktS F l) ∧ Ou (fun k => k = t) W1 w' ∧ (∀ A q, A ≠ t → PkAt V A q → PkAt w' A q)) := fun V hV =>
      (HR.out V (T1.out.later hV)).mono fun e w' q => ⟨q.1, q.2.1, (Ou.of hV).trans q.2.2, fun A q' hA hq => hq.out q.2.2 hA⟩
    have L1 : Hid (Below W1.heap.size W1 W1.drew) := bel_drew (Below.refl _ _)
    have L2 : Hid (Below W1.heap.size W1 (W1.alloc (.cells #[.int .u8 0, .int .u8 0, .int .u8 0, .int .u32 0, .int .u32 0, .string ⟨#[]⟩] 39)).drew) := bel_drew ((Below.refl _ _).alloc (Nat.le_refl _) _)
    have Z2 : Hid (PkAt (W1.alloc (.cells #[.int .u8 0, .int .u8 0, .int .u8 0, .int .u32 0, .int .u32 0, .string ⟨#[]⟩] 39)).drew W1.heap.size zpk) := PkAt.new W1 zpk
    go_cut [18, 19, 20, 21] from 157 to 167 (fun s18 s19 s20 s21 wx => ∃ A : Nat, s18 = .string kb ∧ s19 = .bool ko ∧ s20 = .pointer (some ⟨A, 0, none⟩) ∧ s21 = .bool ki ∧ Hid (W1.heap.size ≤ A ∧ PkAt wx A ⟨p1k, p1f, p1t, p1e, p1s, p1b⟩ ∧ IsRK wx t (ktS F l) ∧ Ou (fun k => k = t) W1 wx))
    case first =>
      have FX : Hid (∀ V, Ou (fun k => k = t ∨ k = W1.heap.size) W1 V → V.cell? ⟨B, 3, none⟩ = some (pC t) ∧ V.cell? ⟨w.heap.size + 1, 0, none⟩ = some (.int .u8 l.k) ∧ V.cell? ⟨w.heap.size + 1, 1, none⟩ = some (.int .u8 l.f) ∧ V.cell? ⟨w.heap.size + 1, 2, none⟩ = some (.int .u8 l.t) ∧ V.cell? ⟨w.heap.size + 1, 3, none⟩ = some (.int .u32 l.e) ∧ V.cell? ⟨w.heap.size + 1, 4, none⟩ = some (.int .u32 l.s) ∧ V.cell? ⟨w.heap.size + 1, 5, none⟩ = some (.string l.b)) := fun V hV => ⟨(AT1.out.out hV (by rintro (e | e); exact a4 e; have := AT1.out.lt; omega)).cells.2.2.2.1, (PQ1.out.out hV (by rintro (e | e); exact m4 e; have := PQ1.out.lt; omega)).cells.1, (PQ1.out.out hV (by rintro (e | e); exact m4 e; have := PQ1.out.lt; omega)).cells.2.1, (PQ1.out.out hV (by rintro (e | e); exact m4 e; have := PQ1.out.lt; omega)).cells.2.2.1, (PQ1.out.out hV (by rintro (e | e); exact m4 e; have := PQ1.out.lt; omega)).cells.2.2.2.1, (PQ1.out.out hV (by rintro (e | e); exact m4 e; have := PQ1.out.lt; omega)).cells.2.2.2.2.1, (PQ1.out.out hV (by rintro (e | e); exact m4 e; have := PQ1.out.lt; omega)).cells.2.2.2.2.2.1⟩
      go_region_held3 (fun w' => w'.cell? ⟨B, 3, none⟩ = some (pC t) ∧ w'.cell? ⟨w.heap.size + 1, 0, none⟩ = some (.int .u8 l.k) ∧ w'.cell? ⟨w.heap.size + 1, 1, none⟩ = some (.int .u8 l.f) ∧ w'.cell? ⟨w.heap.size + 1, 2, none⟩ = some (.int .u8 l.t) ∧ w'.cell? ⟨w.heap.size + 1, 3, none⟩ = some (.int .u32 l.e) ∧ w'.cell? ⟨w.heap.size + 1, 4, none⟩ = some (.int .u32 l.s) ∧ w'.cell? ⟨w.heap.size + 1, 5, none⟩ = some (.string l.b)) (first | (with_reducible exact FX.out _ O1.out) | (with_reducible exact FX.out _ (O1.out.alloc _)) | (with_reducible exact FX.out _ (((((((O1.out).set (.inr rfl)).set (.inr rfl)).set (.inr rfl)).set (.inr rfl)).set (.inr rfl)).set (.inr rfl))) | (with_reducible exact FX.out _ (Ou.of L1.out)) | (with_reducible exact FX.out _ (Ou.of L2.out)) | go_keep)
        (first
          | (go_at_call 40; with_reducible refine (CC.out _ L1.out).mono ?_; rintro _ w1 ⟨rfl, hC1, ho1, hk1⟩; have C1 := hid hC1; have O1 := hid (ho1.mono (T := fun k => k = t ∨ k = W1.heap.size) fun _ e => .inl e); have X1 := hid ho1)
          | (go_at_call 40; with_reducible refine (CC.out _ L2.out).mono ?_; rintro _ w1 ⟨rfl, hC1, ho1, hk1⟩; have C1 := hid hC1; have O1 := hid (ho1.mono (T := fun k => k = t ∨ k = W1.heap.size) fun _ e => .inl e); have X1 := hid ho1; have P1 := hid (hk1 W1.heap.size zpk hnW Z2.out); obtain ⟨p0, p1, p2, p3, p4, p5, pf⟩ := P1.out.cells; have q0 := pf 0; have q1 := pf 1; have q2 := pf 2; have q3 := pf 3; have q4 := pf 4; have q5 := pf 5; clear pf))
      · go_wp2_with fail
        go_meet
        exact ⟨_, rfl, rfl, rfl, rfl, hid ⟨X1.out.size, PkAt.new w1 ⟨p1k, p1f, p1t, p1e, p1s, p1b⟩, C1.out.later ((Below.refl _ _).alloc (Nat.le_refl _) _), X1.out.alloc _⟩⟩
      · go_wp2_with fail
        go_meet
        exact ⟨_, rfl, rfl, rfl, rfl, hid ⟨Nat.le_refl _, row_set 5 _ (row_set 4 _ (row_set 3 _ (row_set 2 _ (row_set 1 _ (row_set 0 _ (P1.out)))))), C1.out.out (S := fun k => k = W1.heap.size) (((((((Ou.refl (fun k => k = W1.heap.size) w1).set rfl).set rfl).set rfl).set rfl).set rfl).set rfl) hnW.symm, ou_fresh (((((((O1.out).set (.inr rfl)).set (.inr rfl)).set (.inr rfl)).set (.inr rfl)).set (.inr rfl)).set (.inr rfl))⟩⟩
    case rest =>
      obtain ⟨A2, rfl, rfl, rfl, rfl, HX⟩ := hcut
      obtain ⟨hA2, hPA2, hR2, hO2⟩ := HX.out
      have PA2 := hid (PA.out.out hO2 nAt)
      obtain ⟨v0, v1, v2, v3, v4, v5, vf⟩ := PA2.out.cells
      obtain ⟨u0, u1, u2, u3, u4, u5, uf⟩ := hPA2.cells
      simp only at v0 v1 v2 v3 v4 v5 u0 u1 u2 u3 u4 u5
      have o12 : Ou (Five B c r s t) V wc := (O1.out.mono fun k e => .inr (.inr (.inr (.inl e)))).trans (hO2.mono fun k e => .inr (.inr (.inr (.inr e))))
      have FIN : Hid (DoP w B c r s t n (.returned (.bool true)) wc) := hid ⟨rfl, ⟨l, C, R, ktS F l, ⟨AT1.out.out hO2 a4, C1.out.out hO2 a7, R1.out.out hO2 a9, K1.out.out hO2 a10, hR2, HB.out.rel, HB.out.wc.up, HB.out.wr.up, WS.out, HB.out.wl⟩⟩, (Ou.of OV.out).trans o12⟩
      clear HX hR2 hO2 hPA2 CC L1 L2 Z2 HR vf uf o12
      generalize wc = W2 at *
      go_wp2
      go_ret
      have e9 : ∀ (b : Bool) (x : Ending), x = .returned (.bool b) → b = true → DoP w B c r s t n x W2 := fun b x h1 h2 => by rw [h1, h2]; exact FIN.out
      exact e9 _ _ rfl (by first | rfl | simp)
end Go.Proofs.Ytjgpolaogneoaaa
