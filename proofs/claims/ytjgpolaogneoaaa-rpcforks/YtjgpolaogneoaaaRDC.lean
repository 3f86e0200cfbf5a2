/-
  What do of the statements on calls does, the other deeds; then any deed.
-/
import Derived.Test.YtjgpolaogneoaaaRD2
namespace Go.Proofs.Ytjgpolaogneoaaa
open Go.RowKit Go.ChangeShapes Go.WideShapes Go.ChangeAt
set_option linter.unusedVariables false
set_option linter.unusedSimpArgs false
set_option maxRecDepth 100000
set_option maxHeartbeats 4000000 in
theorem do_take_true {w : World} {B c r s t : Nat} {l : Fr.Pk} {C R : Cl} {F : Nat → Tk} {n : Nat} (h : Bo w B c r s t l C R F n) (hn : n ≤ 100) (x : Dr) (hx : x.Wf) (hk : x.k = 2) (ho : x.own = true) :
    Calls Try.prog 24 #[pC B, x.val] w (DoP w B c r s t n) := by
  obtain ⟨hB, hD, hP, hb⟩ := do_pre h x
  have hl := h.lts
  obtain ⟨xk, xs, now, ⟨pk, pf, pt, pe, ps, pb⟩, xc, own⟩ := x
  simp only at ho
  subst ho
  obtain ⟨_, hxs, hxn, hxp, hxb, hxc⟩ := hx
  simp only at hk hxs hxn hxp hxb hxc
  subst hk
  unfold Dr.val
  unfold boxD boxP at hB hD hP hb
  simp only at *
  have HB := hid hB
  have HD := hid hD
  have HP := hid hP
  have HB0 := hid hb
  have ⟨⟨a1, a2, a3, a4⟩, ⟨a5, a6, a7⟩, ⟨a8, a9⟩, a10⟩ := hB.ne
  have n0 : w.heap.size ≠ B := by omega
  have n1 : w.heap.size ≠ c := by omega
  have n2 : w.heap.size ≠ r := by omega
  have n3 : w.heap.size ≠ s := by omega
  have n4 : w.heap.size ≠ t := by omega
  have m0 : w.heap.size + 1 ≠ B := by omega
  have m1 : w.heap.size + 1 ≠ c := by omega
  have m2 : w.heap.size + 1 ≠ r := by omega
  have m3 : w.heap.size + 1 ≠ s := by omega
  have m4 : w.heap.size + 1 ≠ t := by omega
  clear hB hD hP hb h
  go_enter Try.func24, Try.ntmps24
  go_upto_region 2 with fail
  generalize ((w.alloc (.cells #[.int .i64 2, .string xs, .int .u64 now, .int .u8 pk, .int .u8 pf, .int .u8 pt, .int .u32 pe, .int .u32 ps, .string pb, .int .u8 xc, .bool true] 62)).alloc (.cells #[.int .u8 pk, .int .u8 pf, .int .u8 pt, .int .u32 pe, .int .u32 ps, .string pb] 39)) = W at *
  obtain ⟨g0, g1, g2, g3, g4, g5, g6, g7, g8, g9, gf⟩ := HB.out.at'.cells
  obtain ⟨d0, d1, d2, _, _, _, _, _, _, d9, d10⟩ := HD.out.cells
  obtain ⟨p0, p1, p2, p3, p4, p5, pff⟩ := HP.out.cells
  simp only at d0 d1 d9 d10 p0 p1 p2 p3 p4 p5
  have q0 := pff 0
  have q1 := pff 1
  have q2 := pff 2
  have q3 := pff 3
  have q4 := pff 4
  have q5 := pff 5
  have k0 : ¬ w.heap.size + 1 = B := m0
  have k1 : ¬ B = w.heap.size + 1 := fun e => m0 e.symm
  have k2 : ¬ w.heap.size + 1 = w.heap.size := by omega
  have oP : Ou (fun k => k = w.heap.size + 1) W ((((((W.setCell ⟨w.heap.size + 1, 0, none⟩ (.int .u8 2)).setCell ⟨w.heap.size + 1, 1, none⟩ (.int .u8 0)).setCell ⟨w.heap.size + 1, 2, none⟩ (.int .u8 2)).setCell ⟨w.heap.size + 1, 3, none⟩ (.int .u32 l.e)).setCell ⟨w.heap.size + 1, 4, none⟩ (.int .u32 l.s)).setCell ⟨w.heap.size + 1, 5, none⟩ (.string xs)).drew := (((((((Ou.refl (fun k => k = w.heap.size + 1) W).set rfl).set rfl).set rfl).set rfl).set rfl).set rfl).drew
  have HBV := hid (HB.out.keep oP (by rintro k (e | e | e | e | e) <;> (intro e'; omega)))
  have HQ00 : PkAt ((((((W.setCell ⟨w.heap.size + 1, 0, none⟩ (.int .u8 2)).setCell ⟨w.heap.size + 1, 1, none⟩ (.int .u8 0)).setCell ⟨w.heap.size + 1, 2, none⟩ (.int .u8 2)).setCell ⟨w.heap.size + 1, 3, none⟩ (.int .u32 l.e)).setCell ⟨w.heap.size + 1, 4, none⟩ (.int .u32 l.s)).setCell ⟨w.heap.size + 1, 5, none⟩ (.string xs)) (w.heap.size + 1) ⟨2, 0, 2, l.e, l.s, xs⟩ := row_set 5 _ (row_set 4 _ (row_set 3 _ (row_set 2 _ (row_set 1 _ (row_set 0 _ HP.out)))))
  have HQ0 : Hid (PkAt ((((((W.setCell ⟨w.heap.size + 1, 0, none⟩ (.int .u8 2)).setCell ⟨w.heap.size + 1, 1, none⟩ (.int .u8 0)).setCell ⟨w.heap.size + 1, 2, none⟩ (.int .u8 2)).setCell ⟨w.heap.size + 1, 3, none⟩ (.int .u32 l.e)).setCell ⟨w.heap.size + 1, 4, none⟩ (.int .u32 l.s)).setCell ⟨w.heap.size + 1, 5, none⟩ (.string xs)).drew (w.heap.size + 1) ⟨2, 0, 2, l.e, l.s, xs⟩) := hid (pk_drew HQ00)
  clear HQ00
  have HDV := hid (HD.out.out oP (by omega))
  have OV : Hid (Below w.heap.size w ((((((W.setCell ⟨w.heap.size + 1, 0, none⟩ (.int .u8 2)).setCell ⟨w.heap.size + 1, 1, none⟩ (.int .u8 0)).setCell ⟨w.heap.size + 1, 2, none⟩ (.int .u8 2)).setCell ⟨w.heap.size + 1, 3, none⟩ (.int .u32 l.e)).setCell ⟨w.heap.size + 1, 4, none⟩ (.int .u32 l.s)).setCell ⟨w.heap.size + 1, 5, none⟩ (.string xs)).drew) := hid (HB0.out.trans (oP.below HB0.out.size (fun k e => by omega)))
  clear oP gf pff
  go_wp2_with fail
  go_region
  go_wp2_with fail
  clear g0 g1 g2 g3 g4 g5 g6 g7 g8 g9 d0 d1 d2 d9 d10 p0 p1 p2 p3 p4 p5 q0 q1 q2 q3 q4 q5 HB HD HP
  generalize ((((((W.setCell ⟨w.heap.size + 1, 0, none⟩ (.int .u8 2)).setCell ⟨w.heap.size + 1, 1, none⟩ (.int .u8 0)).setCell ⟨w.heap.size + 1, 2, none⟩ (.int .u8 2)).setCell ⟨w.heap.size + 1, 3, none⟩ (.int .u32 l.e)).setCell ⟨w.heap.size + 1, 4, none⟩ (.int .u32 l.s)).setCell ⟨w.heap.size + 1, 5, none⟩ (.string xs)).drew = V at *
  have HB := HBV
  have HD := HDV
  have hqp : Fr.Wf ⟨2, 0, 2, l.e, l.s, xs⟩ := ⟨(show (0 : Int) ≤ 2 ∧ (2 : Int) < 256 by decide), (show (0 : Int) ≤ 0 ∧ (0 : Int) < 256 by decide), (show (0 : Int) ≤ 2 ∧ (2 : Int) < 256 by decide), HB.out.wl.1.2.2.2.1, HB.out.wl.1.2.2.2.2⟩
  have hqb : xs.size ≤ maxLen := hxs
  have HQ := HQ0
  obtain ⟨eB, eT, rl⟩ := rel_take HB.out.rel ⟨2, 0, 2, l.e, l.s, xs⟩
  have RL := hid rl
  have CC : Hid (Calls Try.prog 25 #[pC c, .agg #[.int .u8 2, .int .u8 0, .int .u8 2, .int .u32 l.e, .int .u32 l.s, .string xs]] V.drew fun e w' => e = .returned (.tuple #[.string (takeT C ⟨2, 0, 2, l.e, l.s, xs⟩), .bool (takeB C ⟨2, 0, 2, l.e, l.s, xs⟩)]) ∧ IsC 73 w' c (takeS C ⟨2, 0, 2, l.e, l.s, xs⟩) ∧ Ou (fun k => k = c) V.drew w') := hid (take_c (w := V.drew) HB.out.hc ⟨2, 0, 2, l.e, l.s, xs⟩ hqp hqb)
  have RT : Hid (∀ W', IsC 86 W' r R → Calls Try.prog 38 #[pC r, .agg #[.int .u8 2, .int .u8 0, .int .u8 2, .int .u32 l.e, .int .u32 l.s, .string xs]] W' fun e w' => e = .returned (.tuple #[.string (takeT C ⟨2, 0, 2, l.e, l.s, xs⟩), .bool (takeB C ⟨2, 0, 2, l.e, l.s, xs⟩)]) ∧ IsC 86 w' r (rtakeS R ⟨2, 0, 2, l.e, l.s, xs⟩) ∧ Ou (fun k => k = r) W' w') := fun W' hW => by
    have := rtake_c hW ⟨2, 0, 2, l.e, l.s, xs⟩ hqp hqb
    rwa [← eT, ← eB] at this
  have AT0 : Hid (BoAt V.drew B c r s t l) := HB.out.at'
  have PQ0 : Hid (PkAt V.drew (w.heap.size + 1) ⟨2, 0, 2, l.e, l.s, xs⟩) := HQ.out
  have R0 : Hid (IsC 86 V.drew r R) := HB.out.hr
  have S0 : Hid (IsK V.drew s F) := HB.out.hs
  have T0 : Hid (IsRK V.drew t F) := HB.out.ht
  have CW := hid (cwf_take HB.out.wc ⟨2, 0, 2, l.e, l.s, xs⟩)
  have RW := hid (cwf_rtake HB.out.wr ⟨2, 0, 2, l.e, l.s, xs⟩)
  obtain ⟨g0, g1, _⟩ := HB.out.at'.cells
  obtain ⟨p0, p1, p2, p3, p4, p5, _⟩ := HQ.out.cells
  simp only at p0 p1 p2 p3 p4 p5
  clear rl eB eT
  generalize takeT C ⟨2, 0, 2, l.e, l.s, xs⟩ = tt at *
  generalize takeB C ⟨2, 0, 2, l.e, l.s, xs⟩ = tb at *
  go_region_held3 (fun w' => w'.cell? ⟨B, 0, none⟩ = some (pC c) ∧ w'.cell? ⟨w.heap.size + 1, 0, none⟩ = some (.int .u8 2) ∧ w'.cell? ⟨w.heap.size + 1, 1, none⟩ = some (.int .u8 0) ∧ w'.cell? ⟨w.heap.size + 1, 2, none⟩ = some (.int .u8 2) ∧ w'.cell? ⟨w.heap.size + 1, 3, none⟩ = some (.int .u32 l.e) ∧ w'.cell? ⟨w.heap.size + 1, 4, none⟩ = some (.int .u32 l.s) ∧ w'.cell? ⟨w.heap.size + 1, 5, none⟩ = some (.string xs)) (first | go_keep | exact ⟨AT1.out.cells.1, (PQ1.out.cells.1), (PQ1.out.cells.2.1), (PQ1.out.cells.2.2.1), (PQ1.out.cells.2.2.2.1), (PQ1.out.cells.2.2.2.2.1), (PQ1.out.cells.2.2.2.2.2.1)⟩)
    (first
      | (go_at_call 25; refine CC.out.mono ?_; rintro _ w1 ⟨rfl, hC1, ho1⟩; have C1 := hid hC1; have O1 := hid ho1; have AT1 := hid (AT0.out.out ho1 a1); have PQ1 := hid (PQ0.out.out ho1 m1)))
  have R1 := hid (R0.out.out O1.out a5.symm)
  have S1 := hid (S0.out.out O1.out a6.symm)
  have T1 := hid (T0.out.out O1.out a7.symm)
  have RC := hid (RT.out w1.drew (show IsC 86 w1.drew r R from R1.out))
  have AT1' : Hid (BoAt w1.drew B c r s t l) := AT1.out
  have PQ1' : Hid (PkAt w1.drew (w.heap.size + 1) ⟨2, 0, 2, l.e, l.s, xs⟩) := PQ1.out
  clear g0 g1 p0 p1 p2 p3 p4 p5 CC RT
  obtain ⟨g0, g1, _⟩ := AT1.out.cells
  obtain ⟨p0, p1, p2, p3, p4, p5, _⟩ := PQ1.out.cells
  simp only at p0 p1 p2 p3 p4 p5
  go_wp2_with fail
  go_region_held3 (fun w' => w'.cell? ⟨B, 1, none⟩ = some (pC r) ∧ w'.cell? ⟨w.heap.size + 1, 0, none⟩ = some (.int .u8 2) ∧ w'.cell? ⟨w.heap.size + 1, 1, none⟩ = some (.int .u8 0) ∧ w'.cell? ⟨w.heap.size + 1, 2, none⟩ = some (.int .u8 2) ∧ w'.cell? ⟨w.heap.size + 1, 3, none⟩ = some (.int .u32 l.e) ∧ w'.cell? ⟨w.heap.size + 1, 4, none⟩ = some (.int .u32 l.s) ∧ w'.cell? ⟨w.heap.size + 1, 5, none⟩ = some (.string xs)) (first | go_keep | exact ⟨AT2.out.cells.2.1, (PQ2.out.cells.1), (PQ2.out.cells.2.1), (PQ2.out.cells.2.2.1), (PQ2.out.cells.2.2.2.1), (PQ2.out.cells.2.2.2.2.1), (PQ2.out.cells.2.2.2.2.2.1)⟩)
    (first
      | (go_at_call 38; refine RC.out.mono ?_; rintro _ w2 ⟨rfl, hR2, ho2⟩; have R2 := hid hR2; have O2 := hid ho2; have AT2 := hid (AT1'.out.out ho2 a2); have PQ2 := hid (PQ1'.out.out ho2 m2)))
  go_wp2
  go_ret
  have o2 : Ou (fun k => k = r) w1 w2 := (((Ou.refl _ w1).drew).trans O2.out)
  have o12 : Ou (Five B c r s t) V w2 := (((Ou.refl _ V).drew).trans (O1.out.mono fun k e => .inr (.inl e))).trans (o2.mono fun k e => .inr (.inr (.inl e)))
  exact ⟨by first | rfl | exact ret_bool (by simp), ⟨l, takeS C ⟨2, 0, 2, l.e, l.s, xs⟩, rtakeS R ⟨2, 0, 2, l.e, l.s, xs⟩, F, ⟨AT2.out, C1.out.out o2 a5, R2.out, S1.out.out o2 a8.symm, T1.out.out o2 a9.symm, RL.out, CW.out, RW.out, HB.out.wf, HB.out.wl⟩⟩, (Ou.of OV.out).trans o12⟩
end Go.Proofs.Ytjgpolaogneoaaa
