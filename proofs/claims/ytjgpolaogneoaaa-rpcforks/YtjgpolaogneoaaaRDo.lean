/-
  What do of the statements on calls does: a deed on both.
-/
import Derived.Test.YtjgpolaogneoaaaRBo
import Derived.Test.YtjgpolaogneoaaaRKc
import Derived.Deep.CutRange
namespace Go.Proofs.Ytjgpolaogneoaaa
open Go.RowKit Go.ChangeShapes Go.WideShapes Go.ChangeAt
set_option linter.unusedVariables false
set_option linter.unusedSimpArgs false
set_option maxRecDepth 100000
abbrev boxD (x : Dr) : Obj := .cells #[.int .i64 x.k, .string x.s, .int .u64 x.now, .int .u8 x.p.k, .int .u8 x.p.f, .int .u8 x.p.t, .int .u32 x.p.e, .int .u32 x.p.s, .string x.p.b, .int .u8 x.c, .bool x.own] 62
abbrev boxP (p : Fr.Pk) : Obj := .cells #[.int .u8 p.k, .int .u8 p.f, .int .u8 p.t, .int .u32 p.e, .int .u32 p.s, .string p.b] 39
theorem do_pre {w : World} {B c r s t : Nat} {l : Fr.Pk} {C R : Cl} {F : Nat → Tk} {n : Nat} (h : Bo w B c r s t l C R F n) (x : Dr) :
    Bo ((w.alloc (boxD x)).alloc (boxP x.p)) B c r s t l C R F n ∧ DrAt ((w.alloc (boxD x)).alloc (boxP x.p)) w.heap.size x ∧ PkAt ((w.alloc (boxD x)).alloc (boxP x.p)) (w.heap.size + 1) x.p ∧ Below w.heap.size w ((w.alloc (boxD x)).alloc (boxP x.p)) := by
  have b1 : Below w.heap.size w (w.alloc (boxD x)) := (Below.refl _ _).alloc (Nat.le_refl _) _
  have d1 : DrAt (w.alloc (boxD x)) w.heap.size x := heap_alloc_new w _
  have b2 : Below (w.alloc (boxD x)).heap.size (w.alloc (boxD x)) ((w.alloc (boxD x)).alloc (boxP x.p)) := (Below.refl _ _).alloc (Nat.le_refl _) _
  refine ⟨(h.later b1).later b2, d1.later b2, ?_, b1.trans (b2.mono b1.size)⟩
  have e0 : (w.alloc (boxD x)).heap.size = w.heap.size + 1 := by simp
  rw [← e0]
  exact PkAt.new _ x.p
set_option maxHeartbeats 4000000 in
theorem do_call {w : World} {B c r s t : Nat} {l : Fr.Pk} {C R : Cl} {F : Nat → Tk} {n : Nat} (h : Bo w B c r s t l C R F n) (hn : n ≤ 100) (x : Dr) (hk : x.k = 0) :
    Calls Try.prog 24 #[pC B, x.val] w (DoP w B c r s t n) := by
  obtain ⟨hB, hD, hP, hb⟩ := do_pre h x
  have hl := h.lts
  obtain ⟨xk, xs, now, ⟨pk, pf, pt, pe, ps, pb⟩, xc, own⟩ := x
  simp only at hk
  subst hk
  unfold Dr.val
  unfold boxD boxP at hB hD hP hb
  simp only at *
  have HB := hid hB
  have HD := hid hD
  have HB0 := hid hb
  have ⟨⟨a1, a2, a3, a4⟩, ⟨a5, a6, a7⟩, ⟨a8, a9⟩, a10⟩ := hB.ne
  have n1 : w.heap.size ≠ c := by omega
  have n2 : w.heap.size ≠ r := by omega
  clear hB hD hP hb
  go_enter Try.func24, Try.ntmps24
  go_wp2_with fail
  generalize ((w.alloc (.cells #[.int .i64 0, .string xs, .int .u64 now, .int .u8 pk, .int .u8 pf, .int .u8 pt, .int .u32 pe, .int .u32 ps, .string pb, .int .u8 xc, .bool own] 62)).alloc (.cells #[.int .u8 pk, .int .u8 pf, .int .u8 pt, .int .u32 pe, .int .u32 ps, .string pb] 39)) = W at *
  obtain ⟨g0, g1, _⟩ := HB.out.at'.cells
  obtain ⟨d0, d1, _⟩ := HD.out.cells
  simp only at d1
  obtain ⟨e1, rl⟩ := rel_call HB.out.rel xs
  have RL := hid rl
  have CC := hid (call_c (w := W.drew) (HB.out.hc) (HB.out.wc.wf hn) xs)
  have HD' : Hid (DrAt W.drew w.heap.size ⟨0, xs, now, ⟨pk, pf, pt, pe, ps, pb⟩, xc, own⟩) := HD.out
  have HA' : Hid (BoAt W.drew B c r s t l) := HB.out.at'
  have HR' : Hid (IsC 86 W.drew r R) := HB.out.hr
  have WR := hid (HB.out.wr.wf hn)
  clear rl
  go_region_held3 (fun w' => w'.cell? ⟨B, 0, none⟩ = some (pC c) ∧ w'.cell? ⟨B, 1, none⟩ = some (pC r) ∧ w'.cell? ⟨w.heap.size, 1, none⟩ = some (.string xs)) (first | go_keep | exact ⟨A2.out.cells.1, A2.out.cells.2.1, D2.out.cells.2.1⟩ | exact ⟨A1.out.cells.1, A1.out.cells.2.1, D1.out.cells.2.1⟩)
    (first
      | (go_at_call 14; refine CC.out.mono ?_; rintro _ w1 ⟨rfl, hC1, ho1⟩; have C1 := hid hC1; have O1 := hid ho1; have A1 := hid (HA'.out.out ho1 a1); have D1 := hid (HD'.out.out ho1 n1); have RC := hid (rcall_c (HR'.out.out ho1 a5.symm) WR.out xs); rw [← e1] at RC)
      | (go_at_call 36; refine RC.out.mono ?_; rintro _ w2 ⟨rfl, hR2, ho2⟩; have R2 := hid hR2; have O2 := hid ho2; have A2 := hid (A1.out.out ho2 a2); have D2 := hid (D1.out.out ho2 n2)))
  go_wp2
  go_ret
  have o12 : Ou (Five B c r s t) W w2 := (((Ou.refl _ W).drew).trans (O1.out.mono fun k e => .inr (.inl e))).trans (O2.out.mono fun k e => .inr (.inr (.inl e)))
  refine ⟨by first | rfl | exact ret_bool (by simp), ⟨l, callS C xs, callS R xs, F, ⟨A2.out, C1.out.out O2.out a5, R2.out, ?_, ?_, RL.out, cwf_call HB.out.wc xs, cwf_call HB.out.wr xs, HB.out.wf, HB.out.wl⟩⟩, (Ou.of HB0.out).trans o12⟩
  · exact (HB.out.hs.out (S := fun _ => False) ((Ou.refl _ W).drew) id).out O1.out a6.symm |>.out O2.out a8.symm
  · exact (HB.out.ht.out (S := fun _ => False) ((Ou.refl _ W).drew) id).out O1.out a7.symm |>.out O2.out a9.symm
set_option maxHeartbeats 4000000 in
theorem do_cancel {w : World} {B c r s t : Nat} {l : Fr.Pk} {C R : Cl} {F : Nat → Tk} {n : Nat} (h : Bo w B c r s t l C R F n) (hn : n ≤ 100) (x : Dr) (hx : x.Wf) (hk : x.k = 3) :
    Calls Try.prog 24 #[pC B, x.val] w (DoP w B c r s t n) := by
  obtain ⟨hB, hD, hP, hb⟩ := do_pre h x
  have hl := h.lts
  obtain ⟨xk, xs, now, ⟨pk, pf, pt, pe, ps, pb⟩, xc, own⟩ := x
  obtain ⟨_, hxs, hxn, hxp, hxb, hxc⟩ := hx
  simp only at hk hxs hxn hxp hxb hxc
  subst hk
  unfold Dr.val
  unfold boxD boxP at hB hD hP hb
  simp only at *
  have HB := hid hB
  have HD := hid hD
  have HP := hid hP
  have HB0 := hid hb
  have ⟨⟨a1, a2, a3, a4⟩, ⟨a5, a6, a7⟩, ⟨a8, a9⟩, a10⟩ := hB.ne
  have n0 : w.heap.size ≠ B := by omega
  have n1 : w.heap.size ≠ c := by omega
  have n2 : w.heap.size ≠ r := by omega
  have n3 : w.heap.size ≠ s := by omega
  have n4 : w.heap.size ≠ t := by omega
  have m0 : w.heap.size + 1 ≠ B := by omega
  have m1 : w.heap.size + 1 ≠ c := by omega
  have m2 : w.heap.size + 1 ≠ r := by omega
  have m3 : w.heap.size + 1 ≠ s := by omega
  have m4 : w.heap.size + 1 ≠ t := by omega
  clear hB hD hP hb
  go_enter Try.func24, Try.ntmps24
  go_wp2_with fail
  generalize ((w.alloc (.cells #[.int .i64 3, .string xs, .int .u64 now, .int .u8 pk, .int .u8 pf, .int .u8 pt, .int .u32 pe, .int .u32 ps, .string pb, .int .u8 xc, .bool own] 62)).alloc (.cells #[.int .u8 pk, .int .u8 pf, .int .u8 pt, .int .u32 pe, .int .u32 ps, .string pb] 39)) = W at *
  obtain ⟨g0, g1, _⟩ := HB.out.at'.cells
  obtain ⟨e1, rl⟩ := rel_cancel HB.out.rel
  have RL := hid rl
  have CC := hid (cancel_c (w := W.drew) (HB.out.hc))
  have HA' : Hid (BoAt W.drew B c r s t l) := HB.out.at'
  have HR' : Hid (IsC 86 W.drew r R) := HB.out.hr
  clear rl
  go_region_held3 (fun w' => w'.cell? ⟨B, 0, none⟩ = some (pC c) ∧ w'.cell? ⟨B, 1, none⟩ = some (pC r)) (first | go_keep | exact ⟨A2.out.cells.1, A2.out.cells.2.1⟩ | exact ⟨A1.out.cells.1, A1.out.cells.2.1⟩)
    (first
      | (go_at_call 16; refine CC.out.mono ?_; rintro _ w1 ⟨rfl, hC1, ho1⟩; have C1 := hid hC1; have O1 := hid ho1; have A1 := hid (HA'.out.out ho1 a1); have RC := hid (rcancel_c (HR'.out.out ho1 a5.symm)); rw [← e1] at RC)
      | (go_at_call 39; refine RC.out.mono ?_; rintro _ w2 ⟨rfl, hR2, ho2⟩; have R2 := hid hR2; have O2 := hid ho2; have A2 := hid (A1.out.out ho2 a2)))
  go_wp2
  go_ret
  have o12 : Ou (Five B c r s t) W w2 := (((Ou.refl _ W).drew).trans (O1.out.mono fun k e => .inr (.inl e))).trans (O2.out.mono fun k e => .inr (.inr (.inl e)))
  refine ⟨by first | rfl | exact ret_bool (by simp), ⟨l, cancelS C, rcancelS R, F, ⟨A2.out, C1.out.out O2.out a5, R2.out, ?_, ?_, RL.out, cwf_cancel HB.out.wc, cwf_rcancel HB.out.wr, HB.out.wf, HB.out.wl⟩⟩, (Ou.of HB0.out).trans o12⟩
  · exact (HB.out.hs.out (S := fun _ => False) ((Ou.refl _ W).drew) id).out O1.out a6.symm |>.out O2.out a8.symm
  · exact (HB.out.ht.out (S := fun _ => False) ((Ou.refl _ W).drew) id).out O1.out a7.symm |>.out O2.out a9.symm
end Go.Proofs.Ytjgpolaogneoaaa
