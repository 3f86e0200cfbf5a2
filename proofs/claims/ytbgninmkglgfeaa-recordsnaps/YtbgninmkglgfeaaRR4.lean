/-
  The document's ReadOp.
-/
import Derived.Test.YtbgninmkglgfeaaRR3
namespace Go.Proofs.Ytbgninmkglgfeaa
open Go.RowKit Go.ChangeShapes Go.WideShapes Go.ChangeAt
set_option linter.unusedVariables false
set_option linter.unusedSimpArgs false
set_option maxRecDepth 100000
/-- Where bytes that came in lie, if there are any. -/
def Lies2 (w : World) (a : Option Addr) (n c : Nat) : Prop := (n = 0 ∧ (a = none → c = 0)) ∨ ∃ b off, a = some ⟨b, off, none⟩ ∧ b < w.heap.size
theorem rdr_box {w W : World} {a : Option Addr} {n c r : Nat} {zs : List Int} (h : IsB w a n zs) (hc : n ≤ c) (hl : Lies2 w a n c) (hb : Below w.heap.size w W) (hr : w.heap.size ≤ r) (hx : W.heap[r]? = some (.cells #[.slice a n c, .bool false] 63 (0, 0))) : RdR W r false zs := by
  refine ⟨a, n, c, hx, h.later hb, hc, ?_⟩
  rcases hl with h0 | ⟨b, off, rfl, h1⟩
  · exact .inl h0
  · exact .inr ⟨b, off, rfl, by omega⟩
theorem opAll_of {zs z : List Int} {x : Rec} {b : Bool} (h : opP zs = bif b then none else some (x, z)) : opAll zs = if b = false ∧ z.length = 0 then some x else none := by
  unfold opAll
  rw [h]
  cases b with
  | true => rfl
  | false =>
    cases z with
    | nil => rfl
    | cons u t => rfl
set_option maxHeartbeats 4000000 in
theorem rReadOp_c (a : Option Addr) (n c : Nat) (zs : List Int) (w : World) (h : IsB w a n zs) (hc : n ≤ c) (hl : Lies2 w a n c) :
    Calls Try.prog 8 #[.slice a n c] w fun e w' => e = .returned (readV (opAll zs)) ∧ Below w.heap.size w w' := by
  have b0 := below_1 w (.cells Rec.no.ops.toArray 29)
  have b1 := below_1 (w.alloc (.cells Rec.no.ops.toArray 29)) (.cells #[.slice a n c, .bool false] 63)
  have hA := heap_alloc_new w (.cells Rec.no.ops.toArray 29)
  have hB := heap_alloc_new (w.alloc (.cells Rec.no.ops.toArray 29)) (.cells #[.slice a n c, .bool false] 63)
  rw [show (w.alloc (.cells Rec.no.ops.toArray 29)).heap.size = w.heap.size + 1 by simp] at hB
  have hA2 := (b1.block _ (lt_blkR hA)).trans hA
  have bV := b0.trans (b1.mono b0.size)
  have OC := hid (rdOp_e (rdr_box h hc hl bV (Nat.le_succ _) hB))
  have HA := hid hA2
  have K0 : Hid (Kf (w.heap.size + 1) w ((w.alloc (.cells Rec.no.ops.toArray 29)).alloc (.cells #[.slice a n c, .bool false] 63))) := hid (Kf.of bV)
  clear b0 b1 hA hB hA2 bV h hc hl
  obtain ⟨RV, hRV⟩ : ∃ RV, RV = readV (opAll zs) := ⟨_, rfl⟩
  rw [← hRV]
  have HRV := hid hRV
  clear hRV
  go_enter Try.func8, Try.ntmps8
  go_upto_region 3 with (go_at_call 25; refine OC.out.mono ?_; rintro _ w1 ⟨⟨n0, n1, n2, s3, n4, s5, n6, s7, sn⟩, b, z, rfl, hk1, hr1, hp1, _⟩; have hp1v := hp1 rfl; clear hp1; unfold Rec.opV)
  have PA := hid (opAll_of hp1v)
  have HA1 := hid ((hk1.block _ (lt_blkR HA.out) (by omega)).trans HA.out)
  have b2 := below_1 w1 (.cells #[.int .u8 n0, .int .u32 n1, .int .u32 n2, .string s3, .int .u32 n4, .string s5, .int .u16 n6, .string s7] 29)
  have HA2 := hid ((b2.block _ (lt_blkR HA1.out)).trans HA1.out)
  have K2 := hid ((K0.out.trans hk1).trans (Kf.of b2))
  obtain ⟨ra, rl, rc, rbox, rI, _⟩ := hr1.later b2
  obtain ⟨rb0, rb1, _, _⟩ := cellsF rbox
  have hzl : z.length = rl := rI.1
  have HO := hid (heap_alloc_new w1 (.cells #[.int .u8 n0, .int .u32 n1, .int .u32 n2, .string s3, .int .u32 n4, .string s5, .int .u16 n6, .string s7] 29))
  obtain ⟨a0, d0⟩ := cellN HA2.out 0 rfl
  obtain ⟨a1, d1⟩ := cellN HA2.out 1 rfl
  obtain ⟨a2, d2⟩ := cellN HA2.out 2 rfl
  obtain ⟨a3, d3⟩ := cellN HA2.out 3 rfl
  obtain ⟨a4, d4⟩ := cellN HA2.out 4 rfl
  obtain ⟨a5, d5⟩ := cellN HA2.out 5 rfl
  obtain ⟨a6, d6⟩ := cellN HA2.out 6 rfl
  obtain ⟨a7, d7⟩ := cellN HA2.out 7 rfl
  clear rbox rI hr1 hp1v hk1 b2 HA1 HA K0 OC
  cases b with
  | true =>
    have EP : Hid (RV = readV none) := hid (by rw [HRV.out, PA.out]; rfl)
    clear PA HRV hzl
    go_wp2
    have CH := op_chain (n0 := 0) (n1 := 0) (n2 := 0) (s3 := ⟨#[]⟩) (n4 := 0) (s5 := ⟨#[]⟩) (n6 := 0) (s7 := ⟨#[]⟩) HA2.out
    have KF : Hid (Kf (w.heap.size + 1) w (opW w.heap.size 0 0 0 ⟨#[]⟩ 0 ⟨#[]⟩ 0 ⟨#[]⟩ (w1.alloc (.cells #[.int .u8 n0, .int .u32 n1, .int .u32 n2, .string s3, .int .u32 n4, .string s5, .int .u16 n6, .string s7] 29)))) := hid (opW_kf K2.out)
    change bodyPost _ _ _ _ _ (opW w.heap.size 0 0 0 ⟨#[]⟩ 0 ⟨#[]⟩ 0 ⟨#[]⟩ (w1.alloc (.cells #[.int .u8 n0, .int .u32 n1, .int .u32 n2, .string s3, .int .u32 n4, .string s5, .int .u16 n6, .string s7] 29)))
    generalize (opW w.heap.size 0 0 0 ⟨#[]⟩ 0 ⟨#[]⟩ 0 ⟨#[]⟩ (w1.alloc (.cells #[.int .u8 n0, .int .u32 n1, .int .u32 n2, .string s3, .int .u32 n4, .string s5, .int .u16 n6, .string s7] 29))) = Wf at *
    obtain ⟨z0, z1, z2, z3, z4, z5, z6, z7⟩ := op_all (x := ⟨0, 0, 0, ⟨#[]⟩, 0, ⟨#[]⟩, 0, ⟨#[]⟩, 0⟩) CH
    simp only at z0 z1 z2 z3 z4 z5 z6 z7
    refine bodyPost_ret (v := .tuple #[.agg #[.int .u8 0, .int .u32 0, .int .u32 0, .string ⟨#[]⟩, .int .u32 0, .string ⟨#[]⟩, .int .u16 0, .string ⟨#[]⟩], .int .i64 3]) (by simp [results, Try.results8, go_sem, z0, z1, z2, z3, z4, z5, z6, z7]) rfl ⟨?_, KF.out.below (Nat.le_refl _) (Nat.le_succ _)⟩
    rw [EP.out]; rfl
  | false =>
    by_cases q : rl = 0
    · have EP : Hid (RV = readV (some ⟨n0, n1, n2, s3, n4, s5, n6, s7, sn⟩)) := hid (by rw [HRV.out, PA.out, if_pos ⟨rfl, by omega⟩])
      subst q
      clear PA HRV hzl
      go_wp2
      have CH := op_chain (n0 := n0) (n1 := n1) (n2 := n2) (s3 := s3) (n4 := n4) (s5 := s5) (n6 := n6) (s7 := s7) HA2.out
      have KF : Hid (Kf (w.heap.size + 1) w (opW w.heap.size n0 n1 n2 s3 n4 s5 n6 s7 (w1.alloc (.cells #[.int .u8 n0, .int .u32 n1, .int .u32 n2, .string s3, .int .u32 n4, .string s5, .int .u16 n6, .string s7] 29)))) := hid (opW_kf K2.out)
      change bodyPost _ _ _ _ _ (opW w.heap.size n0 n1 n2 s3 n4 s5 n6 s7 (w1.alloc (.cells #[.int .u8 n0, .int .u32 n1, .int .u32 n2, .string s3, .int .u32 n4, .string s5, .int .u16 n6, .string s7] 29)))
      generalize (opW w.heap.size n0 n1 n2 s3 n4 s5 n6 s7 (w1.alloc (.cells #[.int .u8 n0, .int .u32 n1, .int .u32 n2, .string s3, .int .u32 n4, .string s5, .int .u16 n6, .string s7] 29))) = Wf at *
      obtain ⟨z0, z1, z2, z3, z4, z5, z6, z7⟩ := op_all (x := ⟨n0, n1, n2, s3, n4, s5, n6, s7, 0⟩) CH
      simp only at z0 z1 z2 z3 z4 z5 z6 z7
      refine bodyPost_ret (v := .tuple #[.agg #[.int .u8 n0, .int .u32 n1, .int .u32 n2, .string s3, .int .u32 n4, .string s5, .int .u16 n6, .string s7], .int .i64 0]) (by simp [results, Try.results8, go_sem, z0, z1, z2, z3, z4, z5, z6, z7]) rfl ⟨?_, KF.out.below (Nat.le_refl _) (Nat.le_succ _)⟩
      rw [EP.out]; rfl
    · have EP : Hid (RV = readV none) := hid (by rw [HRV.out, PA.out, if_neg (fun h => q (by omega))])
      have qB : ((rl : Int) != 0) = true := by rw [bne_iff_ne]; omega
      clear PA HRV hzl
      go_wp2
      have CH := op_chain (n0 := 0) (n1 := 0) (n2 := 0) (s3 := ⟨#[]⟩) (n4 := 0) (s5 := ⟨#[]⟩) (n6 := 0) (s7 := ⟨#[]⟩) HA2.out
      have KF : Hid (Kf (w.heap.size + 1) w (opW w.heap.size 0 0 0 ⟨#[]⟩ 0 ⟨#[]⟩ 0 ⟨#[]⟩ (w1.alloc (.cells #[.int .u8 n0, .int .u32 n1, .int .u32 n2, .string s3, .int .u32 n4, .string s5, .int .u16 n6, .string s7] 29)))) := hid (opW_kf K2.out)
      change bodyPost _ _ _ _ _ (opW w.heap.size 0 0 0 ⟨#[]⟩ 0 ⟨#[]⟩ 0 ⟨#[]⟩ (w1.alloc (.cells #[.int .u8 n0, .int .u32 n1, .int .u32 n2, .string s3, .int .u32 n4, .string s5, .int .u16 n6, .string s7] 29)))
      generalize (opW w.heap.size 0 0 0 ⟨#[]⟩ 0 ⟨#[]⟩ 0 ⟨#[]⟩ (w1.alloc (.cells #[.int .u8 n0, .int .u32 n1, .int .u32 n2, .string s3, .int .u32 n4, .string s5, .int .u16 n6, .string s7] 29))) = Wf at *
      obtain ⟨z0, z1, z2, z3, z4, z5, z6, z7⟩ := op_all (x := ⟨0, 0, 0, ⟨#[]⟩, 0, ⟨#[]⟩, 0, ⟨#[]⟩, 0⟩) CH
      simp only at z0 z1 z2 z3 z4 z5 z6 z7
      refine bodyPost_ret (v := .tuple #[.agg #[.int .u8 0, .int .u32 0, .int .u32 0, .string ⟨#[]⟩, .int .u32 0, .string ⟨#[]⟩, .int .u16 0, .string ⟨#[]⟩], .int .i64 3]) (by simp [results, Try.results8, go_sem, z0, z1, z2, z3, z4, z5, z6, z7]) rfl ⟨?_, KF.out.below (Nat.le_refl _) (Nat.le_succ _)⟩
      rw [EP.out]; rfl
end Go.Proofs.Ytbgninmkglgfeaa
