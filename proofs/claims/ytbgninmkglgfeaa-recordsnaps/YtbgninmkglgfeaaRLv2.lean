/-
  live of the law on record.
-/
import Derived.Test.YtbgninmkglgfeaaRLv
namespace Go.Proofs.Ytbgninmkglgfeaa
open Go.RowKit Go.ChangeShapes Go.WideShapes Go.ChangeAt Go.Maps Go.Shelf
set_option linter.unusedVariables false
set_option linter.unusedSimpArgs false
set_option maxRecDepth 100000
def lvo : Rec := ⟨5, 0, 1, ⟨#[97]⟩, 0, ⟨#[]⟩, 0, ⟨#[]⟩, 0⟩
theorem lvo_wf : lvo.Wf := by unfold Rec.Wf lvo maxLen; decide
theorem lvo_right : rightF lvo = true := by decide +kernel
theorem lvo_all : opAll (opB lvo) = some lvo := by
  have h : (match opAll (opB lvo) with | some x => x.k == lvo.k && x.fid == lvo.fid && x.dir == lvo.dir && x.nm.data.toList == lvo.nm.data.toList && x.to == lvo.to && x.nm2.data.toList == lvo.nm2.data.toList && x.md == lvo.md && x.dt.data.toList == lvo.dt.data.toList && x.sn == lvo.sn | none => false) = true := by decide +kernel
  cases ho : opAll (opB lvo) with
  | none => rw [ho] at h; cases h
  | some x =>
    rw [ho] at h
    simp only [Bool.and_eq_true, beq_iff_eq] at h
    obtain ⟨⟨⟨⟨⟨⟨⟨⟨h1, h2⟩, h3⟩, h4⟩, h5⟩, h6⟩, h7⟩, h8⟩, h9⟩ := h
    obtain ⟨k, fid, dir, nm, tt, nm2, md, dt, sn⟩ := x
    have e4 : nm = lvo.nm := by cases nm; simp only at h4; congr 1; exact Array.ext' h4
    have e6 : nm2 = lvo.nm2 := by cases nm2; simp only at h6; congr 1; exact Array.ext' h6
    have e8 : dt = lvo.dt := by cases dt; simp only at h8; congr 1; exact Array.ext' h8
    simp only at h1 h2 h3 h5 h7 h9
    subst h1 h2 h3 e4 h5 e6 h7 e8 h9
    rfl
theorem lvo_len : (opB lvo).length = 19 := by decide +kernel
theorem recs_nil : recsA [] = [0] := by decide +kernel
theorem isL_nil (w : World) : IsL w none [] := ⟨Nat.zero_le _, fun x hx => (by cases hx), fun hp => absurd hp (by simp)⟩
set_option maxHeartbeats 2000000 in
theorem rlive_c (w : World) : Calls Try.prog 13 #[] w fun e w' => e = .returned (.bool true) ∧ Below w.heap.size w w' := by
  have hx := heap_alloc_new w (.cells lvo.ops.toArray 29)
  have B0 := hid (below_1 w (.cells lvo.ops.toArray 29))
  have OC := hid (op_c lvo (w.alloc (.cells lvo.ops.toArray 29)) lvo_wf)
  rw [lvo_right] at OC
  simp only [if_true] at OC
  have HX := hid hx
  have hq : ∀ W : World, (Op.equalIn 10000 29 lvo.opV lvo.opV).run Try.prog W = .ok true W := by
    obtain ⟨r, hr, hrun⟩ := ops_equal lvo_wf lvo_wf
    have : r = true := hr.2 rfl
    rw [this] at hrun
    exact hrun
  have hg := ops_guard
  have HRC := hid (fun W => records_c none 0 [] W (isL_nil W) (by simp))
  have h1 : recsOk [] = true := by decide +kernel
  rw [h1, recs_nil] at HRC
  simp only [if_true] at HRC
  have HLN := hid lvo_len
  have HAL := hid lvo_all
  have HIN := hid (opB_in lvo)
  generalize hys : opB lvo = ys at *
  clear hx h1 hys
  unfold Rec.opV lvo at hq
  unfold Rec.opV at OC
  go_enter Try.func13, Try.ntmps13
  go_wp2_with (first
    | (go_at_call 35; refine (HRC.out _).mono ?_; rintro _ w4 ⟨⟨v4, rfl, hO4⟩, hb4⟩
       have B4 := hid (B3.out.trans (hb4.mono B3.out.size))
       obtain ⟨a4, c4, rfl, hI4, hc4, _⟩ := isB_ownR hO4 (by simp)
       obtain ⟨g4, o4, rfl, hcell4⟩ := hI4.2.2.1 (by simp)
       have k4 : w4.cell? ⟨g4, o4, none⟩ = some (.int .u8 0) := hcell4 0 (by simp)
       obtain ⟨p0, p1, p2, p3, p4, p5, p6, p7⟩ := op_all ((hb4.block _ (lt_blkR HX3.out)).trans HX3.out)
       obtain ⟨q0, q1, q2, q3, q4, q5, q6, q7⟩ := op_all ((hb4.block _ (lt_blkR HP3.out)).trans HP3.out)
       unfold lvo at p0 p1 p2 p3 p4 p5 p6 p7 q0 q1 q2 q3 q4 q5 q6 q7
       clear hO4 hI4 hcell4 hb4)
    | (go_at_call 7; refine RD.out.mono ?_; rintro _ w2 ⟨rfl, hb2⟩
       have b3 := below_1 w2 (.cells lvo.ops.toArray 29)
       have B3 := hid ((B1.out.trans (hb2.mono B1.out.size)).trans (b3.mono (Nat.le_trans B1.out.size hb2.size)))
       have HP3 := hid (heap_alloc_new w2 (.cells lvo.ops.toArray 29))
       have HX3 := hid ((b3.block _ (lt_blkR ((hb2.block _ (lt_blkR HX1.out)).trans HX1.out))).trans ((hb2.block _ (lt_blkR HX1.out)).trans HX1.out))
       clear hb2 b3)
    | (go_at_call 34; refine OC.out.mono ?_; rintro _ w1 ⟨⟨v1, rfl, hO1⟩, hb1⟩
       have B1 := hid (B0.out.trans (hb1.mono B0.out.size))
       have HX1 := hid ((hb1.block _ (lt_blkR HX.out)).trans HX.out)
       obtain ⟨a1, c1, rfl, hI1, hc1, hL1⟩ := isB_ownR hO1 HIN.out
       have RD := hid (readOp_c a1 ys.length c1 ys w1 hI1 hc1 hL1)
       rw [HAL.out] at RD
       simp only [readV] at RD
       unfold Rec.opV lvo at RD
       rw [HLN.out] at RD
       rw [HLN.out]
       clear hO1 hI1 hb1))
  go_ret
  exact ⟨by first | rfl | simp, B4.out⟩
end Go.Proofs.Ytbgninmkglgfeaa
