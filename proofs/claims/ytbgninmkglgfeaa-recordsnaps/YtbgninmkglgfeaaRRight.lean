/-
  Which operations are right: RightOp of the package tree.
-/
import Derived.Test.YtbgninmkglgfeaaPName
import Derived.Test.YtbgninmkglgfeaaCBase
import Derived.Deep.CutRange
namespace Go.Proofs.Ytbgninmkglgfeaa
open Go.RowKit Go.ChangeShapes Go.WideShapes Go.ChangeAt
set_option linter.unusedVariables false
set_option linter.unusedSimpArgs false
/-- The parts that a kind names. -/
def pFid (k : Int) : Bool := k == 1 || k == 2 || k == 3 || k == 4 || k == 8 || k == 9
def pEnt (k : Int) : Bool := k == 1 || k == 2 || k == 3 || k == 4 || k == 5 || k == 6 || k == 7
def pGoal (k : Int) : Bool := k == 7
def pMode (k : Int) : Bool := k == 1 || k == 2 || k == 3 || k == 9
def pData (k : Int) : Bool := k == 3 || k == 8
def pOk (k : Int) : Bool := k == 1 || k == 2 || k == 3 || k == 4 || k == 5 || k == 6 || k == 7 || k == 8 || k == 9
def mkF (k : Int) : Bool := k == 1 || k == 2 || k == 3
def partsV (k : Int) : Value := .agg #[.bool (pFid k), .bool (pEnt k), .bool (pGoal k), .bool (pMode k), .bool (pData k)]
def entF (named : Bool) (f : Int) (s : ByteArray) : Bool := if named then f != 0 && Pa.nameB s.data.toList else f == 0 && s.toList == []
def datF (named : Bool) (s : ByteArray) : Bool := if named then decide (s.size ≤ 64) else s.toList == []
def rightF (x : Rec) : Bool := !(!pOk x.k || (pFid x.k != (x.fid != 0)) || (mkF x.k && x.fid == 1)) && (entF (pEnt x.k) x.dir x.nm && entF (pGoal x.k) x.to x.nm2 && (pMode x.k || x.md == 0) && datF (pData x.k) x.dt)
set_option maxRecDepth 20000 in
set_option maxHeartbeats 2000000 in
theorem partsOf_c (k : Int) (w : World) :
    Calls Try.prog 95 #[.int .u8 k] w fun e w' => e = .returned (.tuple #[partsV k, .bool (pOk k)]) ∧ Below w.heap.size w w' := by
  have key : ∀ b1 b2 b3 b4 b5 b6 b7 b8 b9 : Bool, (k == 1) = b1 → (k == 2) = b2 → (k == 3) = b3 → (k == 4) = b4 → (k == 5) = b5 → (k == 6) = b6 → (k == 7) = b7 → (k == 8) = b8 → (k == 9) = b9 → ((b1, b2, b3, b4, b5, b6, b7, b8, b9) = (false, false, false, false, false, false, false, false, false) ∨ (b1, b2, b3, b4, b5, b6, b7, b8, b9) = (true, false, false, false, false, false, false, false, false) ∨ (b1, b2, b3, b4, b5, b6, b7, b8, b9) = (false, true, false, false, false, false, false, false, false) ∨ (b1, b2, b3, b4, b5, b6, b7, b8, b9) = (false, false, true, false, false, false, false, false, false) ∨ (b1, b2, b3, b4, b5, b6, b7, b8, b9) = (false, false, false, true, false, false, false, false, false) ∨ (b1, b2, b3, b4, b5, b6, b7, b8, b9) = (false, false, false, false, true, false, false, false, false) ∨ (b1, b2, b3, b4, b5, b6, b7, b8, b9) = (false, false, false, false, false, true, false, false, false) ∨ (b1, b2, b3, b4, b5, b6, b7, b8, b9) = (false, false, false, false, false, false, true, false, false) ∨ (b1, b2, b3, b4, b5, b6, b7, b8, b9) = (false, false, false, false, false, false, false, true, false) ∨ (b1, b2, b3, b4, b5, b6, b7, b8, b9) = (false, false, false, false, false, false, false, false, true)) → Calls Try.prog 95 #[.int .u8 k] w fun e w' => e = .returned (.tuple #[partsV k, .bool (pOk k)]) ∧ Below w.heap.size w w' := by
    intro b1 b2 b3 b4 b5 b6 b7 b8 b9 h1 h2 h3 h4 h5 h6 h7 h8 h9 hh
    simp only [Prod.mk.injEq] at hh
    have HV : Hid (partsV k = .agg #[.bool (b1 || b2 || b3 || b4 || b8 || b9), .bool (b1 || b2 || b3 || b4 || b5 || b6 || b7), .bool b7, .bool (b1 || b2 || b3 || b9), .bool (b3 || b8)]) := hid (by unfold partsV pFid pEnt pGoal pMode pData; rw [h1, h2, h3, h4, h5, h6, h7, h8, h9])
    have HO : Hid (pOk k = (b1 || b2 || b3 || b4 || b5 || b6 || b7 || b8 || b9)) := hid (by unfold pOk; rw [h1, h2, h3, h4, h5, h6, h7, h8, h9])
    rcases hh with ⟨rfl, rfl, rfl, rfl, rfl, rfl, rfl, rfl, rfl⟩ | ⟨rfl, rfl, rfl, rfl, rfl, rfl, rfl, rfl, rfl⟩ | ⟨rfl, rfl, rfl, rfl, rfl, rfl, rfl, rfl, rfl⟩ | ⟨rfl, rfl, rfl, rfl, rfl, rfl, rfl, rfl, rfl⟩ | ⟨rfl, rfl, rfl, rfl, rfl, rfl, rfl, rfl, rfl⟩ | ⟨rfl, rfl, rfl, rfl, rfl, rfl, rfl, rfl, rfl⟩ | ⟨rfl, rfl, rfl, rfl, rfl, rfl, rfl, rfl, rfl⟩ | ⟨rfl, rfl, rfl, rfl, rfl, rfl, rfl, rfl, rfl⟩ | ⟨rfl, rfl, rfl, rfl, rfl, rfl, rfl, rfl, rfl⟩ | ⟨rfl, rfl, rfl, rfl, rfl, rfl, rfl, rfl, rfl⟩
    all_goals
      go_enter Try.func95, Try.ntmps95
      go_wp2
      refine bodyPost_ret (v := .tuple #[partsV k, .bool (pOk k)]) (by rw [HV.out, HO.out]; simp [results, Try.results95, go_sem]) rfl ⟨rfl, ?_⟩
      exact (Below.refl _ _).alloc (Nat.le_refl _) _
  refine key _ _ _ _ _ _ _ _ _ rfl rfl rfl rfl rfl rfl rfl rfl rfl ?_
  by_cases q1 : k = 1
  · subst q1; simp
  by_cases q2 : k = 2
  · subst q2; simp
  by_cases q3 : k = 3
  · subst q3; simp
  by_cases q4 : k = 4
  · subst q4; simp
  by_cases q5 : k = 5
  · subst q5; simp
  by_cases q6 : k = 6
  · subst q6; simp
  by_cases q7 : k = 7
  · subst q7; simp
  by_cases q8 : k = 8
  · subst q8; simp
  by_cases q9 : k = 9
  · subst q9; simp
  left
  simp [q1, q2, q3, q4, q5, q6, q7, q8, q9]
set_option maxHeartbeats 1000000 in
theorem tmakes_c (k : Int) (w : World) : Calls Try.prog 96 #[.int .u8 k] w fun e w' => e = .returned (.bool (mkF k)) ∧ w' = w := by
  unfold mkF
  cases e1 : (k == 1) <;> cases e2 : (k == 2) <;> cases e3 : (k == 3) <;> (go_enter Try.func96, Try.ntmps96; go_wp2; go_ret; exact ⟨by first | rfl | simp_all, rfl⟩)
set_option maxHeartbeats 1000000 in
theorem rightEntry_c (b : Bool) (f : Int) (s : ByteArray) (w : World) (hs : s.size ≤ maxLen) :
    Calls Try.prog 97 #[.bool b, .int .u32 f, .string s] w fun e w' => e = .returned (.bool (entF b f s)) ∧ Below w.heap.size w w' := by
  have NC := hid (name_c s w hs)
  unfold entF
  cases b with
  | false =>
    simp only [Bool.false_eq_true, if_false]
    cases e1 : (f == 0) with
    | false =>
      go_enter Try.func97, Try.ntmps97
      go_wp2
      go_ret
      exact ⟨rfl, Below.refl _ _⟩
    | true =>
      cases e2 : (s.toList == [])
      all_goals
        go_enter Try.func97, Try.ntmps97
        go_wp2
        go_ret
        exact ⟨by first | rfl | simp_all, Below.refl _ _⟩
  | true =>
    simp only [if_true]
    cases e1 : (f != 0) with
    | false =>
      go_enter Try.func97, Try.ntmps97
      go_wp2
      go_ret
      exact ⟨rfl, Below.refl _ _⟩
    | true =>
      generalize Pa.nameB s.data.toList = N at *
      go_enter Try.func97, Try.ntmps97
      go_wp2_with (go_at_call 111; refine NC.out.mono ?_; rintro _ w1 ⟨rfl, hb1⟩)
      go_ret
      exact ⟨rfl, hb1⟩
set_option maxHeartbeats 1000000 in
theorem rightData_c (b : Bool) (s : ByteArray) (w : World) :
    Calls Try.prog 98 #[.bool b, .string s] w fun e w' => e = .returned (.bool (datF b s)) ∧ w' = w := by
  unfold datF
  cases b with
  | false =>
    simp only [Bool.false_eq_true, if_false]
    cases e2 : (s.toList == [])
    all_goals
      go_enter Try.func98, Try.ntmps98
      go_wp2
      go_ret
      exact ⟨by first | rfl | simp_all, rfl⟩
  | true =>
    simp only [if_true]
    by_cases h : s.size ≤ 64
    · have hI : (s.size : Int) ≤ 64 := by omega
      go_enter Try.func98, Try.ntmps98
      go_wp2
      go_ret
      exact ⟨by simp [h], rfl⟩
    · have hI : ¬ (s.size : Int) ≤ 64 := by omega
      go_enter Try.func98, Try.ntmps98
      go_wp2
      go_ret
      exact ⟨by simp [h], rfl⟩
theorem parts_cells {w : World} {g : Nat} {k : Int} {t : TypeId} {fr : Nat × Nat} (h : w.heap[g]? = some (.cells #[.bool (pFid k), .bool (pEnt k), .bool (pGoal k), .bool (pMode k), .bool (pData k)] t fr)) : w.cell? ⟨g, 0, none⟩ = some (.bool (pFid k)) ∧ w.cell? ⟨g, 1, none⟩ = some (.bool (pEnt k)) ∧ w.cell? ⟨g, 2, none⟩ = some (.bool (pGoal k)) ∧ w.cell? ⟨g, 3, none⟩ = some (.bool (pMode k)) ∧ w.cell? ⟨g, 4, none⟩ = some (.bool (pData k)) := by
  refine ⟨?_, ?_, ?_, ?_, ?_⟩ <;> (rw [cell_of_row w g _ _ t fr h]; rfl)
theorem op_all {w : World} {g : Nat} {x : Rec} {t : TypeId} {fr : Nat × Nat} (h : w.heap[g]? = some (.cells x.ops.toArray t fr)) : w.cell? ⟨g, 0, none⟩ = some (.int .u8 x.k) ∧ w.cell? ⟨g, 1, none⟩ = some (.int .u32 x.fid) ∧ w.cell? ⟨g, 2, none⟩ = some (.int .u32 x.dir) ∧ w.cell? ⟨g, 3, none⟩ = some (.string x.nm) ∧ w.cell? ⟨g, 4, none⟩ = some (.int .u32 x.to) ∧ w.cell? ⟨g, 5, none⟩ = some (.string x.nm2) ∧ w.cell? ⟨g, 6, none⟩ = some (.int .u16 x.md) ∧ w.cell? ⟨g, 7, none⟩ = some (.string x.dt) := by
  refine ⟨?_, ?_, ?_, ?_, ?_, ?_, ?_, ?_⟩ <;> (rw [cell_of_row w g _ _ t fr h]; rfl)
theorem below_1 (w : World) (o : Obj) : Below w.heap.size w (w.alloc o) := (Below.refl _ _).alloc (Nat.le_refl _) _
set_option maxRecDepth 20000 in
set_option maxHeartbeats 2000000 in
theorem rightOp_c (x : Rec) (w : World) (h3 : x.nm.size ≤ maxLen) (h5 : x.nm2.size ≤ maxLen) :
    Calls Try.prog 55 #[x.opV] w fun e w' => e = .returned (.bool (rightF x)) ∧ Below w.heap.size w w' := by
  have hx : (w.alloc (.cells x.ops.toArray 29)).heap[w.heap.size]? = some (.cells x.ops.toArray 29 (0, 0)) := heap_alloc_new w _
  obtain ⟨y0, y1, y2, y3, y4, y5, y6, y7⟩ := op_all hx
  have HX := hid hx
  have B0 := hid (below_1 w (.cells x.ops.toArray 29))
  have PC := hid (partsOf_c x.k (w.alloc (.cells x.ops.toArray 29)))
  have MC := hid (tmakes_c x.k)
  have E1 := hid (fun W => rightEntry_c (pEnt x.k) x.dir x.nm W h3)
  have E2 := hid (fun W => rightEntry_c (pGoal x.k) x.to x.nm2 W h5)
  have DC := hid (rightData_c (pData x.k) x.dt)
  unfold Rec.opV rightF
  unfold partsV at PC
  have PL := hid (fun (W : World) (g : Nat) (h : W.heap[g]? = some (.cells #[.bool (pFid x.k), .bool (pEnt x.k), .bool (pGoal x.k), .bool (pMode x.k), .bool (pData x.k)] 137 (0, 0))) => parts_cells (k := x.k) h)
  clear hx h3 h5
  generalize entF (pEnt x.k) x.dir x.nm = e1 at *
  generalize entF (pGoal x.k) x.to x.nm2 = e2 at *
  generalize datF (pData x.k) x.dt = dd at *
  generalize pFid x.k = pf at *
  generalize pEnt x.k = pe at *
  generalize pGoal x.k = pg at *
  generalize pMode x.k = pm at *
  generalize pData x.k = pd at *
  generalize pOk x.k = ok at *
  generalize mkF x.k = mk at *
  obtain ⟨m0, hm0⟩ : ∃ m0, m0 = (x.md == 0) := ⟨_, rfl⟩
  obtain ⟨f0, hf0⟩ : ∃ f0, f0 = (x.fid != 0) := ⟨_, rfl⟩
  obtain ⟨f1, hf1⟩ : ∃ f1, f1 = (x.fid == 1) := ⟨_, rfl⟩
  rw [← hm0, ← hf0, ← hf1]
  obtain ⟨b2, hb2⟩ : ∃ b2, b2 = (!ok || (pf != f0) || (mk && f1)) := ⟨_, rfl⟩
  rw [← hb2]
  have HB2 := hid hb2
  have g1 := hm0.symm
  have g2 := hf0.symm
  have g3 := hf1.symm
  clear hm0 hf0 hf1 hb2
  go_enter Try.func55, Try.ntmps55
  go_upto_region 2 with (go_at_call 95; refine PC.out.mono ?_; rintro _ w1 ⟨rfl, hb1⟩; have B1 := hid (B0.out.trans (hb1.mono B0.out.size)); have HX1 := hid ((hb1.block _ (lt_blkR HX.out)).trans HX.out); clear hb1)
  have hp2 := heap_alloc_new w1 (.cells #[.bool pf, .bool pe, .bool pg, .bool pm, .bool pd] 137)
  have HP2 := hid hp2
  have B2 := hid (B1.out.trans ((below_1 w1 (.cells #[.bool pf, .bool pe, .bool pg, .bool pm, .bool pd] 137)).mono B1.out.size))
  have HX2 := hid (((below_1 w1 (.cells #[.bool pf, .bool pe, .bool pg, .bool pm, .bool pd] 137)).block _ (lt_blkR HX1.out)).trans HX1.out)
  obtain ⟨p0, p1, p2, p3, p4⟩ := PL.out _ _ hp2
  obtain ⟨z0, z1, z2, z3, z4, z5, z6, z7⟩ := op_all HX2.out
  clear hp2 y0 y1 y2 y3 y4 y5 y6 y7 PC HX HX1 B0 B1
  generalize w1.alloc (.cells #[.bool pf, .bool pe, .bool pg, .bool pm, .bool pd] 137) = w2 at *
  generalize w1.heap.size = G at *
  go_cut [30] from 11 to 30 (fun s30 wx => s30 = .bool b2 ∧ wx = w2)
  case first =>
    cases ok <;> cases pf <;> cases f0 <;> cases mk <;> cases f1
    all_goals
      go_wp2_with (go_at_call 96; refine (MC.out _).mono ?_; rintro _ _ ⟨rfl, rfl⟩)
      go_meet
      exact ⟨by rw [HB2.out]; rfl, rfl⟩
  case rest =>
    obtain ⟨rfl, rfl⟩ := hcut
    cases b2 with
    | true =>
      go_wp2
      go_ret
      exact ⟨rfl, B2.out⟩
    | false =>
      clear HB2 MC
      cases e1 with
      | false =>
        go_wp2_with (first
          | (go_at_call 98; refine (DC.out _).mono ?_; rintro _ _ ⟨rfl, rfl⟩)
          | (have _t := T1.out; go_at_call 97; refine (E2.out _).mono ?_; rintro _ w4 ⟨rfl, hb4⟩; have B4 := hid (B3.out.trans (hb4.mono B3.out.size)); have HX4 := (hb4.block _ (lt_blkR HX3.out)).trans HX3.out; have HP4 := (hb4.block _ (lt_blkR HP3.out)).trans HP3.out; obtain ⟨c0, c1, c2, c3, c4, c5, c6, c7⟩ := op_all HX4; obtain ⟨d0, d1, d2, d3, d4⟩ := PL.out _ _ HP4; clear hb4 HX4 HP4 T1)
          | (go_at_call 97; refine (E1.out _).mono ?_; rintro _ w3 ⟨rfl, hb3⟩; have B3 := hid (B2.out.trans (hb3.mono B2.out.size)); have HX3 := hid ((hb3.block _ (lt_blkR HX2.out)).trans HX2.out); have HP3 := hid ((hb3.block _ (lt_blkR HP2.out)).trans HP2.out); obtain ⟨a0, a1, a2, a3, a4, a5, a6, a7⟩ := op_all HX3.out; obtain ⟨b0, b1, b2, b3, b4⟩ := PL.out _ _ HP3.out; have T1 := hid True.intro; clear hb3))
        go_ret
        exact ⟨by first | rfl | simp, B3.out⟩
      | true =>
        cases e2 with
        | false =>
          go_wp2_with (first
            | (go_at_call 98; refine (DC.out _).mono ?_; rintro _ _ ⟨rfl, rfl⟩)
            | (have _t := T1.out; go_at_call 97; refine (E2.out _).mono ?_; rintro _ w4 ⟨rfl, hb4⟩; have B4 := hid (B3.out.trans (hb4.mono B3.out.size)); have HX4 := (hb4.block _ (lt_blkR HX3.out)).trans HX3.out; have HP4 := (hb4.block _ (lt_blkR HP3.out)).trans HP3.out; obtain ⟨c0, c1, c2, c3, c4, c5, c6, c7⟩ := op_all HX4; obtain ⟨d0, d1, d2, d3, d4⟩ := PL.out _ _ HP4; clear hb4 HX4 HP4 T1)
            | (go_at_call 97; refine (E1.out _).mono ?_; rintro _ w3 ⟨rfl, hb3⟩; have B3 := hid (B2.out.trans (hb3.mono B2.out.size)); have HX3 := hid ((hb3.block _ (lt_blkR HX2.out)).trans HX2.out); have HP3 := hid ((hb3.block _ (lt_blkR HP2.out)).trans HP2.out); obtain ⟨a0, a1, a2, a3, a4, a5, a6, a7⟩ := op_all HX3.out; obtain ⟨b0, b1, b2, b3, b4⟩ := PL.out _ _ HP3.out; have T1 := hid True.intro; clear hb3))
          go_ret
          exact ⟨by first | rfl | simp, B4.out⟩
        | true =>
          cases pm with
          | true =>
            go_wp2_with (first
              | (go_at_call 98; refine (DC.out _).mono ?_; rintro _ _ ⟨rfl, rfl⟩)
              | (have _t := T1.out; go_at_call 97; refine (E2.out _).mono ?_; rintro _ w4 ⟨rfl, hb4⟩; have B4 := hid (B3.out.trans (hb4.mono B3.out.size)); have HX4 := (hb4.block _ (lt_blkR HX3.out)).trans HX3.out; have HP4 := (hb4.block _ (lt_blkR HP3.out)).trans HP3.out; obtain ⟨c0, c1, c2, c3, c4, c5, c6, c7⟩ := op_all HX4; obtain ⟨d0, d1, d2, d3, d4⟩ := PL.out _ _ HP4; clear hb4 HX4 HP4 T1)
              | (go_at_call 97; refine (E1.out _).mono ?_; rintro _ w3 ⟨rfl, hb3⟩; have B3 := hid (B2.out.trans (hb3.mono B2.out.size)); have HX3 := hid ((hb3.block _ (lt_blkR HX2.out)).trans HX2.out); have HP3 := hid ((hb3.block _ (lt_blkR HP2.out)).trans HP2.out); obtain ⟨a0, a1, a2, a3, a4, a5, a6, a7⟩ := op_all HX3.out; obtain ⟨b0, b1, b2, b3, b4⟩ := PL.out _ _ HP3.out; have T1 := hid True.intro; clear hb3))
            go_ret
            exact ⟨by first | rfl | simp, B4.out⟩
          | false =>
            cases m0 with
            | true =>
              go_wp2_with (first
                | (go_at_call 98; refine (DC.out _).mono ?_; rintro _ _ ⟨rfl, rfl⟩)
                | (have _t := T1.out; go_at_call 97; refine (E2.out _).mono ?_; rintro _ w4 ⟨rfl, hb4⟩; have B4 := hid (B3.out.trans (hb4.mono B3.out.size)); have HX4 := (hb4.block _ (lt_blkR HX3.out)).trans HX3.out; have HP4 := (hb4.block _ (lt_blkR HP3.out)).trans HP3.out; obtain ⟨c0, c1, c2, c3, c4, c5, c6, c7⟩ := op_all HX4; obtain ⟨d0, d1, d2, d3, d4⟩ := PL.out _ _ HP4; clear hb4 HX4 HP4 T1)
                | (go_at_call 97; refine (E1.out _).mono ?_; rintro _ w3 ⟨rfl, hb3⟩; have B3 := hid (B2.out.trans (hb3.mono B2.out.size)); have HX3 := hid ((hb3.block _ (lt_blkR HX2.out)).trans HX2.out); have HP3 := hid ((hb3.block _ (lt_blkR HP2.out)).trans HP2.out); obtain ⟨a0, a1, a2, a3, a4, a5, a6, a7⟩ := op_all HX3.out; obtain ⟨b0, b1, b2, b3, b4⟩ := PL.out _ _ HP3.out; have T1 := hid True.intro; clear hb3))
              go_ret
              exact ⟨by first | rfl | simp, B4.out⟩
            | false =>
              go_wp2_with (first
                | (go_at_call 98; refine (DC.out _).mono ?_; rintro _ _ ⟨rfl, rfl⟩)
                | (have _t := T1.out; go_at_call 97; refine (E2.out _).mono ?_; rintro _ w4 ⟨rfl, hb4⟩; have B4 := hid (B3.out.trans (hb4.mono B3.out.size)); have HX4 := (hb4.block _ (lt_blkR HX3.out)).trans HX3.out; have HP4 := (hb4.block _ (lt_blkR HP3.out)).trans HP3.out; obtain ⟨c0, c1, c2, c3, c4, c5, c6, c7⟩ := op_all HX4; obtain ⟨d0, d1, d2, d3, d4⟩ := PL.out _ _ HP4; clear hb4 HX4 HP4 T1)
                | (go_at_call 97; refine (E1.out _).mono ?_; rintro _ w3 ⟨rfl, hb3⟩; have B3 := hid (B2.out.trans (hb3.mono B2.out.size)); have HX3 := hid ((hb3.block _ (lt_blkR HX2.out)).trans HX2.out); have HP3 := hid ((hb3.block _ (lt_blkR HP2.out)).trans HP2.out); obtain ⟨a0, a1, a2, a3, a4, a5, a6, a7⟩ := op_all HX3.out; obtain ⟨b0, b1, b2, b3, b4⟩ := PL.out _ _ HP3.out; have T1 := hid True.intro; clear hb3))
              go_ret
              exact ⟨by first | rfl | simp, B4.out⟩
end Go.Proofs.Ytbgninmkglgfeaa
