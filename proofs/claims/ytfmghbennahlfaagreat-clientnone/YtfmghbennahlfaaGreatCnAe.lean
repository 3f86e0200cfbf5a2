/-
  
-/
import Derived.Test.YtfmghbennahlfaaGreatCnAa
import Derived.Test.YtfmghbennahlfaaGreatCnAb
import Derived.Test.YtfmghbennahlfaaGreatCnAc
import Derived.Test.YtfmghbennahlfaaGreatCnAd
import Derived.ChangeArms
import Derived.ChangeOld
import Derived.Below
import Derived.Deep.CutRange
import Derived.Laws.AppendOwnNone
import Derived.Deep.RegionLaw
import Derived.Deep.LoopGhost
import Derived.Laws.BitsLemmas
import Derived.Shelf.Abstract
import Derived.Defers
import Derived.Recover
import Derived.Laws.Pointers
import Derived.Deep.QuietTactic
import Derived.Maps.OwnOps
import Derived.Maps.Views
import Derived.DeepKeys4
import Derived.RegionTactic
import Derived.ChangeAlike
import Derived.BigRegion
import Derived.BigQuiet
import Derived.Laws.IdiomStrings
namespace Go.Proofs.YtfmghbennahlfaaGreat
open Go.RowKit Go.ChangeShapes Go.WideShapes Go.ChangeAt Go.Maps Go.Shelf
set_option linter.unusedVariables false
set_option linter.unusedSimpArgs false
set_option maxRecDepth 100000
def Rec.ops (x : Rec) : List Value := [.int .u8 x.k, .int .u32 x.fid, .int .u32 x.dir, .string x.nm, .int .u32 x.to, .string x.nm2, .int .u16 x.md, .string x.dt]
def Rec.opV (x : Rec) : Value := .agg #[.int .u8 x.k, .int .u32 x.fid, .int .u32 x.dir, .string x.nm, .int .u32 x.to, .string x.nm2, .int .u16 x.md, .string x.dt]
def Rec.Wf (x : Rec) : Prop := (0 ≤ x.k ∧ x.k < 256) ∧ (0 ≤ x.fid ∧ x.fid < 4294967296) ∧ (0 ≤ x.dir ∧ x.dir < 4294967296) ∧ (0 ≤ x.to ∧ x.to < 4294967296) ∧ (0 ≤ x.md ∧ x.md < 65536) ∧ (0 ≤ x.sn ∧ x.sn < 18446744073709551616) ∧ x.nm.size ≤ maxLen ∧ x.nm2.size ≤ maxLen ∧ x.dt.size ≤ maxLen
def Rec.no : Rec := ⟨0, 0, 0, ⟨#[]⟩, 0, ⟨#[]⟩, 0, ⟨#[]⟩, 0⟩
theorem lt_blkR {w : World} {b : Nat} {o : Obj} (h : w.heap[b]? = some o) : b < w.heap.size := (Array.getElem?_eq_some_iff.1 h).1
theorem own_latR {w w' : World} {base e size n : Nat} {v : Value} {xs : List Value} (h : w.ownsRow base e size v n xs) (hb : Below w.heap.size w w') : w'.ownsRow base e size v n xs := by
 refine ⟨h.1, ?_⟩
 rcases h.2 with h | ⟨g, cap, cur, e1, e2, e3, e4⟩
 · exact .inl h
 · exact .inr ⟨g, cap, cur, e1, e2, (hb.block g (lt_blkR e3)).trans e3, e4⟩
def pFid (k : Int) : Bool := k == 1 || k == 2 || k == 3 || k == 4 || k == 8 || k == 9
def pEnt (k : Int) : Bool := k == 1 || k == 2 || k == 3 || k == 4 || k == 5 || k == 6 || k == 7
def pGoal (k : Int) : Bool := k == 7
def pMode (k : Int) : Bool := k == 1 || k == 2 || k == 3 || k == 9
def pData (k : Int) : Bool := k == 3 || k == 8
def pOk (k : Int) : Bool := k == 1 || k == 2 || k == 3 || k == 4 || k == 5 || k == 6 || k == 7 || k == 8 || k == 9
def mkF (k : Int) : Bool := k == 1 || k == 2 || k == 3
def partsV (k : Int) : Value := .agg #[.bool (pFid k), .bool (pEnt k), .bool (pGoal k), .bool (pMode k), .bool (pData k)]
def entF (named : Bool) (f : Int) (s : ByteArray) : Bool := if named then f != 0 && Pa.nameB s.data.toList else f == 0 && s.toList == []
def datF (named : Bool) (s : ByteArray) : Bool := if named then decide (s.size ≤ 64) else s.toList == []
def rightF (x : Rec) : Bool := !(!pOk x.k || (pFid x.k != (x.fid != 0)) || (mkF x.k && x.fid == 1)) && (entF (pEnt x.k) x.dir x.nm && entF (pGoal x.k) x.to x.nm2 && (pMode x.k || x.md == 0) && datF (pData x.k) x.dt)
set_option maxRecDepth 20000 in
set_option maxHeartbeats 2000000 in
theorem partsOf_c (k : Int) (w : World) :
   Calls Tryz.prog 190 #[.int .u8 k] w fun e w' => e = .returned (.tuple #[partsV k, .bool (pOk k)]) ∧ Below w.heap.size w w' := by
 have key : ∀ b1 b2 b3 b4 b5 b6 b7 b8 b9 : Bool, (k == 1) = b1 → (k == 2) = b2 → (k == 3) = b3 → (k == 4) = b4 → (k == 5) = b5 → (k == 6) = b6 → (k == 7) = b7 → (k == 8) = b8 → (k == 9) = b9 → ((b1, b2, b3, b4, b5, b6, b7, b8, b9) = (false, false, false, false, false, false, false, false, false) ∨ (b1, b2, b3, b4, b5, b6, b7, b8, b9) = (true, false, false, false, false, false, false, false, false) ∨ (b1, b2, b3, b4, b5, b6, b7, b8, b9) = (false, true, false, false, false, false, false, false, false) ∨ (b1, b2, b3, b4, b5, b6, b7, b8, b9) = (false, false, true, false, false, false, false, false, false) ∨ (b1, b2, b3, b4, b5, b6, b7, b8, b9) = (false, false, false, true, false, false, false, false, false) ∨ (b1, b2, b3, b4, b5, b6, b7, b8, b9) = (false, false, false, false, true, false, false, false, false) ∨ (b1, b2, b3, b4, b5, b6, b7, b8, b9) = (false, false, false, false, false, true, false, false, false) ∨ (b1, b2, b3, b4, b5, b6, b7, b8, b9) = (false, false, false, false, false, false, true, false, false) ∨ (b1, b2, b3, b4, b5, b6, b7, b8, b9) = (false, false, false, false, false, false, false, true, false) ∨ (b1, b2, b3, b4, b5, b6, b7, b8, b9) = (false, false, false, false, false, false, false, false, true)) → Calls Tryz.prog 190 #[.int .u8 k] w fun e w' => e = .returned (.tuple #[partsV k, .bool (pOk k)]) ∧ Below w.heap.size w w' := by
   intro b1 b2 b3 b4 b5 b6 b7 b8 b9 h1 h2 h3 h4 h5 h6 h7 h8 h9 hh
   simp only [Prod.mk.injEq] at hh
   have HV : Hid (partsV k = .agg #[.bool (b1 || b2 || b3 || b4 || b8 || b9), .bool (b1 || b2 || b3 || b4 || b5 || b6 || b7), .bool b7, .bool (b1 || b2 || b3 || b9), .bool (b3 || b8)]) := hid (by unfold partsV pFid pEnt pGoal pMode pData; rw [h1, h2, h3, h4, h5, h6, h7, h8, h9])
   have HO : Hid (pOk k = (b1 || b2 || b3 || b4 || b5 || b6 || b7 || b8 || b9)) := hid (by unfold pOk; rw [h1, h2, h3, h4, h5, h6, h7, h8, h9])
   rcases hh with ⟨rfl, rfl, rfl, rfl, rfl, rfl, rfl, rfl, rfl⟩ | ⟨rfl, rfl, rfl, rfl, rfl, rfl, rfl, rfl, rfl⟩ | ⟨rfl, rfl, rfl, rfl, rfl, rfl, rfl, rfl, rfl⟩ | ⟨rfl, rfl, rfl, rfl, rfl, rfl, rfl, rfl, rfl⟩ | ⟨rfl, rfl, rfl, rfl, rfl, rfl, rfl, rfl, rfl⟩ | ⟨rfl, rfl, rfl, rfl, rfl, rfl, rfl, rfl, rfl⟩ | ⟨rfl, rfl, rfl, rfl, rfl, rfl, rfl, rfl, rfl⟩ | ⟨rfl, rfl, rfl, rfl, rfl, rfl, rfl, rfl, rfl⟩ | ⟨rfl, rfl, rfl, rfl, rfl, rfl, rfl, rfl, rfl⟩ | ⟨rfl, rfl, rfl, rfl, rfl, rfl, rfl, rfl, rfl⟩
   all_goals
     go_enter Tryz.func190, Tryz.ntmps190
     go_wp2
     refine bodyPost_ret (v := .tuple #[partsV k, .bool (pOk k)]) (by rw [HV.out, HO.out]; simp [results, Tryz.results190, go_sem]) rfl ⟨rfl, ?_⟩
     exact (Below.refl _ _).alloc (Nat.le_refl _) _
 refine key _ _ _ _ _ _ _ _ _ rfl rfl rfl rfl rfl rfl rfl rfl rfl ?_
 by_cases q1 : k = 1
 · subst q1; simp
 by_cases q2 : k = 2
 · subst q2; simp
 by_cases q3 : k = 3
 · subst q3; simp
 by_cases q4 : k = 4
 · subst q4; simp
 by_cases q5 : k = 5
 · subst q5; simp
 by_cases q6 : k = 6
 · subst q6; simp
 by_cases q7 : k = 7
 · subst q7; simp
 by_cases q8 : k = 8
 · subst q8; simp
 by_cases q9 : k = 9
 · subst q9; simp
 left
 simp [q1, q2, q3, q4, q5, q6, q7, q8, q9]
set_option maxHeartbeats 1000000 in
theorem tmakes_c (k : Int) (w : World) : Calls Tryz.prog 191 #[.int .u8 k] w fun e w' => e = .returned (.bool (mkF k)) ∧ w' = w := by
 unfold mkF
 cases e1 : (k == 1) <;> cases e2 : (k == 2) <;> cases e3 : (k == 3) <;> (go_enter Tryz.func191, Tryz.ntmps191; go_wp2; go_ret; exact ⟨by first | rfl | simp_all, rfl⟩)
set_option maxHeartbeats 1000000 in
theorem rightEntry_c (b : Bool) (f : Int) (s : ByteArray) (w : World) (hs : s.size ≤ maxLen) :
   Calls Tryz.prog 192 #[.bool b, .int .u32 f, .string s] w fun e w' => e = .returned (.bool (entF b f s)) ∧ Below w.heap.size w w' := by
 have NC := hid (name_c s w hs)
 unfold entF
 cases b with
 | false =>
   simp only [Bool.false_eq_true, if_false]
   cases e1 : (f == 0) with
   | false =>
     go_enter Tryz.func192, Tryz.ntmps192
     go_wp2
     go_ret
     exact ⟨rfl, Below.refl _ _⟩
   | true =>
     cases e2 : (s.toList == [])
     all_goals
       go_enter Tryz.func192, Tryz.ntmps192
       go_wp2
       go_ret
       exact ⟨by first | rfl | simp_all, Below.refl _ _⟩
 | true =>
   simp only [if_true]
   cases e1 : (f != 0) with
   | false =>
     go_enter Tryz.func192, Tryz.ntmps192
     go_wp2
     go_ret
     exact ⟨rfl, Below.refl _ _⟩
   | true =>
     generalize Pa.nameB s.data.toList = N at *
     go_enter Tryz.func192, Tryz.ntmps192
     go_wp2_with (go_at_call 114; refine NC.out.mono ?_; rintro _ w1 ⟨rfl, hb1⟩)
     go_ret
     exact ⟨rfl, hb1⟩
set_option maxHeartbeats 1000000 in
theorem rightData_c (b : Bool) (s : ByteArray) (w : World) :
   Calls Tryz.prog 193 #[.bool b, .string s] w fun e w' => e = .returned (.bool (datF b s)) ∧ w' = w := by
 unfold datF
 cases b with
 | false =>
   simp only [Bool.false_eq_true, if_false]
   cases e2 : (s.toList == [])
   all_goals
     go_enter Tryz.func193, Tryz.ntmps193
     go_wp2
     go_ret
     exact ⟨by first | rfl | simp_all, rfl⟩
 | true =>
   simp only [if_true]
   by_cases h : s.size ≤ 64
   · have hI : (s.size : Int) ≤ 64 := by omega
     go_enter Tryz.func193, Tryz.ntmps193
     go_wp2
     go_ret
     exact ⟨by simp [h], rfl⟩
   · have hI : ¬ (s.size : Int) ≤ 64 := by omega
     go_enter Tryz.func193, Tryz.ntmps193
     go_wp2
     go_ret
     exact ⟨by simp [h], rfl⟩
theorem parts_cells {w : World} {g : Nat} {k : Int} {t : TypeId} {fr : Nat × Nat} (h : w.heap[g]? = some (.cells #[.bool (pFid k), .bool (pEnt k), .bool (pGoal k), .bool (pMode k), .bool (pData k)] t fr)) : w.cell? ⟨g, 0, none⟩ = some (.bool (pFid k)) ∧ w.cell? ⟨g, 1, none⟩ = some (.bool (pEnt k)) ∧ w.cell? ⟨g, 2, none⟩ = some (.bool (pGoal k)) ∧ w.cell? ⟨g, 3, none⟩ = some (.bool (pMode k)) ∧ w.cell? ⟨g, 4, none⟩ = some (.bool (pData k)) := by
 refine ⟨?_, ?_, ?_, ?_, ?_⟩ <;> (rw [cell_of_row w g _ _ t fr h]; rfl)
theorem op_all {w : World} {g : Nat} {x : Rec} {t : TypeId} {fr : Nat × Nat} (h : w.heap[g]? = some (.cells x.ops.toArray t fr)) : w.cell? ⟨g, 0, none⟩ = some (.int .u8 x.k) ∧ w.cell? ⟨g, 1, none⟩ = some (.int .u32 x.fid) ∧ w.cell? ⟨g, 2, none⟩ = some (.int .u32 x.dir) ∧ w.cell? ⟨g, 3, none⟩ = some (.string x.nm) ∧ w.cell? ⟨g, 4, none⟩ = some (.int .u32 x.to) ∧ w.cell? ⟨g, 5, none⟩ = some (.string x.nm2) ∧ w.cell? ⟨g, 6, none⟩ = some (.int .u16 x.md) ∧ w.cell? ⟨g, 7, none⟩ = some (.string x.dt) := by
 refine ⟨?_, ?_, ?_, ?_, ?_, ?_, ?_, ?_⟩ <;> (rw [cell_of_row w g _ _ t fr h]; rfl)
theorem below_1 (w : World) (o : Obj) : Below w.heap.size w (w.alloc o) := (Below.refl _ _).alloc (Nat.le_refl _) _
set_option maxRecDepth 20000 in
set_option maxHeartbeats 2000000 in
theorem rightOp_c (x : Rec) (w : World) (h3 : x.nm.size ≤ maxLen) (h5 : x.nm2.size ≤ maxLen) :
   Calls Tryz.prog 135 #[x.opV] w fun e w' => e = .returned (.bool (rightF x)) ∧ Below w.heap.size w w' := by
 have hx : (w.alloc (.cells x.ops.toArray 111)).heap[w.heap.size]? = some (.cells x.ops.toArray 111 (0, 0)) := heap_alloc_new w _
 obtain ⟨y0, y1, y2, y3, y4, y5, y6, y7⟩ := op_all hx
 have HX := hid hx
 have B0 := hid (below_1 w (.cells x.ops.toArray 111))
 have PC := hid (partsOf_c x.k (w.alloc (.cells x.ops.toArray 111)))
 have MC := hid (tmakes_c x.k)
 have E1 := hid (fun W => rightEntry_c (pEnt x.k) x.dir x.nm W h3)
 have E2 := hid (fun W => rightEntry_c (pGoal x.k) x.to x.nm2 W h5)
 have DC := hid (rightData_c (pData x.k) x.dt)
 unfold Rec.opV rightF
 unfold partsV at PC
 have PL := hid (fun (W : World) (g : Nat) (h : W.heap[g]? = some (.cells #[.bool (pFid x.k), .bool (pEnt x.k), .bool (pGoal x.k), .bool (pMode x.k), .bool (pData x.k)] 290 (0, 0))) => parts_cells (k := x.k) h)
 clear hx h3 h5
 generalize entF (pEnt x.k) x.dir x.nm = e1 at *
 generalize entF (pGoal x.k) x.to x.nm2 = e2 at *
 generalize datF (pData x.k) x.dt = dd at *
 generalize pFid x.k = pf at *
 generalize pEnt x.k = pe at *
 generalize pGoal x.k = pg at *
 generalize pMode x.k = pm at *
 generalize pData x.k = pd at *
 generalize pOk x.k = ok at *
 generalize mkF x.k = mk at *
 obtain ⟨m0, hm0⟩ : ∃ m0, m0 = (x.md == 0) := ⟨_, rfl⟩
 obtain ⟨f0, hf0⟩ : ∃ f0, f0 = (x.fid != 0) := ⟨_, rfl⟩
 obtain ⟨f1, hf1⟩ : ∃ f1, f1 = (x.fid == 1) := ⟨_, rfl⟩
 rw [← hm0, ← hf0, ← hf1]
 obtain ⟨b2, hb2⟩ : ∃ b2, b2 = (!ok || (pf != f0) || (mk && f1)) := ⟨_, rfl⟩
 rw [← hb2]
 have HB2 := hid hb2
 have g1 := hm0.symm
 have g2 := hf0.symm
 have g3 := hf1.symm
 clear hm0 hf0 hf1 hb2
 go_enter Tryz.func135, Tryz.ntmps135
 go_upto_region 2 with (go_at_call 190; refine PC.out.mono ?_; rintro _ w1 ⟨rfl, hb1⟩; have B1 := hid (B0.out.trans (hb1.mono B0.out.size)); have HX1 := hid ((hb1.block _ (lt_blkR HX.out)).trans HX.out); clear hb1)
 have hp2 := heap_alloc_new w1 (.cells #[.bool pf, .bool pe, .bool pg, .bool pm, .bool pd] 290)
 have HP2 := hid hp2
 have B2 := hid (B1.out.trans ((below_1 w1 (.cells #[.bool pf, .bool pe, .bool pg, .bool pm, .bool pd] 290)).mono B1.out.size))
 have HX2 := hid (((below_1 w1 (.cells #[.bool pf, .bool pe, .bool pg, .bool pm, .bool pd] 290)).block _ (lt_blkR HX1.out)).trans HX1.out)
 obtain ⟨p0, p1, p2, p3, p4⟩ := PL.out _ _ hp2
 obtain ⟨z0, z1, z2, z3, z4, z5, z6, z7⟩ := op_all HX2.out
 clear hp2 y0 y1 y2 y3 y4 y5 y6 y7 PC HX HX1 B0 B1
 generalize w1.alloc (.cells #[.bool pf, .bool pe, .bool pg, .bool pm, .bool pd] 290) = w2 at *
 generalize w1.heap.size = G at *
 go_cut [30] from 11 to 30 (fun s30 wx => s30 = .bool b2 ∧ wx = w2)
 case first =>
   cases ok <;> cases pf <;> cases f0 <;> cases mk <;> cases f1
   all_goals
     go_wp2_with (go_at_call 191; refine (MC.out _).mono ?_; rintro _ _ ⟨rfl, rfl⟩)
     go_meet
     exact ⟨by rw [HB2.out]; rfl, rfl⟩
 case rest =>
   obtain ⟨rfl, rfl⟩ := hcut
   cases b2 with
   | true =>
     go_wp2
     go_ret
     exact ⟨rfl, B2.out⟩
   | false =>
     clear HB2 MC
     cases e1 with
     | false =>
       go_wp2_with (first
         | (go_at_call 193; refine (DC.out _).mono ?_; rintro _ _ ⟨rfl, rfl⟩)
         | (have _t := T1.out; go_at_call 192; refine (E2.out _).mono ?_; rintro _ w4 ⟨rfl, hb4⟩; have B4 := hid (B3.out.trans (hb4.mono B3.out.size)); have HX4 := (hb4.block _ (lt_blkR HX3.out)).trans HX3.out; have HP4 := (hb4.block _ (lt_blkR HP3.out)).trans HP3.out; obtain ⟨c0, c1, c2, c3, c4, c5, c6, c7⟩ := op_all HX4; obtain ⟨d0, d1, d2, d3, d4⟩ := PL.out _ _ HP4; clear hb4 HX4 HP4 T1)
         | (go_at_call 192; refine (E1.out _).mono ?_; rintro _ w3 ⟨rfl, hb3⟩; have B3 := hid (B2.out.trans (hb3.mono B2.out.size)); have HX3 := hid ((hb3.block _ (lt_blkR HX2.out)).trans HX2.out); have HP3 := hid ((hb3.block _ (lt_blkR HP2.out)).trans HP2.out); obtain ⟨a0, a1, a2, a3, a4, a5, a6, a7⟩ := op_all HX3.out; obtain ⟨b0, b1, b2, b3, b4⟩ := PL.out _ _ HP3.out; have T1 := hid True.intro; clear hb3))
       go_ret
       exact ⟨by first | rfl | simp, B3.out⟩
     | true =>
       cases e2 with
       | false =>
         go_wp2_with (first
           | (go_at_call 193; refine (DC.out _).mono ?_; rintro _ _ ⟨rfl, rfl⟩)
           | (have _t := T1.out; go_at_call 192; refine (E2.out _).mono ?_; rintro _ w4 ⟨rfl, hb4⟩; have B4 := hid (B3.out.trans (hb4.mono B3.out.size)); have HX4 := (hb4.block _ (lt_blkR HX3.out)).trans HX3.out; have HP4 := (hb4.block _ (lt_blkR HP3.out)).trans HP3.out; obtain ⟨c0, c1, c2, c3, c4, c5, c6, c7⟩ := op_all HX4; obtain ⟨d0, d1, d2, d3, d4⟩ := PL.out _ _ HP4; clear hb4 HX4 HP4 T1)
           | (go_at_call 192; refine (E1.out _).mono ?_; rintro _ w3 ⟨rfl, hb3⟩; have B3 := hid (B2.out.trans (hb3.mono B2.out.size)); have HX3 := hid ((hb3.block _ (lt_blkR HX2.out)).trans HX2.out); have HP3 := hid ((hb3.block _ (lt_blkR HP2.out)).trans HP2.out); obtain ⟨a0, a1, a2, a3, a4, a5, a6, a7⟩ := op_all HX3.out; obtain ⟨b0, b1, b2, b3, b4⟩ := PL.out _ _ HP3.out; have T1 := hid True.intro; clear hb3))
         go_ret
         exact ⟨by first | rfl | simp, B4.out⟩
       | true =>
         cases pm with
         | true =>
           go_wp2_with (first
             | (go_at_call 193; refine (DC.out _).mono ?_; rintro _ _ ⟨rfl, rfl⟩)
             | (have _t := T1.out; go_at_call 192; refine (E2.out _).mono ?_; rintro _ w4 ⟨rfl, hb4⟩; have B4 := hid (B3.out.trans (hb4.mono B3.out.size)); have HX4 := (hb4.block _ (lt_blkR HX3.out)).trans HX3.out; have HP4 := (hb4.block _ (lt_blkR HP3.out)).trans HP3.out; obtain ⟨c0, c1, c2, c3, c4, c5, c6, c7⟩ := op_all HX4; obtain ⟨d0, d1, d2, d3, d4⟩ := PL.out _ _ HP4; clear hb4 HX4 HP4 T1)
             | (go_at_call 192; refine (E1.out _).mono ?_; rintro _ w3 ⟨rfl, hb3⟩; have B3 := hid (B2.out.trans (hb3.mono B2.out.size)); have HX3 := hid ((hb3.block _ (lt_blkR HX2.out)).trans HX2.out); have HP3 := hid ((hb3.block _ (lt_blkR HP2.out)).trans HP2.out); obtain ⟨a0, a1, a2, a3, a4, a5, a6, a7⟩ := op_all HX3.out; obtain ⟨b0, b1, b2, b3, b4⟩ := PL.out _ _ HP3.out; have T1 := hid True.intro; clear hb3))
           go_ret
           exact ⟨by first | rfl | simp, B4.out⟩
         | false =>
           cases m0 with
           | true =>
             go_wp2_with (first
               | (go_at_call 193; refine (DC.out _).mono ?_; rintro _ _ ⟨rfl, rfl⟩)
               | (have _t := T1.out; go_at_call 192; refine (E2.out _).mono ?_; rintro _ w4 ⟨rfl, hb4⟩; have B4 := hid (B3.out.trans (hb4.mono B3.out.size)); have HX4 := (hb4.block _ (lt_blkR HX3.out)).trans HX3.out; have HP4 := (hb4.block _ (lt_blkR HP3.out)).trans HP3.out; obtain ⟨c0, c1, c2, c3, c4, c5, c6, c7⟩ := op_all HX4; obtain ⟨d0, d1, d2, d3, d4⟩ := PL.out _ _ HP4; clear hb4 HX4 HP4 T1)
               | (go_at_call 192; refine (E1.out _).mono ?_; rintro _ w3 ⟨rfl, hb3⟩; have B3 := hid (B2.out.trans (hb3.mono B2.out.size)); have HX3 := hid ((hb3.block _ (lt_blkR HX2.out)).trans HX2.out); have HP3 := hid ((hb3.block _ (lt_blkR HP2.out)).trans HP2.out); obtain ⟨a0, a1, a2, a3, a4, a5, a6, a7⟩ := op_all HX3.out; obtain ⟨b0, b1, b2, b3, b4⟩ := PL.out _ _ HP3.out; have T1 := hid True.intro; clear hb3))
             go_ret
             exact ⟨by first | rfl | simp, B4.out⟩
           | false =>
             go_wp2_with (first
               | (go_at_call 193; refine (DC.out _).mono ?_; rintro _ _ ⟨rfl, rfl⟩)
               | (have _t := T1.out; go_at_call 192; refine (E2.out _).mono ?_; rintro _ w4 ⟨rfl, hb4⟩; have B4 := hid (B3.out.trans (hb4.mono B3.out.size)); have HX4 := (hb4.block _ (lt_blkR HX3.out)).trans HX3.out; have HP4 := (hb4.block _ (lt_blkR HP3.out)).trans HP3.out; obtain ⟨c0, c1, c2, c3, c4, c5, c6, c7⟩ := op_all HX4; obtain ⟨d0, d1, d2, d3, d4⟩ := PL.out _ _ HP4; clear hb4 HX4 HP4 T1)
               | (go_at_call 192; refine (E1.out _).mono ?_; rintro _ w3 ⟨rfl, hb3⟩; have B3 := hid (B2.out.trans (hb3.mono B2.out.size)); have HX3 := hid ((hb3.block _ (lt_blkR HX2.out)).trans HX2.out); have HP3 := hid ((hb3.block _ (lt_blkR HP2.out)).trans HP2.out); obtain ⟨a0, a1, a2, a3, a4, a5, a6, a7⟩ := op_all HX3.out; obtain ⟨b0, b1, b2, b3, b4⟩ := PL.out _ _ HP3.out; have T1 := hid True.intro; clear hb3))
             go_ret
             exact ⟨by first | rfl | simp, B4.out⟩
def Lies (w : World) (a : Option Addr) (c : Nat) : Prop := a = none ∧ c = 0 ∨ ∃ b off, a = some ⟨b, off, none⟩ ∧ b < w.heap.size
theorem isB_ownR {w : World} {base : Nat} {v : Value} {zs : List Int} (h : w.ownsRow base 5 1 v zs.length (zs.map u8V)) (hz : ∀ y ∈ zs, 0 ≤ y ∧ y ≤ 255) : ∃ a cap, v = .slice a zs.length cap ∧ IsB w a zs.length zs ∧ zs.length ≤ cap ∧ Lies w a cap := by
 have hz2 : ∀ i, 0 ≤ zs.getD i 0 ∧ zs.getD i 0 ≤ 255 := fun i => by
   by_cases hi : i < zs.length
   · rw [List.getD, List.getElem?_eq_getElem hi]; exact hz _ (List.getElem_mem _)
   · simp [List.getD, List.getElem?_eq_none (by omega : zs.length ≤ i)]
 rcases h.2 with ⟨rfl, hn⟩ | ⟨g, cap, cur, rfl, hb, hg, hn, hc, hs, ht⟩
 · exact ⟨none, 0, by rw [hn], ⟨rfl, by omega, fun hp => absurd hp (by omega), hz2⟩, by omega, .inl ⟨rfl, rfl⟩⟩
 · refine ⟨some ⟨g, 0, none⟩, cap, rfl, ⟨rfl, by omega, fun hp => ⟨g, 0, rfl, fun i hi => ?_⟩, hz2⟩, hn, .inr ⟨g, 0, rfl, lt_blkR hg⟩⟩
   rw [Nat.zero_add, cell_of_row w g i cur _ _ hg]
   have : (zs.map u8V)[i]? = some (.int .u8 (zs.getD i 0)) := by simp [List.getD, hi, u8V]
   rw [← ht, List.getElem?_take, if_pos (by omega)] at this
   simpa using this
def OwB (w : World) (base : Nat) (v : Value) (zs : List Int) : Prop := w.ownsRow base 5 1 v zs.length (zs.map u8V)
theorem u8V_one (zs : List Int) : ∀ u ∈ zs.map u8V, u.oneCell' = true := fun u hu => by
 obtain ⟨z, _, rfl⟩ := List.mem_map.1 hu
 rfl
theorem wp_appB (w : World) {o : Oper} {a : Act} {K : Act → World → Prop} {Q : Exit → Act → World → Prop} (s x : Operand)
   (ho : o.op = .call { callee := .builtin .append, args := #[s, x], argTypes := #[37, 37] })
   (base : Nat) (v : Value) (zs : List Int) (hs : a.eval s = v) (hown : OwB w base v zs) (u : Value) (ys : List Int) (hx : a.eval x = u) (hsrc : OwB w 0 u ys) (hl : zs.length ≤ 100000) (hl2 : ys.length ≤ 100000) (hb : base ≤ w.heap.size)
   (h : ∀ v' w', OwB w' base v' (zs ++ ys) → w.grownBy w' v.ownBlock → K (a.put o.dst v') w') : o.wp Tryz.prog a w K Q := by
 obtain ⟨i0, hi0, hz0, hz1, hz2⟩ := info_parts8
 rcases hsrc.2 with ⟨rfl, h0⟩ | ⟨g, cap, cur, rfl, _, hg, hn, hm, hsz2, htk⟩
 · have hM : ys = [] := List.eq_nil_of_length_eq_zero h0
   subst hM
   have hrun := run_append_owned_none (P := Tryz.prog) (w := w) base 37 o.type 5 i0 1 Tryz.underlying37 hi0 v _ _ hown
   unfold Oper.wp
   simp [execOp, ho, resolve, invoke, builtin, hs, hx, hrun, Result.andThen]
   exact h v w (by simpa using hown) (World.grownBy.refl w _)
 · refine wp_append_own w s x 37 ho base 5 i0 (.int .u8 0) 1 1 Tryz.underlying37 hi0 hz0 hz1 hz2 (by rfl) (by decide) v zs.length _ hs hown ⟨g, 0, none⟩ ys.length cap (ys.map u8V) hx (by simp) (fun j y hj => hsrc.cells (g := g) rfl j y hj) (u8V_one ys) (by unfold maxLen; omega) (by omega) hb ?_
   intro v' w' q1 q2 _
   exact h v' w' (by unfold OwB; rw [List.map_append, List.length_append]; exact q1) q2
structure Kd where
 nm : ByteArray
 fid : Int
def Kd.no : Kd := ⟨⟨#[]⟩, 0⟩
def Kd.cells (x : Kd) : List Value := [.string x.nm, .int .u32 x.fid]
def Kd.val (x : Kd) : Value := .agg #[.string x.nm, .int .u32 x.fid]
def Kd.Wf (x : Kd) : Prop := x.nm.size ≤ maxLen ∧ 0 ≤ x.fid ∧ x.fid < 4294967296
def KdAt (w : World) (b o : Nat) (x : Kd) : Prop := w.cell? ⟨b, o, none⟩ = some (.string x.nm) ∧ w.cell? ⟨b, o + 1, none⟩ = some (.int .u32 x.fid)
def IsKs (w : World) (a : Option Addr) (l : List Kd) : Prop :=
 l.length ≤ maxLen ∧ (∀ x ∈ l, x.Wf) ∧ (0 < l.length → ∃ b off, a = some ⟨b, off, none⟩ ∧ ∀ i, i < l.length → KdAt w b (off + i * 2) (l.getD i Kd.no))
theorem IsKs.later {w w' : World} {a : Option Addr} {l : List Kd} (h : IsKs w a l) (hb : Below w.heap.size w w') : IsKs w' a l := by
 obtain ⟨h1, h2, h3⟩ := h
 refine ⟨h1, h2, fun hp => ?_⟩
 obtain ⟨b, off, e, hc⟩ := h3 hp
 exact ⟨b, off, e, fun i hi => ⟨cell_later hb (hc i hi).1, cell_later hb (hc i hi).2⟩⟩
theorem IsKs.at {w : World} {b off : Nat} {l : List Kd} {i : Nat} (h : IsKs w (some ⟨b, off, none⟩) l) (hi : i < l.length) : KdAt w b (off + i * 2) (l.getD i Kd.no) := by
 obtain ⟨b', off', e, hc⟩ := h.2.2 (by omega)
 cases e
 exact hc i hi
theorem IsKs.wf {w : World} {a : Option Addr} {l : List Kd} (h : IsKs w a l) {i : Nat} (hi : i < l.length) : (l.getD i Kd.no).Wf := by
 rw [List.getD, List.getElem?_eq_getElem hi]
 exact h.2.1 _ (List.getElem_mem _)
structure Nd where
 fid : Int
 k : Int
 md : Int
 ln : Int
 da : Option Addr
 dc : Nat
 zs : List Int
 ka : Option Addr
 kc : Nat
 ks : List Kd
def Nd.cells (x : Nd) : List Value := [.int .u32 x.fid, .int .u8 x.k, .int .u16 x.md, .int .u16 x.ln, .slice x.da x.zs.length x.dc, .slice x.ka x.ks.length x.kc]
def Nd.val (x : Nd) : Value := .agg #[.int .u32 x.fid, .int .u8 x.k, .int .u16 x.md, .int .u16 x.ln, .slice x.da x.zs.length x.dc, .slice x.ka x.ks.length x.kc]
def Nd.Ok (w : World) (x : Nd) : Prop := (0 ≤ x.fid ∧ x.fid < 4294967296) ∧ (0 ≤ x.k ∧ x.k < 256) ∧ (0 ≤ x.md ∧ x.md < 65536) ∧ (0 ≤ x.ln ∧ x.ln < 65536) ∧ IsB w x.da x.zs.length x.zs ∧ IsKs w x.ka x.ks
theorem Nd.Ok.later {w w' : World} {x : Nd} (h : x.Ok w) (hb : Below w.heap.size w w') : x.Ok w' := by
 obtain ⟨a, b, c, d, e, f⟩ := h
 exact ⟨a, b, c, d, e.later hb, f.later hb⟩
theorem nd_cells {w : World} {g : Nat} {x : Nd} {t : TypeId} {fr : Nat × Nat} (h : w.heap[g]? = some (.cells x.cells.toArray t fr)) : w.cell? ⟨g, 0, none⟩ = some (.int .u32 x.fid) ∧ w.cell? ⟨g, 1, none⟩ = some (.int .u8 x.k) ∧ w.cell? ⟨g, 2, none⟩ = some (.int .u16 x.md) ∧ w.cell? ⟨g, 3, none⟩ = some (.int .u16 x.ln) ∧ w.cell? ⟨g, 4, none⟩ = some (.slice x.da x.zs.length x.dc) ∧ w.cell? ⟨g, 5, none⟩ = some (.slice x.ka x.ks.length x.kc) := by
 refine ⟨?_, ?_, ?_, ?_, ?_, ?_⟩ <;> (rw [cell_of_row w g _ _ t fr h]; rfl)
theorem cell_of_row2 {w : World} {g j : Nat} {cs : Array Value} {t : TypeId} {fr : Nat × Nat} {v : Value} (h : w.heap[g]? = some (.cells cs t fr)) (_ : Nat := j) (hv : cs[j]? = some v) : w.cell? ⟨g, j, none⟩ = some v := by rw [cell_of_row w g _ _ t fr h]; exact hv
def leS (x y : ByteArray) : Bool := Op.bytesLess x.toList y.toList || x.toList == y.toList
def lastK (l : List Kd) (m : Nat) : ByteArray := if m = 0 then ⟨#[]⟩ else (l.getD (m - 1) Kd.no).nm
def kOk (l : List Kd) (i : Nat) : Bool := Pa.nameB (l.getD i Kd.no).nm.data.toList && !leS (l.getD i Kd.no).nm (lastK l i) && (l.getD i Kd.no).fid != 0
def kidsTo (l : List Kd) : Nat → Bool
 | 0 => true
 | m + 1 => kidsTo l m && kOk l m
def kidsOk (l : List Kd) : Bool := kidsTo l l.length
theorem lastK_next (l : List Kd) (m : Nat) : lastK l (m + 1) = (l.getD m Kd.no).nm := by unfold lastK; simp
def nodeOk (x : Nd) : Bool := !(x.fid == 0 || decide (64 < x.zs.length) || decide (12 < x.ks.length)) && (bif x.k == 1 || x.k == 3 then decide (x.ks.length = 0) else bif x.k == 2 then decide (x.zs.length = 0) && kidsOk x.ks else false)
theorem conv_noneN (w : World) (p : Option Addr) (c : Nat) : (convert 37 9 (.slice p 0 c)).run Tryz.prog w = .ok (.string ByteArray.empty) w := by
 rw [run_convert_bytes_string w 37 9 5 _ 0 c Tryz.underlying37 Tryz.underlying5 Tryz.underlying9]
 cases p <;> simp [Conv.bytesToString, loadCells]
 all_goals rfl
theorem isB_convN {w : World} {b off len cap : Nat} {zs : List Int} (h : IsB w (some ⟨b, off, none⟩) len zs) (hp : 0 < len) : (convert 37 9 (.slice (some ⟨b, off, none⟩) len cap)).run Tryz.prog w = .ok (.string (Fr.tx zs)) w := by
 obtain ⟨h1, h2, h3, h4⟩ := h
 refine run_convert_bytes_arg w 37 5 Tryz.underlying37 Tryz.underlying5 b off len cap zs h1 (fun i hi => ?_) 9 Tryz.underlying9
 obtain ⟨b', off', e, hc⟩ := h3 (by omega)
 cases e
 exact hc i hi
theorem conv_anyN {w : World} {pa : Option Addr} {pc : Nat} {zs : List Int} (h : IsB w pa zs.length zs) : (convert 37 9 (.slice pa zs.length pc)).run Tryz.prog w = .ok (.string (Fr.tx zs)) w := by
 by_cases hp : 0 < zs.length
 · obtain ⟨b, off, rfl, _⟩ := h.2.2.1 hp
   exact isB_convN h hp
 · have h0 : zs.length = 0 := by omega
   rw [h0, conv_noneN, List.eq_nil_of_length_eq_zero h0]; rfl
theorem take_kid {l : List Kd} {m : Nat} (h : m < l.length) : l.take (m + 1) = l.take m ++ [l.getD m Kd.no] := by
 rw [List.take_add_one, List.getD, List.getElem?_eq_getElem h]; rfl
def InB (zs : List Int) : Prop := ∀ i, 0 ≤ zs.getD i 0 ∧ zs.getD i 0 ≤ 255
theorem own_low {w : World} {base base' e size n : Nat} {v : Value} {xs : List Value} (h : w.ownsRow base e size v n xs) (hb : base' ≤ base) : w.ownsRow base' e size v n xs := by
 refine ⟨h.1, ?_⟩
 rcases h.2 with h | ⟨g, cap, cur, e1, e2, e3, e4⟩
 · exact .inl h
 · exact .inr ⟨g, cap, cur, e1, by omega, e3, e4⟩
theorem own_set {w : World} {base e size n : Nat} {v : Value} {xs : List Value} {p : Addr} (h : w.ownsRow base e size v n xs) (hp : p.block < base) (u : Value) : (w.setCell p u).ownsRow base e size v n xs := by
 refine ⟨h.1, ?_⟩
 rcases h.2 with h | ⟨g, cap, cur, e1, e2, e3, e4⟩
 · exact .inl h
 · exact .inr ⟨g, cap, cur, e1, e2, by rw [heap_setCell_other _ _ _ _ (by omega)]; exact e3, e4⟩
theorem isB_newsF {w : World} {b off len : Nat} {zs : List Int} (h : IsB w (some ⟨b, off, none⟩) len zs) : ∀ j u, (zs.map u8V)[j]? = some u → w.cell? ((⟨b, off, none⟩ : Addr).add j) = some u := by
 obtain ⟨h1, h2, h3, h4⟩ := h
 intro j u hu
 rw [List.getElem?_map] at hu
 rcases hj : zs[j]? with _ | x
 · rw [hj] at hu; cases hu
 · rw [hj] at hu
   simp only [Option.map_some, Option.some.injEq] at hu
   subst hu
   have hlt : j < zs.length := by
     rcases Nat.lt_or_ge j zs.length with q | q
     · exact q
     · rw [List.getElem?_eq_none q] at hj; cases hj
   obtain ⟨b', off', e, hc⟩ := h3 (by omega)
   cases e
   have := hc j (by omega)
   have hx : zs.getD j 0 = x := by simp [List.getD, hj]
   rw [hx] at this
   show _ = some (Value.int .u8 x)
   rw [← this]
   congr 1
   unfold Addr.add
   split
   · rename_i q; rw [q]; rfl
   · rfl
def kcells (l : List Kd) : List Value := l.flatMap Kd.cells
theorem kcells_snoc (l : List Kd) (x : Kd) : kcells (l ++ [x]) = kcells l ++ x.cells := by unfold kcells; simp
theorem kcells_len (l : List Kd) : (kcells l).length = l.length * 2 := by
 unfold kcells
 induction l with
 | nil => rfl
 | cons x t ih => rw [List.flatMap_cons, List.length_append, ih, List.length_cons]; simp [Kd.cells]; omega
theorem kcells_get (l : List Kd) (i j : Nat) (hi : i < l.length) (hj : j < 2) : (kcells l)[i * 2 + j]? = (l.getD i Kd.no).cells[j]? := by
 induction l generalizing i with
 | nil => cases hi
 | cons x t ih =>
   unfold kcells
   rw [List.flatMap_cons]
   rcases i with _ | i
   · rw [List.getElem?_append_left (by simp [Kd.cells]; omega)]
     simp
   · rw [List.getElem?_append_right (by simp [Kd.cells]; omega)]
     have e : (i + 1) * 2 + j - x.cells.length = i * 2 + j := by simp [Kd.cells]; omega
     rw [e]
     have := ih i (by simpa using hi)
     unfold kcells at this
     rw [this]
     simp [List.getD]
theorem info_kid : ∃ i : TypeInfo, Tryz.prog.info? 66 = some i ∧ i.zero = some Kd.no.val ∧ i.size = 2 ∧ i.bytes = 24 := by
 have h : (Tryz.prog.info? 66).map (fun i => (i.zero, i.size, i.bytes)) = some (some Kd.no.val, 2, 24) := by kernel_rfl
 cases hi : Tryz.prog.info? 66 with
 | none => rw [hi] at h; cases h
 | some i => rw [hi] at h; simp at h; exact ⟨i, rfl, h.1, h.2.1, h.2.2⟩
theorem kid_news {w : World} {g : Nat} {x : Kd} {t : TypeId} {fr : Nat × Nat} (hb : w.heap[g]? = some (.cells x.cells.toArray t fr)) : ∀ j u, x.cells[j]? = some u → w.cell? ((⟨g, 0, none⟩ : Addr).add j) = some u := fun j u hu => by
 have e : (⟨g, 0, none⟩ : Addr).add j = ⟨g, 0 + j, none⟩ := by unfold Addr.add; split <;> simp_all
 rw [e, cell_of_row w g _ _ t fr hb]
 simpa using hu
theorem kid_one (x : Kd) : ∀ u ∈ x.cells, u.oneCell' = true := fun u hu => by
 simp [Kd.cells] at hu
 rcases hu with rfl | rfl <;> rfl
def Nd.lie (x : Nd) (da : Option Addr) (dc : Nat) (ka : Option Addr) (kc : Nat) : Nd := ⟨x.fid, x.k, x.md, x.ln, da, dc, x.zs, ka, kc, x.ks⟩
def Nd.no : Nd := ⟨0, 0, 0, 0, none, 0, [], none, 0, []⟩
def Nd.Wf (x : Nd) : Prop := (0 ≤ x.fid ∧ x.fid < 4294967296) ∧ (0 ≤ x.k ∧ x.k < 256) ∧ (0 ≤ x.md ∧ x.md < 65536) ∧ (0 ≤ x.ln ∧ x.ln < 65536) ∧ InB x.zs ∧ x.zs.length ≤ 255 ∧ (∀ q ∈ x.ks, q.Wf ∧ q.nm.size ≤ 255) ∧ x.ks.length ≤ 255
def RowAt (w : World) (base : Nat) (t : TypeId) (p : Option Addr) (vs : List Value) : Prop := vs = [] ∨ ∃ (g : Nat) (cs : Array Value) (fr : Nat × Nat), p = some ⟨g, 0, none⟩ ∧ base ≤ g ∧ w.heap[g]? = some (.cells cs t fr) ∧ ∀ (i : Nat) (u : Value), vs[i]? = some u → cs[i]? = some u
theorem RowAt.later {w w' : World} {base : Nat} {t : TypeId} {p : Option Addr} {vs : List Value} (h : RowAt w base t p vs) (hb : Below w.heap.size w w') : RowAt w' base t p vs := by
 rcases h with h | ⟨g, cs, fr, h1, h2, h3, h4⟩
 · exact .inl h
 · exact .inr ⟨g, cs, fr, h1, h2, (hb.block _ (lt_blkR h3)).trans h3, h4⟩
theorem RowAt.own {w : World} {base : Nat} {t : TypeId} {sz n : Nat} {v : Value} {p : Option Addr} {m c : Nat} {vs : List Value} (h : w.ownsRow base t sz v n vs) (hv : v = .slice p m c) (hl : n = 0 → vs = []) : RowAt w base t p vs := by
 rcases h.2 with ⟨h1, h2⟩ | ⟨g, cap, cur, h1, h2, h3, h4⟩
 · exact .inl (hl h2)
 · rw [h1] at hv
   simp only [Value.slice.injEq] at hv
   refine .inr ⟨g, cur, _, hv.1.symm, h2, h3, fun i u hu => ?_⟩
   have e := h.cells (g := g) (by rw [h1]; rfl) i u hu
   have e2 : (⟨g, 0, none⟩ : Addr).add i = ⟨g, i, none⟩ := by unfold Addr.add; split <;> simp_all
   rw [e2, cell_of_row w g _ _ t _ h3] at e
   exact e
theorem RowAt.grown {w w' : World} {base b sz n : Nat} {t e : TypeId} {p : Option Addr} {vs xs : List Value} {v : Value} (h : RowAt w base t p vs) (hown : w.ownsRow b e sz v n xs) (hne : t ≠ e) (hg : w.grownBy w' v.ownBlock) : RowAt w' base t p vs := by
 rcases h with h | ⟨g, cs, fr, h1, h2, h3, h4⟩
 · exact .inl h
 · refine .inr ⟨g, cs, fr, h1, h2, (hg.block g (lt_blkR h3) (fun q => ?_)).trans h3, h4⟩
   rcases hown.2 with ⟨rfl, _⟩ | ⟨g', cap, cur, rfl, _, hg', _⟩
   · cases q
   · cases q
     rw [hg'] at h3
     cases h3
     exact hne rfl
def ncells (l : List Nd) : List Value := l.flatMap Nd.cells
theorem ncells_snoc (l : List Nd) (x : Nd) : ncells (l ++ [x]) = ncells l ++ x.cells := by unfold ncells; simp
theorem ncells_get (l : List Nd) (i j : Nat) (hi : i < l.length) (hj : j < 6) : (ncells l)[i * 6 + j]? = (l.getD i Nd.no).cells[j]? := by
 induction l generalizing i with
 | nil => cases hi
 | cons x t ih =>
   unfold ncells
   rw [List.flatMap_cons]
   rcases i with _ | i
   · rw [List.getElem?_append_left (by simp [Nd.cells]; omega)]
     simp
   · rw [List.getElem?_append_right (by simp [Nd.cells]; omega)]
     have e : (i + 1) * 6 + j - x.cells.length = i * 6 + j := by simp [Nd.cells]; omega
     rw [e]
     have := ih i (by simpa using hi)
     unfold ncells at this
     rw [this]
     simp [List.getD]
theorem info_nd : ∃ i : TypeInfo, Tryz.prog.info? 40 = some i ∧ i.zero = some Nd.no.val ∧ i.size = 6 ∧ i.bytes = 64 := by
 have h : (Tryz.prog.info? 40).map (fun i => (i.zero, i.size, i.bytes)) = some (some Nd.no.val, 6, 64) := by kernel_rfl
 cases hi : Tryz.prog.info? 40 with
 | none => rw [hi] at h; cases h
 | some i => rw [hi] at h; simp at h; exact ⟨i, rfl, h.1, h.2.1, h.2.2⟩
theorem nd_news {w : World} {g : Nat} {x : Nd} {t : TypeId} {fr : Nat × Nat} (hb : w.heap[g]? = some (.cells x.cells.toArray t fr)) : ∀ j u, x.cells[j]? = some u → w.cell? ((⟨g, 0, none⟩ : Addr).add j) = some u := fun j u hu => by
 have e : (⟨g, 0, none⟩ : Addr).add j = ⟨g, 0 + j, none⟩ := by unfold Addr.add; split <;> simp_all
 rw [e, cell_of_row w g _ _ t fr hb]
 simpa using hu
theorem nd_one (x : Nd) : ∀ u ∈ x.cells, u.oneCell' = true := fun u hu => by
 simp [Nd.cells] at hu
 rcases hu with rfl | rfl | rfl | rfl | rfl | rfl <;> rfl
end Go.Proofs.YtfmghbennahlfaaGreat
