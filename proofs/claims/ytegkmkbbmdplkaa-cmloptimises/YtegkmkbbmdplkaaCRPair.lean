/-
  The document's PAIRs: pair.
-/
import Derived.Test.YtegkmkbbmdplkaaCROpt
import Derived.Deep.RegionHeld3
import Derived.Deep.CutRange
namespace Go.Proofs.Ytegkmkbbmdplkaa
open Go.RowKit Go.ChangeShapes Go.WideShapes Go.ChangeAt Go.Maps Go.Shelf
set_option linter.unusedVariables false
set_option linter.unusedSimpArgs false
/-- Whether one of so many records from a place on is in a maker's way. -/
def wayIn (l : List Rec) (m : Rec) : Nat → Nat → Bool
  | 0, _ => false
  | f + 1, k => wayF (l.getD k Rec.no) m || wayIn l m f (k + 1)
def rpairF (l : List Rec) (i j : Nat) : Bool := makesF (l.getD i Rec.no).k && unmakesF (l.getD j Rec.no) (l.getD i Rec.no) && !wayIn l (l.getD i Rec.no) (j - (i + 1)) (i + 1)
theorem mk_no (x y : Rec) (h : ¬ (((y.k = 5 ∧ (x.k = 1 ∨ x.k = 3)) ∨ (y.k = 6 ∧ x.k = 2)) ∧ x.dir = y.dir ∧ (x.nm.toList == y.nm.toList) = true)) : (makesF x.k && unmakesF y x) = false := by
  rw [Bool.eq_false_iff]
  intro e
  refine h ?_
  unfold makesF unmakesF at e
  simp only [Bool.and_eq_true, Bool.or_eq_true, beq_iff_eq] at e
  obtain ⟨h1, ⟨h2, h3⟩, h4⟩ := e
  refine ⟨?_, h3.symm, by simp [h4]⟩
  split at h2 <;> omega
theorem mk_yes (x y : Rec) (h : ((y.k = 5 ∧ (x.k = 1 ∨ x.k = 3)) ∨ (y.k = 6 ∧ x.k = 2)) ∧ x.dir = y.dir ∧ (x.nm.toList == y.nm.toList) = true) : (makesF x.k && unmakesF y x) = true := by
  obtain ⟨h1, h2, h3⟩ := h
  unfold makesF unmakesF
  simp only [Bool.and_eq_true, Bool.or_eq_true, beq_iff_eq] at h3 ⊢
  refine ⟨by omega, ⟨?_, h2.symm⟩, h3.symm⟩
  split <;> omega
def mdF (x y : Rec) : Bool := (y.k == 5 && (x.k == 1 || x.k == 3)) || (y.k == 6 && x.k == 2)
theorem md_eq (x y : Rec) : (makesF x.k && unmakesF y x) = (mdF x y && (decide (x.dir = y.dir) && (x.nm.toList == y.nm.toList))) := by
  by_cases h : ((y.k = 5 ∧ (x.k = 1 ∨ x.k = 3)) ∨ (y.k = 6 ∧ x.k = 2)) ∧ x.dir = y.dir ∧ (x.nm.toList == y.nm.toList) = true
  · rw [mk_yes x y h]
    obtain ⟨h1, h2, h3⟩ := h
    rw [decide_eq_true h2, h3]
    unfold mdF
    rcases h1 with ⟨e, e' | e'⟩ | ⟨e, e'⟩ <;> rw [e, e'] <;> rfl
  · rw [mk_no x y h]
    symm
    rw [Bool.eq_false_iff]
    intro e
    refine h ?_
    unfold mdF at e
    simp only [Bool.and_eq_true, Bool.or_eq_true, beq_iff_eq, decide_eq_true_eq] at e
    exact ⟨e.1, e.2.1, by simp [e.2.2]⟩
theorem two_ops (w : World) (x y : Rec) (t : TypeId) : ((w.alloc (.cells x.ops.toArray t)).alloc (.cells y.ops.toArray t)).drew.heap[w.heap.size]? = some (.cells x.ops.toArray t (0, 0)) ∧ ((w.alloc (.cells x.ops.toArray t)).alloc (.cells y.ops.toArray t)).drew.heap[w.heap.size + 1]? = some (.cells y.ops.toArray t (0, 0)) ∧ Below w.heap.size w ((w.alloc (.cells x.ops.toArray t)).alloc (.cells y.ops.toArray t)).drew := by
  have h1 := heap_alloc_new w (.cells x.ops.toArray t)
  have b2 := below_one (w.alloc (.cells x.ops.toArray t)) (.cells y.ops.toArray t)
  have h2 := heap_alloc_new (w.alloc (.cells x.ops.toArray t)) (.cells y.ops.toArray t)
  rw [show (w.alloc (.cells x.ops.toArray t)).heap.size = w.heap.size + 1 by simp] at h2
  exact ⟨(b2.block _ (lt_blkR h1)).trans h1, h2, Below.drew ((below_one w _).trans (b2.mono (below_one w _).size))⟩
theorem op_cells {w : World} {g : Nat} {x : Rec} {t : TypeId} {fr : Nat × Nat} (h : w.heap[g]? = some (.cells x.ops.toArray t fr)) : w.cell? ⟨g, 0, none⟩ = some (.int .u8 x.k) ∧ w.cell? ⟨g, 1, none⟩ = some (.int .u32 x.fid) ∧ w.cell? ⟨g, 2, none⟩ = some (.int .u32 x.dir) ∧ w.cell? ⟨g, 3, none⟩ = some (.string x.nm) := by
  refine ⟨?_, ?_, ?_, ?_⟩ <;> (rw [cell_of_row w g _ _ t fr h]; rfl)
theorem op_laters {w : World} {g : Nat} {x : Rec} {t : TypeId} {fr : Nat × Nat} (h : w.heap[g]? = some (.cells x.ops.toArray t fr)) : ∀ w', Below w.heap.size w w' → w'.heap[g]? = some (.cells x.ops.toArray t fr) := fun w' hb => (hb.block _ (lt_blkR h)).trans h
set_option maxRecDepth 20000 in
set_option maxHeartbeats 4000000 in
theorem rpair_c (a : Option Addr) (cap : Nat) (l : List Rec) (i j : Nat) (w : World) (h : IsL w a l) (hm : l.length ≤ 100000) (hij : i < j) (hj : j < l.length) :
    Calls Try.prog 37 #[.slice a l.length cap, .int .i64 i, .int .i64 j] w fun e w' => e = .returned (.bool (rpairF l i j)) ∧ Below w.heap.size w w' := by
  obtain ⟨b, off, rfl, hc⟩ := h.2.2 (by omega)
  have HL := hid h
  have hx := hc i (by omega)
  have hy := hc j (by omega)
  clear hc h
  unfold rpairF
  have HX := hid hx
  generalize l.getD i Rec.no = x at *
  generalize l.getD j Rec.no = y at *
  obtain ⟨MU, hMU⟩ : ∃ MU, MU = (makesF x.k && unmakesF y x) := ⟨_, rfl⟩
  rw [← hMU]
  have HMU := hid hMU
  clear hMU
  obtain ⟨R, hR⟩ : ∃ R, R = wayIn l x (j - (i + 1)) (i + 1) := ⟨_, rfl⟩
  rw [← hR]
  have HR := hid hR
  clear hR
  obtain ⟨n, hn⟩ : ∃ n, n = l.length := ⟨_, rfl⟩
  rw [← hn] at hm hj ⊢
  have HN := hid hn
  have hiI : (i : Int) < n := by omega
  have hjI : (j : Int) < n := by omega
  have x0 : w.cell? ⟨b, off + i * 9, none⟩ = some (.int .u8 x.k) := hx 0 _ rfl
  have x1 : w.cell? ⟨b, off + i * 9 + 1, none⟩ = some (.int .u32 x.fid) := hx 1 _ rfl
  have x2 : w.cell? ⟨b, off + i * 9 + 2, none⟩ = some (.int .u32 x.dir) := hx 2 _ rfl
  have x3 : w.cell? ⟨b, off + i * 9 + 3, none⟩ = some (.string x.nm) := hx 3 _ rfl
  have x4 : w.cell? ⟨b, off + i * 9 + 4, none⟩ = some (.int .u32 x.to) := hx 4 _ rfl
  have x5 : w.cell? ⟨b, off + i * 9 + 5, none⟩ = some (.string x.nm2) := hx 5 _ rfl
  have x6 : w.cell? ⟨b, off + i * 9 + 6, none⟩ = some (.int .u16 x.md) := hx 6 _ rfl
  have x7 : w.cell? ⟨b, off + i * 9 + 7, none⟩ = some (.string x.dt) := hx 7 _ rfl
  have y0 : w.cell? ⟨b, off + j * 9, none⟩ = some (.int .u8 y.k) := hy 0 _ rfl
  have y1 : w.cell? ⟨b, off + j * 9 + 1, none⟩ = some (.int .u32 y.fid) := hy 1 _ rfl
  have y2 : w.cell? ⟨b, off + j * 9 + 2, none⟩ = some (.int .u32 y.dir) := hy 2 _ rfl
  have y3 : w.cell? ⟨b, off + j * 9 + 3, none⟩ = some (.string y.nm) := hy 3 _ rfl
  have y4 : w.cell? ⟨b, off + j * 9 + 4, none⟩ = some (.int .u32 y.to) := hy 4 _ rfl
  have y5 : w.cell? ⟨b, off + j * 9 + 5, none⟩ = some (.string y.nm2) := hy 5 _ rfl
  have y6 : w.cell? ⟨b, off + j * 9 + 6, none⟩ = some (.int .u16 y.md) := hy 6 _ rfl
  have y7 : w.cell? ⟨b, off + j * 9 + 7, none⟩ = some (.string y.dt) := hy 7 _ rfl
  have hbl : b < w.heap.size := by
    by_cases e : b < w.heap.size
    · exact e
    · have : w.heap[b]? = none := by simp; omega
      simp [World.cell?, this] at x0
  have hne1 : b ≠ w.heap.size := by omega
  have hne2 : b ≠ w.heap.size + 1 := by omega
  clear hx hy hn
  go_enter Try.func37, Try.ntmps37
  go_upto_region 1 with fail
  go_cut [7, 8] from 11 to 20 (fun s7 s8 wx => ∃ A B : Nat, s7 = .pointer (some ⟨A, 0, none⟩) ∧ s8 = .pointer (some ⟨B, 0, none⟩) ∧ Hid (wx.heap[A]? = some (.cells x.ops.toArray 34 (0, 0))) ∧ Hid (wx.heap[B]? = some (.cells y.ops.toArray 34 (0, 0))) ∧ Hid (Below w.heap.size w wx))
  case first =>
    go_region_held3 (fun w' => w'.cell? ⟨b, off + i * 9, none⟩ = some (.int .u8 x.k) ∧ w'.cell? ⟨b, off + i * 9 + 1, none⟩ = some (.int .u32 x.fid) ∧ w'.cell? ⟨b, off + i * 9 + 2, none⟩ = some (.int .u32 x.dir) ∧ w'.cell? ⟨b, off + i * 9 + 3, none⟩ = some (.string x.nm) ∧ w'.cell? ⟨b, off + i * 9 + 4, none⟩ = some (.int .u32 x.to) ∧ w'.cell? ⟨b, off + i * 9 + 5, none⟩ = some (.string x.nm2) ∧ w'.cell? ⟨b, off + i * 9 + 6, none⟩ = some (.int .u16 x.md) ∧ w'.cell? ⟨b, off + i * 9 + 7, none⟩ = some (.string x.dt) ∧ w'.cell? ⟨b, off + j * 9, none⟩ = some (.int .u8 y.k) ∧ w'.cell? ⟨b, off + j * 9 + 1, none⟩ = some (.int .u32 y.fid) ∧ w'.cell? ⟨b, off + j * 9 + 2, none⟩ = some (.int .u32 y.dir) ∧ w'.cell? ⟨b, off + j * 9 + 3, none⟩ = some (.string y.nm) ∧ w'.cell? ⟨b, off + j * 9 + 4, none⟩ = some (.int .u32 y.to) ∧ w'.cell? ⟨b, off + j * 9 + 5, none⟩ = some (.string y.nm2) ∧ w'.cell? ⟨b, off + j * 9 + 6, none⟩ = some (.int .u16 y.md) ∧ w'.cell? ⟨b, off + j * 9 + 7, none⟩ = some (.string y.dt)) (first | go_keep) (fail)
    · go_wp2_with fail
      go_meet
      exact ⟨_, _, rfl, rfl, hid (two_ops w x y 34).1, hid (two_ops w x y 34).2.1, hid (two_ops w x y 34).2.2⟩
    · go_wp2_with fail
      go_meet
      exact ⟨_, _, rfl, rfl, hid (two_ops w y x 34).2.1, hid (two_ops w y x 34).1, hid (two_ops w y x 34).2.2⟩
  case rest =>
    obtain ⟨A, B, rfl, rfl, HA0, HB0, HW⟩ := hcut
    clear x0 x1 x2 x3 x4 x5 x6 x7 y0 y1 y2 y3 y4 y5 y6 y7 hne1 hne2 hbl
    obtain ⟨a0, a1, a2, a3⟩ := op_cells (x := x) HA0.out
    obtain ⟨b0, b1, b2, b3⟩ := op_cells (x := y) HB0.out
    have HA := hid (op_laters (x := x) HA0.out)
    generalize wc = W at *
    obtain ⟨Mb, hMb⟩ : ∃ Mb, Mb = mdF x y := ⟨_, rfl⟩
    have HMb := hid hMb
    clear HA0 HB0 hMb
    go_upto_region 2 with fail
    go_cut [9] from 21 to 43 (fun s9 wx => s9 = .bool Mb ∧ wx = W)
    case first =>
      go_wp2_with fail
      all_goals (go_meet; refine ⟨?_, rfl⟩; rw [HMb.out]; unfold mdF; first | rfl | (simp [*]; done) | (rename_i h1 h2; simp [h1, h2]; done) | trace_state)
    case rest =>
      obtain ⟨rfl, rfl⟩ := hcut
      generalize wc = W at *
      have HMM := hid (md_eq x y)
      rw [← HMb.out] at HMM
      clear HMb
      rw [← HMU.out] at HMM
      have HM := HMM
      clear HMM
      by_cases q1 : x.dir = y.dir
      · cases q2 : (x.nm.toList == y.nm.toList) with
        | true =>
          cases Mb with
          | true =>
            have HM2 : Hid (MU = true) := hid (by have := HM.out; rw [q2] at this; simpa [q1] using this)
            clear HM
            have HM := HM2
            clear HM2
            go_wp2_with fail
            clear q1 q2
            go_loopg [10] n (fun g v wr => ∃ m : Nat, i + 1 ≤ m ∧ m ≤ j ∧ m + g = n + i + 1 ∧ v = .int .i64 m ∧ Hid (R = wayIn l x (j - m) m) ∧ Hid (Below W.heap.size W wr))
            case atStart => exact ⟨i + 1, by omega, by omega, by omega, by go_num, hid HR.out, hid (Below.refl _ _)⟩
            case round =>
              obtain ⟨m, hmi, hmj, hmg, rfl, HD, HB⟩ := hrel
              by_cases hlt : m < j
              · have hltI : (m : Int) < j := by omega
                have hltN : (m : Int) < n := by omega
                have HE : Hid (R = (wayF (l.getD m Rec.no) x || wayIn l x (j - (m + 1)) (m + 1))) := hid (by
                  rw [HD.out, show j - m = (j - (m + 1)) + 1 by omega]; rfl)
                have hil := (HL.out.later HW.out).later HB.out
                have hz := hil.at (i := m) (by rw [← HN.out]; omega)
                clear hil HD
                generalize l.getD m Rec.no = z at *
                have z0 : ∀ w', Below wr.heap.size wr w' → w'.cell? ⟨b, off + m * 9, none⟩ = some (.int .u8 z.k) := fun w' h => (hz.later h) 0 _ rfl
                have z1 : ∀ w', Below wr.heap.size wr w' → w'.cell? ⟨b, off + m * 9 + 1, none⟩ = some (.int .u32 z.fid) := fun w' h => (hz.later h) 1 _ rfl
                have z2 : ∀ w', Below wr.heap.size wr w' → w'.cell? ⟨b, off + m * 9 + 2, none⟩ = some (.int .u32 z.dir) := fun w' h => (hz.later h) 2 _ rfl
                have z3 : ∀ w', Below wr.heap.size wr w' → w'.cell? ⟨b, off + m * 9 + 3, none⟩ = some (.string z.nm) := fun w' h => (hz.later h) 3 _ rfl
                have z4 : ∀ w', Below wr.heap.size wr w' → w'.cell? ⟨b, off + m * 9 + 4, none⟩ = some (.int .u32 z.to) := fun w' h => (hz.later h) 4 _ rfl
                have z5 : ∀ w', Below wr.heap.size wr w' → w'.cell? ⟨b, off + m * 9 + 5, none⟩ = some (.string z.nm2) := fun w' h => (hz.later h) 5 _ rfl
                have z6 : ∀ w', Below wr.heap.size wr w' → w'.cell? ⟨b, off + m * 9 + 6, none⟩ = some (.int .u16 z.md) := fun w' h => (hz.later h) 6 _ rfl
                have z7 : ∀ w', Below wr.heap.size wr w' → w'.cell? ⟨b, off + m * 9 + 7, none⟩ = some (.string z.dt) := fun w' h => (hz.later h) 7 _ rfl
                have z8 : ∀ w', Below wr.heap.size wr w' → w'.cell? ⟨b, off + m * 9 + 8, none⟩ = some (.int .u64 z.sn) := fun w' h => (hz.later h) 8 _ rfl
                have c1 := fun w' (h : Below wr.heap.size wr w') => (op_cells (HA.out w' (HB.out.trans (h.mono HB.out.size)))).2.1
                have c2 := fun w' (h : Below wr.heap.size wr w') => (op_cells (HA.out w' (HB.out.trans (h.mono HB.out.size)))).2.2.1
                have c3 := fun w' (h : Below wr.heap.size wr w') => (op_cells (HA.out w' (HB.out.trans (h.mono HB.out.size)))).2.2.2
                have TC0 := fun W => rtouches_c z x.fid W
                have EC0 := fun W => rentry_c z x.dir x.nm W
                have CC0 := fun W => rcontent_c z x.fid W
                clear hz
                unfold wayF at HE
                cases ht : touchF z x.fid <;> cases he : namesF z x.dir x.nm <;> cases hc : (setsF z.k && z.fid == x.fid)
                all_goals
                  rw [ht] at TC0
                  rw [he] at EC0
                  rw [hc] at CC0
                  rw [ht, he, hc] at HE
                  simp only [Bool.not_true, Bool.not_false, Bool.false_and, Bool.true_and, Bool.or_true, Bool.true_or, Bool.or_self, Bool.false_or] at HE
                  have TC := hid TC0
                  have EC := hid EC0
                  have CC := hid CC0
                  clear TC0 EC0 CC0 ht he hc
                  go_wp2
                  refine wp_region_class (by kernel_rfl) (by kernel_rfl) ?_
                  repeat (first
                    | go_big_quiet_skip
                    | (go_big_quiet_want
                       apply quiet_by
                       · intro w7 hw7
                         have z0 := z0 w7 hw7
                         have z1 := z1 w7 hw7
                         have z2 := z2 w7 hw7
                         have z3 := z3 w7 hw7
                         have z4 := z4 w7 hw7
                         have z5 := z5 w7 hw7
                         have z6 := z6 w7 hw7
                         have z7 := z7 w7 hw7
                         have z8 := z8 w7 hw7
                         have c1 := c1 w7 hw7
                         have c2 := c2 w7 hw7
                         have c3 := c3 w7 hw7
                         go_simp
                         first
                           | rfl
                           | (go_at_call 19; exact class_of hw7 (TC.out _))
                           | (go_at_call 41; exact class_of hw7 (EC.out _))
                           | (go_at_call 42; exact class_of hw7 (CC.out _))
                       · go_simp; rfl
                       go_big_quiet_on))
                  refine wpQuiet_nil ?_
                  intro w8 hw8
                  have HB8 := hid (HB.out.trans (hw8.mono HB.out.size))
                  clear z0 z1 z2 z3 z4 z5 z6 z7 z8 c1 c2 c3 hw8
                  go_wp2
                  first
                    | (go_ret; exact ⟨ret_bool (by rw [HM.out, HE.out]; rfl), HW.out.trans (HB8.out.mono HW.out.size)⟩)
                    | (go_roundg (gk - 1)
                       case measure => omega
                       case rel => exact ⟨m + 1, by omega, by omega, by omega, by go_num, HE, HB8⟩)
              · have em : m = j := by omega
                subst em
                have hge : ¬ (m : Int) < m := by omega
                have HE : Hid (R = false) := hid (by rw [HD.out, Nat.sub_self]; rfl)
                clear HD
                go_wp2
                go_ret
                exact ⟨ret_bool (by rw [HM.out, HE.out]; rfl), HW.out.trans (HB.out.mono HW.out.size)⟩
          | false =>
            go_wp2_with fail
            go_ret
            exact ⟨ret_bool (by have := HM.out; rw [this]; rfl), HW.out⟩
        | false =>
          have HM2 : Hid (MU = false) := hid (by have := HM.out; rw [q2] at this; simpa using this)
          cases Mb <;> (go_wp2_with fail; go_ret; exact ⟨ret_bool (by rw [HM2.out]; rfl), HW.out⟩)
      · have HM2 : Hid (MU = false) := hid (by have := HM.out; simpa [q1] using this)
        cases Mb <;> (go_wp2_with fail; go_ret; exact ⟨ret_bool (by rw [HM2.out]; rfl), HW.out⟩)
end Go.Proofs.Ytegkmkbbmdplkaa
