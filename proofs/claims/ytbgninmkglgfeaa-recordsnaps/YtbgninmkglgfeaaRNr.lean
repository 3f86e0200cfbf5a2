/-
  All of bytes as a node: takeAll, read, ReadNode of the package record. (Written by gen_recreadn.py.)
-/
import Derived.Test.YtbgninmkglgfeaaRNn
namespace Go.Proofs.Ytbgninmkglgfeaa
open Go.RowKit Go.ChangeShapes Go.WideShapes Go.ChangeAt Go.Maps Go.Shelf
set_option linter.unusedVariables false
set_option linter.unusedSimpArgs false
/-- What all of bytes say, as a node. -/
def nodeAll (zs : List Int) : Option Nd := match nodeP zs with
  | some (x, []) => some x
  | _ => none
def AllN (w : World) (res : Option Nd) (e : Ending) (w' : World) : Prop :=
  Below w.heap.size w w' ∧ match res with
    | some x => ∃ da dc ka kc, e = .returned (x.lie da dc ka kc).val ∧ NdOwn w' w.heap.size (x.lie da dc ka kc)
    | none => e = PN
theorem takesN_none {w w' : World} {r : Nat} {e : Ending} (h : TakesN w r none e w') : Kr r w w' ∧ e = PN := h
theorem takesN_some {w w' : World} {r : Nat} {x : Nd} {t : List Int} {e : Ending} (h : TakesN w r (some (x, t)) e w') : Kr r w w' ∧ (∃ da dc ka kc, e = .returned (x.lie da dc ka kc).val ∧ NdOwn w' w.heap.size (x.lie da dc ka kc)) ∧ ∃ a c, Rdr w' r a c t := h
set_option maxRecDepth 20000 in
set_option maxHeartbeats 2000000 in
theorem takeAllN_c (a : Option Addr) (n c : Nat) (zs : List Int) (w : World) (h : IsB w a n zs) (hc : n ≤ c) (hl : Lies w a c) :
    Calls Try.prog 62 #[.slice a n c, .func (.func 30) #[] #[]] w (AllN w (nodeAll zs)) := by
  have b0 := below_1 w (.cells Nd.no.cells.toArray 39)
  have hB0 := heap_alloc_new w (.cells Nd.no.cells.toArray 39)
  have s0 : (w.alloc (.cells Nd.no.cells.toArray 39)).heap.size = w.heap.size + 1 := by simp
  have b1 := below_1 (w.alloc (.cells Nd.no.cells.toArray 39)) (.cells #[.slice a n c] 134)
  have hr1 := heap_alloc_new (w.alloc (.cells Nd.no.cells.toArray 39)) (.cells #[.slice a n c] 134)
  rw [s0] at hr1
  have hB1 := (b1.block _ (lt_blkR hB0)).trans hB0
  have B1 := hid (b0.trans (b1.mono b0.size))
  have hn := h.1
  subst hn
  have hR : Rdr ((w.alloc (.cells Nd.no.cells.toArray 39)).alloc (.cells #[.slice a zs.length c] 134)) (w.heap.size + 1) a c zs := ⟨hr1, (h.later b0).later b1, hc, by
    rcases hl with hl | ⟨b, off, e, hb⟩
    · exact .inl hl
    · exact .inr ⟨b, off, e, by omega⟩⟩
  have TC := hid (takeNode_c hR)
  have s1 : ((w.alloc (.cells Nd.no.cells.toArray 39)).alloc (.cells #[.slice a zs.length c] 134)).heap.size = w.heap.size + 2 := by simp
  have HB1 := hid hB1
  have S1 := hid s1
  clear h hl b0 b1 hB0 hB1 hr1 hR s0 s1
  unfold nodeAll
  rcases ho : nodeP zs with _ | ⟨x, rest⟩
  · rw [ho] at TC
    go_enter Try.func62, Try.ntmps62
    go_wp2_with (go_at_call 30; refine TC.out.mono ?_; intro e9 w9 h9; obtain ⟨hk9, rfl⟩ := takesN_none h9)
    exact ⟨rfl, B1.out.trans (hk9.below (by rw [S1.out]; omega) (by omega)), rfl⟩
  · rw [ho] at TC
    rcases rest with _ | ⟨q, qs⟩
    · go_enter Try.func62, Try.ntmps62
      go_wp2_with (first
        | (go_at_call 54; refine (refuse_f _).mono ?_; rintro _ wf ⟨rfl, hwf⟩; have hwf2 := hwf.symm; clear hwf; subst hwf2)
        | (go_at_call 30; refine TC.out.mono ?_; intro e9 w9 h9; obtain ⟨hk9, ⟨da, dc, ka, kc, rfl, hO9⟩, a9, c9, hR9⟩ := takesN_some h9
           have b9 := below_1 w9 (.cells (⟨x.fid, x.k, x.md, x.ln, da, dc, x.zs, ka, kc, x.ks⟩ : Nd).cells.toArray 39)
           have hR10 := (rdr_later hR9 b9).cell.1
           have hX10 := heap_alloc_new w9 (.cells (⟨x.fid, x.k, x.md, x.ln, da, dc, x.zs, ka, kc, x.ks⟩ : Nd).cells.toArray 39)
           have hB9 := (hk9.block w.heap.size (by rw [S1.out]; omega) (by omega)).trans HB1.out
           have hB10 := (b9.block _ (lt_blkR hB9)).trans hB9
           obtain ⟨p0, p1, p2, p3, p4, p5⟩ := nd_cells hX10
           obtain ⟨q0, q1, q2, q3, q4, q5⟩ := nd_cells hB10
           have fz : ∀ i, (w9.alloc (.cells (⟨x.fid, x.k, x.md, x.ln, da, dc, x.zs, ka, kc, x.ks⟩ : Nd).cells.toArray 39)).frozen? ⟨w.heap.size, i, none⟩ = false := fun i => by simp [World.frozen?, hB10]
           have K9 := hid (B1.out.trans (hk9.below (by rw [S1.out]; omega) (by omega)))
           have O9 := hid ((hO9.later b9).low (b := w.heap.size + 1) (by rw [S1.out]; omega))
           unfold Nd.lie Nd.val
           simp only [Nd.cells, Nd.no, List.length_nil] at hR10 p0 p1 p2 p3 p4 p5 q0 q1 q2 q3 q4 q5 fz
           clear h9 hX10 hB9 hB10 b9 hR9 hk9 hO9))
      refine bodyPost_ret (v := Nd.val (⟨x.fid, x.k, x.md, x.ln, da, dc, x.zs, ka, kc, x.ks⟩ : Nd)) (by simp [results, Try.results62, go_sem, Nd.val, q0, q1, q2, q3, q4, q5]) rfl ⟨((((((K9.out.alloc K9.out.size _).setCell (Nat.le_refl _) _).setCell (Nat.le_refl _) _).setCell (Nat.le_refl _) _).setCell (Nat.le_refl _) _).setCell (Nat.le_refl _) _).setCell (Nat.le_refl _) _, da, dc, ka, kc, rfl, ?_⟩
      exact ((((((O9.out.set (Nat.lt_succ_self _) _).set (Nat.lt_succ_self _) _).set (Nat.lt_succ_self _) _).set (Nat.lt_succ_self _) _).set (Nat.lt_succ_self _) _).set (Nat.lt_succ_self _) _).low (Nat.le_succ _)
    · have hqq : 0 < (q :: qs).length := by simp
      obtain ⟨qn, hqn⟩ : ∃ qn, qn = (q :: qs).length := ⟨_, rfl⟩
      have HQN := hid hqn
      rw [← hqn] at hqq
      have hqd : decide (0 < qn) = true := decide_eq_true hqq
      have hqI : (0 : Int) < (qn : Int) := by omega
      clear hqn
      go_enter Try.func62, Try.ntmps62
      go_wp2_with (first
        | (go_at_call 54; refine (refuse_t _).mono ?_; rintro _ wf ⟨rfl, hwf⟩; have hwf2 := hwf.symm; clear hwf; subst hwf2)
        | (go_at_call 30; refine TC.out.mono ?_; intro e9 w9 h9; obtain ⟨hk9, ⟨da, dc, ka, kc, rfl, hO9⟩, a9, c9, hR9⟩ := takesN_some h9
           have b9 := below_1 w9 (.cells (⟨x.fid, x.k, x.md, x.ln, da, dc, x.zs, ka, kc, x.ks⟩ : Nd).cells.toArray 39)
           have hR10 := (rdr_later hR9 b9).cell.1
           rw [← HQN.out] at hR10
           have K9 := hid (B1.out.trans (hk9.below (by rw [S1.out]; omega) (by omega)))
           unfold Nd.lie Nd.val
           simp only [Nd.cells] at hR10
           clear h9 b9 hR9 hk9 hO9))
      exact ⟨rfl, K9.out.alloc K9.out.size _, rfl⟩
set_option maxHeartbeats 2000000 in
theorem catchN_idle (p : Addr) (w : World) :
    CallsD Try.prog 61 #[.pointer (some p)] .returning w fun e u' w' => e = .returned (.tuple #[]) ∧ u' = .returning ∧ w' = w := by
  refine callsD_of_wpS Try.func61 rfl fun c₀ cs hu => ?_
  apply wpS_seq
  apply wpS_region
  simp [wpOpsS, go_sem, recoverD, hu, Try.ntmps61, Exit.thenS]
  refine wpS_of_wp ?_
  go_wp2
  cases c₀
  simp_all [bodyPostS, results, Try.results61]
set_option maxHeartbeats 2000000 in
theorem catchN_panicking (p : Addr) (x : Int) (older : List PanicEntry) (w : World) (hc : w.cell? p = some (.int .i64 x)) (hz : w.frozen? p = false) (hp : p.block < w.heap.size) :
    CallsD Try.prog 61 #[.pointer (some p)] (.panicking ({ v := .iface 93 (.agg #[.int .i64 3]), recovered := false } :: older)) w fun e u' w' =>
      e = .returned (.tuple #[]) ∧ u' = .panicking ({ v := .iface 93 (.agg #[.int .i64 3]), recovered := true } :: older) ∧ w' = (w.alloc (.cells #[.int .i64 3] 93)).setCell p (.int .i64 3) := by
  refine callsD_of_wpS Try.func61 rfl fun c₀ cs hu => ?_
  apply wpS_seq
  apply wpS_region
  simp [wpOpsS, go_sem, recoverD, hu, Try.ntmps61, Exit.thenS]
  refine wpS_of_wp ?_
  have hta : ∀ W : World, (Instr.typeAssert (.iface 93 (.agg #[.int .i64 3])) 20 93 true).run Try.prog W = .ok (.tuple #[.agg #[.int .i64 3], .bool true]) W := fun W => by
    simp [Instr.typeAssert, go_sem, Try.underlying93]
  have hne : p.block ≠ w.heap.size := by omega
  have hc2 : (w.alloc (.cells #[.int .i64 3] 93)).cell? p = some (.int .i64 x) := cell_later (below_1 w _) hc
  have hz2 : (w.alloc (.cells #[.int .i64 3] 93)).frozen? p = false := by rw [World.frozen?_of_block ((below_1 w (.cells #[.int .i64 3] 93)).block p.block hp)]; exact hz
  go_wp2
  simp [bodyPostS, results, Try.results61]
def ReadsN (w : World) (res : Option Nd) (e : Ending) (w' : World) : Prop :=
  Below w.heap.size w w' ∧ match res with
    | some x => ∃ da dc ka kc, e = .returned (.tuple #[(x.lie da dc ka kc).val, .int .i64 0]) ∧ NdOwn w' w.heap.size (x.lie da dc ka kc)
    | none => e = .returned (.tuple #[Nd.no.val, .int .i64 3])
set_option maxRecDepth 20000 in
set_option maxHeartbeats 2000000 in
theorem readN1_c (a : Option Addr) (n c : Nat) (zs : List Int) (w : World) (h : IsB w a n zs) (hc : n ≤ c) (hl : Lies w a c) :
    Calls Try.prog 29 #[.slice a n c, .func (.func 30) #[] #[]] w (ReadsN w (nodeAll zs)) := by
  have hmf : ∀ (fn : Fn) (first cap : Array Value) (w : World), (Instr.makeFunc fn first cap).run Try.prog w = .ok (.func fn first cap) w := fun _ _ _ _ => rfl
  have b0 := below_1 w (.cells Nd.no.cells.toArray 39)
  have hB0 := heap_alloc_new w (.cells Nd.no.cells.toArray 39)
  have s0 : (w.alloc (.cells Nd.no.cells.toArray 39)).heap.size = w.heap.size + 1 := by simp
  have b1 := below_1 (w.alloc (.cells Nd.no.cells.toArray 39)) (.cells #[.int .i64 0] 30)
  have hE1 := heap_alloc_new (w.alloc (.cells Nd.no.cells.toArray 39)) (.cells #[.int .i64 0] 30)
  rw [s0] at hE1
  have s1 : ((w.alloc (.cells Nd.no.cells.toArray 39)).alloc (.cells #[.int .i64 0] 30)).heap.size = w.heap.size + 2 := by simp
  have hB1 := (b1.block _ (lt_blkR hB0)).trans hB0
  have B1 := hid (b0.trans (b1.mono b0.size))
  have TC := hid (takeAllN_c a n c zs _ ((h.later b0).later b1) hc (by
    rcases hl with hl | ⟨b, off, e, hb⟩
    · exact .inl hl
    · exact .inr ⟨b, off, e, by simp; omega⟩))
  have HB1 := hid hB1
  have HE1 := hid hE1
  have S1 := hid s1
  clear h hl b0 b1 hB0 hB1 hE1 s0 s1
  unfold AllN at TC
  rcases ho : nodeAll zs with _ | x
  · rw [ho] at TC
    go_enter_defers Try.func29, Try.ntmps29
    go_wp2_with (go_at_call 62; refine TC.out.mono ?_; rintro _ w2 ⟨hb2, rfl⟩
                 have hB2 := (hb2.block _ (lt_blkR HB1.out)).trans HB1.out
                 have hE2 := (hb2.block _ (lt_blkR HE1.out)).trans HE1.out
                 obtain ⟨q0, q1, q2, q3, q4, q5⟩ := nd_cells hB2
                 have fz : ∀ i, w2.frozen? ⟨w.heap.size, i, none⟩ = false := fun i => by simp [World.frozen?, hB2]
                 have fe : w2.frozen? ⟨w.heap.size + 1, 0, none⟩ = false := by simp [World.frozen?, hE2]
                 have ce : w2.cell? ⟨w.heap.size + 1, 0, none⟩ = some (.int .i64 0) := by rw [cell_of_row _ _ _ _ _ _ hE2]; rfl)
    refine leaves_cons (f := 61) (args := #[.pointer (some ⟨w.heap.size + 1, 0, none⟩)]) (by simp) (by simp [go_sem]) ?_
    refine (catchN_panicking ⟨w.heap.size + 1, 0, none⟩ 0 [] w2 ce fe (lt_blkR hE2)).mono ?_
    have b3 := below_1 w2 (.cells #[.int .i64 3] 93)
    have hB3 : ((w2.alloc (.cells #[.int .i64 3] 93)).setCell ⟨w.heap.size + 1, 0, none⟩ (.int .i64 3)).heap[w.heap.size]? = some (.cells Nd.no.cells.toArray 39 (0, 0)) := by
      rw [heap_setCell_other _ _ _ _ (by simp)]; exact (b3.block _ (lt_blkR hB2)).trans hB2
    have hE3 := heap_setBox (W := w2.alloc (.cells #[.int .i64 3] 93)) (.int .i64 3) ((b3.block _ (lt_blkR hE2)).trans hE2)
    obtain ⟨r0, r1, r2, r3, r4, r5⟩ := nd_cells hB3
    have rE := cell_box hE3
    have B3 := hid (((B1.out.trans (hb2.mono B1.out.size)).trans (b3.mono (Nat.le_trans B1.out.size hb2.size))).setCell (p := ⟨w.heap.size + 1, 0, none⟩) (by simp) (.int .i64 3))
    rintro e u' w'' ⟨rfl, rfl, hw⟩
    rw [hw]
    generalize (w2.alloc (.cells #[.int .i64 3] 93)).setCell ⟨w.heap.size + 1, 0, none⟩ (.int .i64 3) = w4 at *
    simp [Leaves, settle, results, Try.results29, go_sem, ReadsN, Nd.val, Nd.no, r0, r1, r2, r3, r4, r5, rE]
    exact B3.out
  · rw [ho] at TC
    simp only at TC
    go_enter_defers Try.func29, Try.ntmps29
    go_wp2_with (go_at_call 62; refine TC.out.mono ?_; rintro _ w2 ⟨hb2, da, dc, ka, kc, rfl, hO2⟩
                 have hB2 := (hb2.block _ (lt_blkR HB1.out)).trans HB1.out
                 have hE2 := (hb2.block _ (lt_blkR HE1.out)).trans HE1.out
                 obtain ⟨q0, q1, q2, q3, q4, q5⟩ := nd_cells hB2
                 have fz : ∀ i, w2.frozen? ⟨w.heap.size, i, none⟩ = false := fun i => by simp [World.frozen?, hB2]
                 have fe : w2.frozen? ⟨w.heap.size + 1, 0, none⟩ = false := by simp [World.frozen?, hE2]
                 have ce : w2.cell? ⟨w.heap.size + 1, 0, none⟩ = some (.int .i64 0) := by rw [cell_of_row _ _ _ _ _ _ hE2]; rfl
                 have O2 := hid (hO2.low (b := w.heap.size + 2) (by rw [S1.out]; exact Nat.le_refl _))
                 have BB2 := hid (B1.out.trans (hb2.mono B1.out.size))
                 unfold Nd.lie Nd.val
                 clear hO2 hb2)
    refine leaves_cons (f := 61) (args := #[.pointer (some ⟨w.heap.size + 1, 0, none⟩)]) (by simp) (by simp [go_sem]) ?_
    refine (catchN_idle ⟨w.heap.size + 1, 0, none⟩ _).mono ?_
    rintro e u' w'' ⟨rfl, rfl, rfl⟩
    have FIN : Below w.heap.size w (((((((w2.setCell ⟨w.heap.size, 0, none⟩ (.int .u32 x.fid)).setCell ⟨w.heap.size, 1, none⟩ (.int .u8 x.k)).setCell ⟨w.heap.size, 2, none⟩ (.int .u16 x.md)).setCell ⟨w.heap.size, 3, none⟩ (.int .u16 x.ln)).setCell ⟨w.heap.size, 4, none⟩ (.slice da x.zs.length dc)).setCell ⟨w.heap.size, 5, none⟩ (.slice ka x.ks.length kc)).setCell ⟨w.heap.size + 1, 0, none⟩ (.int .i64 0)) ∧ NdOwn (((((((w2.setCell ⟨w.heap.size, 0, none⟩ (.int .u32 x.fid)).setCell ⟨w.heap.size, 1, none⟩ (.int .u8 x.k)).setCell ⟨w.heap.size, 2, none⟩ (.int .u16 x.md)).setCell ⟨w.heap.size, 3, none⟩ (.int .u16 x.ln)).setCell ⟨w.heap.size, 4, none⟩ (.slice da x.zs.length dc)).setCell ⟨w.heap.size, 5, none⟩ (.slice ka x.ks.length kc)).setCell ⟨w.heap.size + 1, 0, none⟩ (.int .i64 0)) w.heap.size (⟨x.fid, x.k, x.md, x.ln, da, dc, x.zs, ka, kc, x.ks⟩ : Nd) := ⟨(((((((BB2.out.setCell (p := ⟨w.heap.size, 0, none⟩) (Nat.le_refl _) _).setCell (p := ⟨w.heap.size, 1, none⟩) (Nat.le_refl _) _).setCell (p := ⟨w.heap.size, 2, none⟩) (Nat.le_refl _) _).setCell (p := ⟨w.heap.size, 3, none⟩) (Nat.le_refl _) _).setCell (p := ⟨w.heap.size, 4, none⟩) (Nat.le_refl _) _).setCell (p := ⟨w.heap.size, 5, none⟩) (Nat.le_refl _) _).setCell (p := ⟨w.heap.size + 1, 0, none⟩) (Nat.le_succ _) _), ((((((((O2.out.set (p := ⟨w.heap.size, 0, none⟩) (by show w.heap.size < w.heap.size + 2; omega) _).set (p := ⟨w.heap.size, 1, none⟩) (by show w.heap.size < w.heap.size + 2; omega) _).set (p := ⟨w.heap.size, 2, none⟩) (by show w.heap.size < w.heap.size + 2; omega) _).set (p := ⟨w.heap.size, 3, none⟩) (by show w.heap.size < w.heap.size + 2; omega) _).set (p := ⟨w.heap.size, 4, none⟩) (by show w.heap.size < w.heap.size + 2; omega) _).set (p := ⟨w.heap.size, 5, none⟩) (by show w.heap.size < w.heap.size + 2; omega) _).set (p := ⟨w.heap.size + 1, 0, none⟩) (by show w.heap.size + 1 < w.heap.size + 2; omega) _)).low (by omega)⟩
    simp [Leaves, settle, results, Try.results29, go_sem, ReadsN, q0, q1, q2, q3, q4, q5, ce]
    exact ⟨FIN.1, da, dc, ka, kc, rfl, FIN.2⟩
set_option maxRecDepth 20000 in
set_option maxHeartbeats 2000000 in
theorem readNode_c (a : Option Addr) (n c : Nat) (zs : List Int) (w : World) (h : IsB w a n zs) (hc : n ≤ c) (hl : Lies w a c) :
    Calls Try.prog 11 #[.slice a n c] w (ReadsN w (nodeAll zs)) := by
  have b0 := below_1 w (.cells Nd.no.cells.toArray 39)
  have HB0 := hid (heap_alloc_new w (.cells Nd.no.cells.toArray 39))
  have s0 : (w.alloc (.cells Nd.no.cells.toArray 39)).heap.size = w.heap.size + 1 := by simp
  have RC := hid (readN1_c a n c zs _ (h.later b0) hc (by
    rcases hl with hl | ⟨b, off, e, hb⟩
    · exact .inl hl
    · exact .inr ⟨b, off, e, by simp; omega⟩))
  have B0 := hid b0
  have S0 := hid s0
  clear h hl b0 s0
  unfold ReadsN at RC
  rcases ho : nodeAll zs with _ | x
  · rw [ho] at RC
    simp only [Nd.val, Nd.no] at RC
    go_enter Try.func11, Try.ntmps11
    go_wp2_with (go_at_call 29; refine RC.out.mono ?_; rintro _ w1 ⟨hb1, rfl⟩
                 have hB1 := (hb1.block _ (lt_blkR HB0.out)).trans HB0.out
                 obtain ⟨q0, q1, q2, q3, q4, q5⟩ := nd_cells hB1
                 have fz : ∀ i, w1.frozen? ⟨w.heap.size, i, none⟩ = false := fun i => by simp [World.frozen?, hB1])
    refine bodyPost_ret (v := .tuple #[Nd.no.val, .int .i64 3]) (by simp [results, Try.results11, go_sem, Nd.val, Nd.no, q0, q1, q2, q3, q4, q5]) rfl ⟨(((((((B0.out.trans (hb1.mono B0.out.size)).setCell (p := ⟨w.heap.size, 0, none⟩) (Nat.le_refl _) _).setCell (p := ⟨w.heap.size, 1, none⟩) (Nat.le_refl _) _).setCell (p := ⟨w.heap.size, 2, none⟩) (Nat.le_refl _) _).setCell (p := ⟨w.heap.size, 3, none⟩) (Nat.le_refl _) _).setCell (p := ⟨w.heap.size, 4, none⟩) (Nat.le_refl _) _).setCell (p := ⟨w.heap.size, 5, none⟩) (Nat.le_refl _) _), rfl⟩
  · rw [ho] at RC
    simp only at RC
    go_enter Try.func11, Try.ntmps11
    go_wp2_with (go_at_call 29; refine RC.out.mono ?_; rintro _ w1 ⟨hb1, da, dc, ka, kc, rfl, hO1⟩
                 have hB1 := (hb1.block _ (lt_blkR HB0.out)).trans HB0.out
                 obtain ⟨q0, q1, q2, q3, q4, q5⟩ := nd_cells hB1
                 have fz : ∀ i, w1.frozen? ⟨w.heap.size, i, none⟩ = false := fun i => by simp [World.frozen?, hB1]
                 have O1 := hid (hO1.low (b := w.heap.size + 1) (by rw [S0.out]; exact Nat.le_refl _))
                 unfold Nd.lie Nd.val
                 clear hO1)
    refine bodyPost_ret (v := .tuple #[Nd.val (⟨x.fid, x.k, x.md, x.ln, da, dc, x.zs, ka, kc, x.ks⟩ : Nd), .int .i64 0]) (by simp [results, Try.results11, go_sem, Nd.val, q0, q1, q2, q3, q4, q5]) rfl ⟨(((((((B0.out.trans (hb1.mono B0.out.size)).setCell (p := ⟨w.heap.size, 0, none⟩) (Nat.le_refl _) _).setCell (p := ⟨w.heap.size, 1, none⟩) (Nat.le_refl _) _).setCell (p := ⟨w.heap.size, 2, none⟩) (Nat.le_refl _) _).setCell (p := ⟨w.heap.size, 3, none⟩) (Nat.le_refl _) _).setCell (p := ⟨w.heap.size, 4, none⟩) (Nat.le_refl _) _).setCell (p := ⟨w.heap.size, 5, none⟩) (Nat.le_refl _) _), da, dc, ka, kc, rfl, ?_⟩
    exact ((((((O1.out.set (Nat.lt_succ_self _) _).set (Nat.lt_succ_self _) _).set (Nat.lt_succ_self _) _).set (Nat.lt_succ_self _) _).set (Nat.lt_succ_self _) _).set (Nat.lt_succ_self _) _).low (Nat.le_succ _)
end Go.Proofs.Ytbgninmkglgfeaa
