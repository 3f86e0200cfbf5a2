/-
  All of bytes as an operation: takeAll, read, ReadOp of the package record.
-/
import Derived.Test.YtbgninmkglgfeaaRTk
import Derived.Defers
import Derived.Recover
import Derived.Laws.Pointers
namespace Go.Proofs.Ytbgninmkglgfeaa
open Go.RowKit Go.ChangeShapes Go.WideShapes Go.ChangeAt Go.Shelf
set_option linter.unusedVariables false
set_option linter.unusedSimpArgs false
/-- What all of bytes say, as an operation. -/
def opAll (zs : List Int) : Option Rec := match opP zs with
  | some (x, []) => some x
  | _ => none
def AllP (w : World) (res : Option Value) (e : Ending) (w' : World) : Prop :=
  Below w.heap.size w w' ∧ match res with
    | some v => e = .returned v
    | none => e = PN
/-- Where the bytes of a call lie. -/
def Lies (w : World) (a : Option Addr) (c : Nat) : Prop := a = none ∧ c = 0 ∨ ∃ b off, a = some ⟨b, off, none⟩ ∧ b < w.heap.size
set_option maxRecDepth 20000 in
set_option maxHeartbeats 2000000 in
theorem takeAllOp_c (a : Option Addr) (n c : Nat) (zs : List Int) (w : World) (h : IsB w a n zs) (hc : n ≤ c) (hl : Lies w a c) :
    Calls Try.prog 50 #[.slice a n c, .func (.func 24) #[] #[]] w (AllP w ((opAll zs).map Rec.opV)) := by
  have b0 := below_1 w (.cells Rec.no.ops.toArray 29)
  have hB0 := heap_alloc_new w (.cells Rec.no.ops.toArray 29)
  have s0 : (w.alloc (.cells Rec.no.ops.toArray 29)).heap.size = w.heap.size + 1 := by simp
  have b1 := below_1 (w.alloc (.cells Rec.no.ops.toArray 29)) (.cells #[.slice a n c] 134)
  have hr1 := heap_alloc_new (w.alloc (.cells Rec.no.ops.toArray 29)) (.cells #[.slice a n c] 134)
  rw [s0] at hr1
  have hB1 := (b1.block _ (lt_blkR hB0)).trans hB0
  have B1 := hid (b0.trans (b1.mono b0.size))
  have hn := h.1
  subst hn
  have hR : Rdr ((w.alloc (.cells Rec.no.ops.toArray 29)).alloc (.cells #[.slice a zs.length c] 134)) (w.heap.size + 1) a c zs := ⟨hr1, (h.later b0).later b1, hc, by
    rcases hl with hl | ⟨b, off, e, hb⟩
    · exact .inl hl
    · exact .inr ⟨b, off, e, by omega⟩⟩
  have TC := hid (takeOp_c hR)
  have s1 : ((w.alloc (.cells Rec.no.ops.toArray 29)).alloc (.cells #[.slice a zs.length c] 134)).heap.size = w.heap.size + 2 := by simp
  have HB1 := hid hB1
  have S1 := hid s1
  clear h hl b0 b1 hB0 hB1 hr1 hR s0 s1
  unfold opAll
  rcases ho : opP zs with _ | ⟨x, rest⟩
  · rw [ho] at TC
    simp only [Option.map_none] at TC ⊢
    go_enter Try.func50, Try.ntmps50
    go_wp2_with (go_at_call 24; refine TC.out.mono ?_; intro e9 w9 h9; obtain ⟨hk9, rfl⟩ := takes_none h9)
    exact ⟨rfl, B1.out.trans (hk9.below (by rw [S1.out]; omega) (by omega)), rfl⟩
  · rw [ho] at TC
    simp only [Option.map_some] at TC
    rcases rest with _ | ⟨q, qs⟩
    · simp only [Option.map_some]
      unfold Rec.opV at TC ⊢
      go_enter Try.func50, Try.ntmps50
      go_wp2_with (first
        | (go_at_call 54; refine (refuse_f _).mono ?_; rintro _ wf ⟨rfl, hwf⟩; have hwf2 := hwf.symm; clear hwf; subst hwf2)
        | (go_at_call 24; refine TC.out.mono ?_; intro e9 w9 h9; obtain ⟨hk9, rfl, a9, c9, hR9⟩ := takes_some h9
           have b9 := below_1 w9 (.cells x.ops.toArray 29)
           have hR10 := (rdr_later hR9 b9).cell.1
           have hX10 := heap_alloc_new w9 (.cells x.ops.toArray 29)
           have hB9 := (hk9.block w.heap.size (by rw [S1.out]; omega) (by omega)).trans HB1.out
           have hB10 := (b9.block _ (lt_blkR hB9)).trans hB9
           obtain ⟨p0, p1, p2, p3, p4, p5, p6, p7⟩ := op_all hX10
           obtain ⟨q0, q1, q2, q3, q4, q5, q6, q7⟩ := op_all hB10
           have fz : ∀ i, (w9.alloc (.cells x.ops.toArray 29)).frozen? ⟨w.heap.size, i, none⟩ = false := fun i => by simp [World.frozen?, hB10]
           have K9 := hid (B1.out.trans (hk9.below (by rw [S1.out]; omega) (by omega)))
           simp only [Rec.ops, List.length_nil] at hR10 p0 p1 p2 p3 p4 p5 p6 p7 q0 q1 q2 q3 q4 q5 q6 q7 fz
           clear h9 hX10 hB9 hB10 b9 hR9 hk9))
      refine bodyPost_ret (v := Rec.opV x) (by simp [results, Try.results50, go_sem, Rec.opV, q0, q1, q2, q3, q4, q5, q6, q7]) rfl ⟨(((((((((K9.out.alloc K9.out.size _).setCell (Nat.le_refl _) _).setCell (Nat.le_refl _) _).setCell (Nat.le_refl _) _).setCell (Nat.le_refl _) _).setCell (Nat.le_refl _) _).setCell (Nat.le_refl _) _).setCell (Nat.le_refl _) _).setCell (Nat.le_refl _) _), rfl⟩
    · simp only [Option.map_none]
      unfold Rec.opV at TC
      have hqq : 0 < (q :: qs).length := by simp
      obtain ⟨qn, hqn⟩ : ∃ qn, qn = (q :: qs).length := ⟨_, rfl⟩
      have HQN := hid hqn
      rw [← hqn] at hqq
      have hqd : decide (0 < qn) = true := decide_eq_true hqq
      have hqI : (0 : Int) < (qn : Int) := by omega
      clear hqn
      go_enter Try.func50, Try.ntmps50
      go_wp2_with (first
        | (go_at_call 54; refine (refuse_t _).mono ?_; rintro _ wf ⟨rfl, hwf⟩; have hwf2 := hwf.symm; clear hwf; subst hwf2)
        | (go_at_call 24; refine TC.out.mono ?_; intro e9 w9 h9; obtain ⟨hk9, rfl, a9, c9, hR9⟩ := takes_some h9
           have b9 := below_1 w9 (.cells x.ops.toArray 29)
           have hR10 := (rdr_later hR9 b9).cell.1
           rw [← HQN.out] at hR10
           have K9 := hid (B1.out.trans (hk9.below (by rw [S1.out]; omega) (by omega)))
           simp only [Rec.ops] at hR10
           clear h9 b9 hR9 hk9))
      exact ⟨rfl, K9.out.alloc K9.out.size _, rfl⟩
set_option maxHeartbeats 2000000 in
theorem catch_idle (p : Addr) (w : World) :
    CallsD Try.prog 49 #[.pointer (some p)] .returning w fun e u' w' => e = .returned (.tuple #[]) ∧ u' = .returning ∧ w' = w := by
  refine callsD_of_wpS Try.func49 rfl fun c₀ cs hu => ?_
  apply wpS_seq
  apply wpS_region
  simp [wpOpsS, go_sem, recoverD, hu, Try.ntmps49, Exit.thenS]
  refine wpS_of_wp ?_
  go_wp2
  cases c₀
  simp_all [bodyPostS, results, Try.results49]
set_option maxHeartbeats 2000000 in
theorem catch_panicking (p : Addr) (x : Int) (older : List PanicEntry) (w : World) (hc : w.cell? p = some (.int .i64 x)) (hz : w.frozen? p = false) (hp : p.block < w.heap.size) :
    CallsD Try.prog 49 #[.pointer (some p)] (.panicking ({ v := .iface 93 (.agg #[.int .i64 3]), recovered := false } :: older)) w fun e u' w' =>
      e = .returned (.tuple #[]) ∧ u' = .panicking ({ v := .iface 93 (.agg #[.int .i64 3]), recovered := true } :: older) ∧ w' = (w.alloc (.cells #[.int .i64 3] 93)).setCell p (.int .i64 3) := by
  refine callsD_of_wpS Try.func49 rfl fun c₀ cs hu => ?_
  apply wpS_seq
  apply wpS_region
  simp [wpOpsS, go_sem, recoverD, hu, Try.ntmps49, Exit.thenS]
  refine wpS_of_wp ?_
  have hta : ∀ W : World, (Instr.typeAssert (.iface 93 (.agg #[.int .i64 3])) 20 93 true).run Try.prog W = .ok (.tuple #[.agg #[.int .i64 3], .bool true]) W := fun W => by
    simp [Instr.typeAssert, go_sem, Try.underlying93]
  have hne : p.block ≠ w.heap.size := by omega
  have hc2 : (w.alloc (.cells #[.int .i64 3] 93)).cell? p = some (.int .i64 x) := cell_later (below_1 w _) hc
  have hz2 : (w.alloc (.cells #[.int .i64 3] 93)).frozen? p = false := by rw [World.frozen?_of_block ((below_1 w (.cells #[.int .i64 3] 93)).block p.block hp)]; exact hz
  go_wp2
  simp [bodyPostS, results, Try.results49]
def readV (o : Option Rec) : Value := match o with
  | some x => .tuple #[x.opV, .int .i64 0]
  | none => .tuple #[Rec.no.opV, .int .i64 3]
set_option maxRecDepth 20000 in
set_option maxHeartbeats 2000000 in
theorem readOp1_c (a : Option Addr) (n c : Nat) (zs : List Int) (w : World) (h : IsB w a n zs) (hc : n ≤ c) (hl : Lies w a c) :
    Calls Try.prog 23 #[.slice a n c, .func (.func 24) #[] #[]] w fun e w' => e = .returned (readV (opAll zs)) ∧ Below w.heap.size w w' := by
  have hmf : ∀ (fn : Fn) (first cap : Array Value) (w : World), (Instr.makeFunc fn first cap).run Try.prog w = .ok (.func fn first cap) w := fun _ _ _ _ => rfl
  have b0 := below_1 w (.cells Rec.no.ops.toArray 29)
  have hB0 := heap_alloc_new w (.cells Rec.no.ops.toArray 29)
  have s0 : (w.alloc (.cells Rec.no.ops.toArray 29)).heap.size = w.heap.size + 1 := by simp
  have b1 := below_1 (w.alloc (.cells Rec.no.ops.toArray 29)) (.cells #[.int .i64 0] 30)
  have hE1 := heap_alloc_new (w.alloc (.cells Rec.no.ops.toArray 29)) (.cells #[.int .i64 0] 30)
  rw [s0] at hE1
  have hB1 := (b1.block _ (lt_blkR hB0)).trans hB0
  have B1 := hid (b0.trans (b1.mono b0.size))
  have TC := hid (takeAllOp_c a n c zs _ ((h.later b0).later b1) hc (by
    rcases hl with hl | ⟨b, off, e, hb⟩
    · exact .inl hl
    · exact .inr ⟨b, off, e, by simp; omega⟩))
  have HB1 := hid hB1
  have HE1 := hid hE1
  clear h hl b0 b1 hB0 hB1 hE1 s0
  unfold AllP at TC
  rcases ho : opAll zs with _ | x
  · rw [ho] at TC
    simp only [Option.map_none] at TC
    go_enter_defers Try.func23, Try.ntmps23
    go_wp2_with (go_at_call 50; refine TC.out.mono ?_; rintro _ w2 ⟨hb2, rfl⟩
                 have hB2 := (hb2.block _ (lt_blkR HB1.out)).trans HB1.out
                 have hE2 := (hb2.block _ (lt_blkR HE1.out)).trans HE1.out
                 obtain ⟨q0, q1, q2, q3, q4, q5, q6, q7⟩ := op_all hB2
                 have fz : ∀ i, w2.frozen? ⟨w.heap.size, i, none⟩ = false := fun i => by simp [World.frozen?, hB2]
                 have fe : w2.frozen? ⟨w.heap.size + 1, 0, none⟩ = false := by simp [World.frozen?, hE2]
                 have ce : w2.cell? ⟨w.heap.size + 1, 0, none⟩ = some (.int .i64 0) := by rw [cell_of_row _ _ _ _ _ _ hE2]; rfl)
    refine leaves_cons (f := 49) (args := #[.pointer (some ⟨w.heap.size + 1, 0, none⟩)]) (by simp) (by simp [go_sem]) ?_
    refine (catch_panicking ⟨w.heap.size + 1, 0, none⟩ 0 [] w2 ce fe (lt_blkR hE2)).mono ?_
    have b3 := below_1 w2 (.cells #[.int .i64 3] 93)
    have hB3 : ((w2.alloc (.cells #[.int .i64 3] 93)).setCell ⟨w.heap.size + 1, 0, none⟩ (.int .i64 3)).heap[w.heap.size]? = some (.cells Rec.no.ops.toArray 29 (0, 0)) := by
      rw [heap_setCell_other _ _ _ _ (by simp)]; exact (b3.block _ (lt_blkR hB2)).trans hB2
    have hE3 := heap_setBox (W := w2.alloc (.cells #[.int .i64 3] 93)) (.int .i64 3) ((b3.block _ (lt_blkR hE2)).trans hE2)
    obtain ⟨r0, r1, r2, r3, r4, r5, r6, r7⟩ := op_all hB3
    have rE := cell_box hE3
    have B3 := hid (((B1.out.trans (hb2.mono B1.out.size)).trans (b3.mono (Nat.le_trans B1.out.size hb2.size))).setCell (p := ⟨w.heap.size + 1, 0, none⟩) (by simp) (.int .i64 3))
    rintro e u' w'' ⟨rfl, rfl, hw⟩
    rw [hw]
    generalize (w2.alloc (.cells #[.int .i64 3] 93)).setCell ⟨w.heap.size + 1, 0, none⟩ (.int .i64 3) = w4 at *
    simp [Leaves, settle, results, Try.results23, go_sem, readV, Rec.opV, r0, r1, r2, r3, r4, r5, r6, r7, rE]
    exact B3.out
  · rw [ho] at TC
    simp only [Option.map_some] at TC
    unfold Rec.opV at TC
    go_enter_defers Try.func23, Try.ntmps23
    go_wp2_with (go_at_call 50; refine TC.out.mono ?_; rintro _ w2 ⟨hb2, rfl⟩
                 have hB2 := (hb2.block _ (lt_blkR HB1.out)).trans HB1.out
                 have hE2 := (hb2.block _ (lt_blkR HE1.out)).trans HE1.out
                 obtain ⟨q0, q1, q2, q3, q4, q5, q6, q7⟩ := op_all hB2
                 have fz : ∀ i, w2.frozen? ⟨w.heap.size, i, none⟩ = false := fun i => by simp [World.frozen?, hB2]
                 have fe : w2.frozen? ⟨w.heap.size + 1, 0, none⟩ = false := by simp [World.frozen?, hE2]
                 have ce : w2.cell? ⟨w.heap.size + 1, 0, none⟩ = some (.int .i64 0) := by rw [cell_of_row _ _ _ _ _ _ hE2]; rfl)
    refine leaves_cons (f := 49) (args := #[.pointer (some ⟨w.heap.size + 1, 0, none⟩)]) (by simp) (by simp [go_sem]) ?_
    refine (catch_idle ⟨w.heap.size + 1, 0, none⟩ _).mono ?_
    rintro e u' w'' ⟨rfl, rfl, rfl⟩
    simp [Leaves, settle, results, Try.results23, go_sem, readV, Rec.opV, q0, q1, q2, q3, q4, q5, q6, q7, ce]
    exact ((((((((((B1.out.trans (hb2.mono B1.out.size)).setCell (p := ⟨w.heap.size, 0, none⟩) (Nat.le_refl _) _).setCell (p := ⟨w.heap.size, 1, none⟩) (Nat.le_refl _) _).setCell (p := ⟨w.heap.size, 2, none⟩) (Nat.le_refl _) _).setCell (p := ⟨w.heap.size, 3, none⟩) (Nat.le_refl _) _).setCell (p := ⟨w.heap.size, 4, none⟩) (Nat.le_refl _) _).setCell (p := ⟨w.heap.size, 5, none⟩) (Nat.le_refl _) _).setCell (p := ⟨w.heap.size, 6, none⟩) (Nat.le_refl _) _).setCell (p := ⟨w.heap.size, 7, none⟩) (Nat.le_refl _) _).setCell (p := ⟨w.heap.size + 1, 0, none⟩) (Nat.le_succ _) _)
set_option maxRecDepth 20000 in
set_option maxHeartbeats 2000000 in
theorem readOp_c (a : Option Addr) (n c : Nat) (zs : List Int) (w : World) (h : IsB w a n zs) (hc : n ≤ c) (hl : Lies w a c) :
    Calls Try.prog 7 #[.slice a n c] w fun e w' => e = .returned (readV (opAll zs)) ∧ Below w.heap.size w w' := by
  have b0 := below_1 w (.cells Rec.no.ops.toArray 29)
  have HB0 := hid (heap_alloc_new w (.cells Rec.no.ops.toArray 29))
  have RC := hid (readOp1_c a n c zs _ (h.later b0) hc (by
    rcases hl with hl | ⟨b, off, e, hb⟩
    · exact .inl hl
    · exact .inr ⟨b, off, e, by simp; omega⟩))
  have B0 := hid b0
  clear h hl b0
  obtain ⟨x, e, hV⟩ : ∃ (x : Rec) (e : Int), readV (opAll zs) = .tuple #[x.opV, .int .i64 e] := by
    unfold readV
    split
    · exact ⟨_, _, rfl⟩
    · exact ⟨_, _, rfl⟩
  rw [hV] at RC ⊢
  unfold Rec.opV at RC ⊢
  clear hV
  go_enter Try.func7, Try.ntmps7
  go_wp2_with (go_at_call 23; refine RC.out.mono ?_; rintro _ w1 ⟨rfl, hb1⟩
               have hB1 := (hb1.block _ (lt_blkR HB0.out)).trans HB0.out
               obtain ⟨q0, q1, q2, q3, q4, q5, q6, q7⟩ := op_all hB1
               have fz : ∀ i, w1.frozen? ⟨w.heap.size, i, none⟩ = false := fun i => by simp [World.frozen?, hB1])
  refine bodyPost_ret (v := .tuple #[x.opV, .int .i64 e]) (by simp [results, Try.results7, go_sem, Rec.opV, q0, q1, q2, q3, q4, q5, q6, q7]) rfl ⟨rfl, (((((((((B0.out.trans (hb1.mono B0.out.size)).setCell (p := ⟨w.heap.size, 0, none⟩) (Nat.le_refl _) _).setCell (p := ⟨w.heap.size, 1, none⟩) (Nat.le_refl _) _).setCell (p := ⟨w.heap.size, 2, none⟩) (Nat.le_refl _) _).setCell (p := ⟨w.heap.size, 3, none⟩) (Nat.le_refl _) _).setCell (p := ⟨w.heap.size, 4, none⟩) (Nat.le_refl _) _).setCell (p := ⟨w.heap.size, 5, none⟩) (Nat.le_refl _) _).setCell (p := ⟨w.heap.size, 6, none⟩) (Nat.le_refl _) _).setCell (p := ⟨w.heap.size, 7, none⟩) (Nat.le_refl _) _)⟩
end Go.Proofs.Ytbgninmkglgfeaa
