/-
  All of bytes as records: takeAll, read, ReadRecords of the package record.
-/
import Derived.Test.YtbgninmkglgfeaaRTr
namespace Go.Proofs.Ytbgninmkglgfeaa
open Go.RowKit Go.ChangeShapes Go.WideShapes Go.ChangeAt Go.Maps Go.Shelf
set_option linter.unusedVariables false
set_option linter.unusedSimpArgs false
/-- What all of bytes say, as records. -/
def recsAll (zs : List Int) : Option (List Rec) := match recsP zs with
  | some (l, []) => some l
  | _ => none
def AllL (w : World) (res : Option (List Rec)) (e : Ending) (w' : World) : Prop :=
  Below w.heap.size w w' ∧ match res with
    | some l => ∃ v, e = .returned v ∧ w'.ownsRow w.heap.size 79 9 v l.length (rcells l)
    | none => e = PN
theorem own_low {w : World} {base base' e size n : Nat} {v : Value} {xs : List Value} (h : w.ownsRow base e size v n xs) (hb : base' ≤ base) : w.ownsRow base' e size v n xs := by
  refine ⟨h.1, ?_⟩
  rcases h.2 with h | ⟨g, cap, cur, e1, e2, e3, e4⟩
  · exact .inl h
  · exact .inr ⟨g, cap, cur, e1, by omega, e3, e4⟩
theorem own_set {w : World} {base e size n : Nat} {v : Value} {xs : List Value} {p : Addr} (h : w.ownsRow base e size v n xs) (hp : p.block < base) (u : Value) : (w.setCell p u).ownsRow base e size v n xs := by
  refine ⟨h.1, ?_⟩
  rcases h.2 with h | ⟨g, cap, cur, e1, e2, e3, e4⟩
  · exact .inl h
  · exact .inr ⟨g, cap, cur, e1, e2, by rw [heap_setCell_other _ _ _ _ (by omega)]; exact e3, e4⟩
set_option maxRecDepth 20000 in
set_option maxHeartbeats 2000000 in
theorem takeAllR_c (a : Option Addr) (n c : Nat) (zs : List Int) (w : World) (h : IsB w a n zs) (hc : n ≤ c) (hl : Lies w a c) :
    Calls Try.prog 58 #[.slice a n c, .func (.func 27) #[] #[]] w (AllL w (recsAll zs)) := by
  have b1 := below_1 w (.cells #[.slice a n c] 134)
  have hr1 := heap_alloc_new w (.cells #[.slice a n c] 134)
  have hn := h.1
  subst hn
  have hR : Rdr (w.alloc (.cells #[.slice a zs.length c] 134)) w.heap.size a c zs := ⟨hr1, h.later b1, hc, by
    rcases hl with hl | ⟨b, off, e, hb⟩
    · exact .inl hl
    · exact .inr ⟨b, off, e, by omega⟩⟩
  have TC := hid (takeRecords_c hR)
  have s1 : (w.alloc (.cells #[.slice a zs.length c] 134)).heap.size = w.heap.size + 1 := by simp
  have B1 := hid b1
  have S1 := hid s1
  clear h hl b1 hr1 hR s1
  unfold recsAll
  rcases ho : recsP zs with _ | ⟨l, rest⟩
  · rw [ho] at TC
    unfold TakesL at TC
    go_enter Try.func58, Try.ntmps58
    go_wp2_with (go_at_call 27; refine TC.out.mono ?_; rintro _ w9 ⟨hk9, rfl⟩)
    exact ⟨rfl, B1.out.trans (hk9.below (by rw [S1.out]; omega) (by omega)), rfl⟩
  · rw [ho] at TC
    unfold TakesL at TC
    rcases rest with _ | ⟨q, qs⟩
    · go_enter Try.func58, Try.ntmps58
      go_wp2_with (first
        | (go_at_call 54; refine (refuse_f _).mono ?_; rintro _ wf ⟨rfl, hwf⟩; have hwf2 := hwf.symm; clear hwf; subst hwf2)
        | (go_at_call 27; refine TC.out.mono ?_; rintro _ w9 ⟨hk9, ⟨v9, rfl, hO9⟩, a9, c9, hR9⟩
           have hR10 := hR9.cell.1
           have K9 := hid (B1.out.trans (hk9.below (by rw [S1.out]; omega) (by omega)))
           have O9 := hid (own_low hO9 (base' := w.heap.size) (by rw [S1.out]; omega))
           obtain ⟨av, cv, rfl⟩ := own_shapeR hO9
           simp only [List.length_nil] at hR10
           clear hk9 hO9 hR9))
      go_ret
      exact ⟨K9.out, _, rfl, O9.out⟩
    · have hqq : 0 < (q :: qs).length := by simp
      obtain ⟨qn, hqn⟩ : ∃ qn, qn = (q :: qs).length := ⟨_, rfl⟩
      have HQN := hid hqn
      rw [← hqn] at hqq
      have hqd : decide (0 < qn) = true := decide_eq_true hqq
      have hqI : (0 : Int) < (qn : Int) := by omega
      clear hqn
      go_enter Try.func58, Try.ntmps58
      go_wp2_with (first
        | (go_at_call 54; refine (refuse_t _).mono ?_; rintro _ wf ⟨rfl, hwf⟩; have hwf2 := hwf.symm; clear hwf; subst hwf2)
        | (go_at_call 27; refine TC.out.mono ?_; rintro _ w9 ⟨hk9, ⟨v9, rfl, hO9⟩, a9, c9, hR9⟩
           have hR10 := hR9.cell.1
           rw [← HQN.out] at hR10
           have K9 := hid (B1.out.trans (hk9.below (by rw [S1.out]; omega) (by omega)))
           obtain ⟨av, cv, rfl⟩ := own_shapeR hO9
           clear hk9 hO9 hR9))
      exact ⟨rfl, K9.out, rfl⟩
set_option maxHeartbeats 2000000 in
theorem catchR_idle (p : Addr) (w : World) :
    CallsD Try.prog 57 #[.pointer (some p)] .returning w fun e u' w' => e = .returned (.tuple #[]) ∧ u' = .returning ∧ w' = w := by
  refine callsD_of_wpS Try.func57 rfl fun c₀ cs hu => ?_
  apply wpS_seq
  apply wpS_region
  simp [wpOpsS, go_sem, recoverD, hu, Try.ntmps57, Exit.thenS]
  refine wpS_of_wp ?_
  go_wp2
  cases c₀
  simp_all [bodyPostS, results, Try.results57]
set_option maxHeartbeats 2000000 in
theorem catchR_panicking (p : Addr) (x : Int) (older : List PanicEntry) (w : World) (hc : w.cell? p = some (.int .i64 x)) (hz : w.frozen? p = false) (hp : p.block < w.heap.size) :
    CallsD Try.prog 57 #[.pointer (some p)] (.panicking ({ v := .iface 93 (.agg #[.int .i64 3]), recovered := false } :: older)) w fun e u' w' =>
      e = .returned (.tuple #[]) ∧ u' = .panicking ({ v := .iface 93 (.agg #[.int .i64 3]), recovered := true } :: older) ∧ w' = (w.alloc (.cells #[.int .i64 3] 93)).setCell p (.int .i64 3) := by
  refine callsD_of_wpS Try.func57 rfl fun c₀ cs hu => ?_
  apply wpS_seq
  apply wpS_region
  simp [wpOpsS, go_sem, recoverD, hu, Try.ntmps57, Exit.thenS]
  refine wpS_of_wp ?_
  have hta : ∀ W : World, (Instr.typeAssert (.iface 93 (.agg #[.int .i64 3])) 20 93 true).run Try.prog W = .ok (.tuple #[.agg #[.int .i64 3], .bool true]) W := fun W => by
    simp [Instr.typeAssert, go_sem, Try.underlying93]
  have hne : p.block ≠ w.heap.size := by omega
  have hc2 : (w.alloc (.cells #[.int .i64 3] 93)).cell? p = some (.int .i64 x) := cell_later (below_1 w _) hc
  have hz2 : (w.alloc (.cells #[.int .i64 3] 93)).frozen? p = false := by rw [World.frozen?_of_block ((below_1 w (.cells #[.int .i64 3] 93)).block p.block hp)]; exact hz
  go_wp2
  simp [bodyPostS, results, Try.results57]
def ReadsL (w : World) (res : Option (List Rec)) (e : Ending) (w' : World) : Prop :=
  Below w.heap.size w w' ∧ match res with
    | some l => ∃ v, e = .returned (.tuple #[v, .int .i64 0]) ∧ w'.ownsRow w.heap.size 79 9 v l.length (rcells l)
    | none => e = .returned (.tuple #[.slice none 0 0, .int .i64 3])
set_option maxRecDepth 20000 in
set_option maxHeartbeats 2000000 in
theorem readR1_c (a : Option Addr) (n c : Nat) (zs : List Int) (w : World) (h : IsB w a n zs) (hc : n ≤ c) (hl : Lies w a c) :
    Calls Try.prog 26 #[.slice a n c, .func (.func 27) #[] #[]] w (ReadsL w (recsAll zs)) := by
  have hmf : ∀ (fn : Fn) (first cap : Array Value) (w : World), (Instr.makeFunc fn first cap).run Try.prog w = .ok (.func fn first cap) w := fun _ _ _ _ => rfl
  have b1 := below_1 w (.cells #[.int .i64 0] 30)
  have hE1 := heap_alloc_new w (.cells #[.int .i64 0] 30)
  have s1 : (w.alloc (.cells #[.int .i64 0] 30)).heap.size = w.heap.size + 1 := by simp
  have TC := hid (takeAllR_c a n c zs _ (h.later b1) hc (by
    rcases hl with hl | ⟨b, off, e, hb⟩
    · exact .inl hl
    · exact .inr ⟨b, off, e, by simp; omega⟩))
  have B1 := hid b1
  have HE1 := hid hE1
  have S1 := hid s1
  clear h hl b1 hE1 s1
  unfold AllL at TC
  rcases ho : recsAll zs with _ | l
  · rw [ho] at TC
    go_enter_defers Try.func26, Try.ntmps26
    go_wp2_with (go_at_call 58; refine TC.out.mono ?_; rintro _ w2 ⟨hb2, rfl⟩
                 have hE2 := (hb2.block _ (lt_blkR HE1.out)).trans HE1.out
                 have fe : w2.frozen? ⟨w.heap.size, 0, none⟩ = false := by simp [World.frozen?, hE2]
                 have ce : w2.cell? ⟨w.heap.size, 0, none⟩ = some (.int .i64 0) := by rw [cell_of_row _ _ _ _ _ _ hE2]; rfl)
    refine leaves_cons (f := 57) (args := #[.pointer (some ⟨w.heap.size, 0, none⟩)]) (by simp) (by simp [go_sem]) ?_
    refine (catchR_panicking ⟨w.heap.size, 0, none⟩ 0 [] w2 ce fe (lt_blkR hE2)).mono ?_
    have b3 := below_1 w2 (.cells #[.int .i64 3] 93)
    have hE3 := heap_setBox (W := w2.alloc (.cells #[.int .i64 3] 93)) (.int .i64 3) ((b3.block _ (lt_blkR hE2)).trans hE2)
    have rE := cell_box hE3
    have B3 := hid (((B1.out.trans (hb2.mono B1.out.size)).trans (b3.mono (Nat.le_trans B1.out.size hb2.size))).setCell (p := ⟨w.heap.size, 0, none⟩) (by simp) (.int .i64 3))
    rintro e u' w'' ⟨rfl, rfl, hw⟩
    rw [hw]
    generalize (w2.alloc (.cells #[.int .i64 3] 93)).setCell ⟨w.heap.size, 0, none⟩ (.int .i64 3) = w4 at *
    simp [Leaves, settle, results, Try.results26, go_sem, ReadsL, rE]
    exact B3.out
  · rw [ho] at TC
    go_enter_defers Try.func26, Try.ntmps26
    go_wp2_with (go_at_call 58; refine TC.out.mono ?_; rintro _ w2 ⟨hb2, v2, rfl, hO2⟩
                 have hE2 := (hb2.block _ (lt_blkR HE1.out)).trans HE1.out
                 have fe : w2.frozen? ⟨w.heap.size, 0, none⟩ = false := by simp [World.frozen?, hE2]
                 have ce : w2.cell? ⟨w.heap.size, 0, none⟩ = some (.int .i64 0) := by rw [cell_of_row _ _ _ _ _ _ hE2]; rfl
                 have B2 := hid ((B1.out.trans (hb2.mono B1.out.size)).setCell (p := ⟨w.heap.size, 0, none⟩) (Nat.le_refl _) (.int .i64 0))
                 have O2 := hid (own_low (own_set hO2 (p := ⟨w.heap.size, 0, none⟩) (by rw [S1.out]; exact Nat.lt_succ_self _) (.int .i64 0)) (base' := w.heap.size) (by rw [S1.out]; omega))
                 obtain ⟨av, cv, rfl⟩ := own_shapeR hO2
                 clear hb2 hO2 hE2)
    refine leaves_cons (f := 57) (args := #[.pointer (some ⟨w.heap.size, 0, none⟩)]) (by simp) (by simp [go_sem]) ?_
    refine (catchR_idle ⟨w.heap.size, 0, none⟩ _).mono ?_
    rintro e u' w'' ⟨rfl, rfl, rfl⟩
    simp [Leaves, settle, results, Try.results26, go_sem, ReadsL, ce]
    exact ⟨B2.out, O2.out⟩
set_option maxHeartbeats 1000000 in
theorem readRecords_c (a : Option Addr) (n c : Nat) (zs : List Int) (w : World) (h : IsB w a n zs) (hc : n ≤ c) (hl : Lies w a c) :
    Calls Try.prog 9 #[.slice a n c] w (ReadsL w (recsAll zs)) := by
  have RC := hid (readR1_c a n c zs w h hc hl)
  clear h hl
  obtain ⟨R, hR⟩ : ∃ R, R = recsAll zs := ⟨_, rfl⟩
  rw [← hR] at RC ⊢
  clear hR
  unfold ReadsL at RC
  rcases R with _ | l
  · go_enter Try.func9, Try.ntmps9
    go_wp2_with (go_at_call 26; refine RC.out.mono ?_; rintro _ w1 ⟨hb, rfl⟩)
    refine bodyPost_ret (v := .tuple #[.slice none 0 0, .int .i64 3]) (by simp [results, Try.results9, go_sem]) rfl ?_
    exact ⟨hb, rfl⟩
  · go_enter Try.func9, Try.ntmps9
    go_wp2_with (go_at_call 26; refine RC.out.mono ?_; rintro _ w1 ⟨hb, v, rfl, hO⟩; obtain ⟨a1, c1, rfl⟩ := own_shapeR hO)
    refine bodyPost_ret (v := .tuple #[.slice a1 l.length c1, .int .i64 0]) (by simp [results, Try.results9, go_sem]) rfl ?_
    exact ⟨hb, _, rfl, hO⟩
end Go.Proofs.Ytbgninmkglgfeaa
