/-
  Callers: Tick, Take, Cancel, Down, Fork, and new ones.
-/
import Derived.Test.YtmoeljieafninaaRBs
namespace Go.Proofs.Ytmoeljieafninaa
open Go.RowKit Go.ChangeShapes Go.WideShapes Go.ChangeAt
set_option linter.unusedVariables false
set_option linter.unusedSimpArgs false
set_option maxRecDepth 100000
theorem tick_c {w : World} {g : Nat} {c : Cl} (h : IsC 80 w g c) (hw : c.Wf) (now : Int) (n0 : 0 ≤ now) (n1 : now < 18446744073709551616) :
    Calls Try.prog 14 #[pC g, .int .u64 now] w fun e w' => e = .returned (.tuple #[Fr.val (tickP c now), .bool (tickB c now)]) ∧ IsC 80 w' g (tickS c now) ∧ Ou (fun k => k = g) w w' := by
  cases ht : tickB c now with
  | false =>
    have e1 : tickP c now = zpk := by unfold tickP; rw [ht]; rfl
    have e2 : tickS c now = c := by unfold tickS; rw [ht]; rfl
    rw [e1, e2]
    exact (tick_no h hw now n0 n1 ht).mono fun e w' ⟨h1, h2⟩ => ⟨h1, h.later h2, Ou.of h2⟩
  | true =>
    have e1 : tickP c now = ⟨1, c.cl, 0, c.ep, c.num, c.body⟩ := by unfold tickP; rw [ht]; rfl
    have e2 : tickS c now = ⟨c.cl, c.ep, c.num, c.uw, c.body, c.sends + 1, now⟩ := by unfold tickS; rw [ht]; rfl
    rw [e1, e2]
    exact tick_yes h hw now n0 n1 ht
set_option maxHeartbeats 1000000 in
theorem tick_nil (now : Int) (w : World) : Calls Try.prog 14 #[.pointer none, .int .u64 now] w fun e w' => e = .returned (.tuple #[Fr.val zpk, .bool false]) ∧ Below w.heap.size w w' := by
  go_enter Try.func14, Try.ntmps14
  go_wp2_with (go_at_call 21; refine (busy_nil _).mono ?_; rintro _ w1 ⟨rfl, h1⟩; rw [h1])
  exact bodyPost_ret (v := .tuple #[Fr.val zpk, .bool false]) (by simp [results, Try.results14, go_sem, Fr.val, zpk]) rfl ⟨rfl, (Below.refl _ _).alloc (Nat.le_refl _) _⟩
set_option maxHeartbeats 400000 in
theorem isCl_c (n : Int) (w : World) : Calls Try.prog 28 #[.int .u8 n] w fun e w' => e = .returned (.bool (decide (1 ≤ n) && decide (n ≤ 3))) ∧ w' = w := by
  by_cases h1 : 1 ≤ n
  · have hd : decide (1 ≤ n) = true := decide_eq_true h1
    by_cases h3 : n ≤ 3
    · have hd3 : decide (n ≤ 3) = true := decide_eq_true h3
      go_enter Try.func28, Try.ntmps28
      go_wp2
      go_ret
      exact ⟨ret_bool (by simp [hd, hd3]), rfl⟩
    · have hd3 : decide (n ≤ 3) = false := decide_eq_false h3
      go_enter Try.func28, Try.ntmps28
      go_wp2
      go_ret
      exact ⟨ret_bool (by simp [hd, hd3]), rfl⟩
  · have hd : decide (1 ≤ n) = false := decide_eq_false h1
    go_enter Try.func28, Try.ntmps28
    go_wp2
    go_ret
    exact ⟨ret_bool (by simp [hd]), rfl⟩
set_option maxHeartbeats 400000 in
theorem newCaller_c (n e : Int) (h0 : 1 ≤ n) (h1 : n ≤ 3) (w : World) : Calls Try.prog 11 #[.int .u8 n, .int .u32 e] w fun x w' => x = .returned (pC w.heap.size) ∧ IsC 80 w' w.heap.size ⟨n, e, 0, false, ⟨#[]⟩, 0, 0⟩ ∧ Below w.heap.size w w' := by
  have hd : (decide (1 ≤ n) && decide (n ≤ 3)) = true := by simp; omega
  go_enter Try.func11, Try.ntmps11
  go_wp2_with (go_at_call 28; refine (isCl_c _ _).mono ?_; rintro _ w1 ⟨rfl, h1⟩; rw [h1, hd])
  go_ret
  exact ⟨rfl, heap_alloc_new w _, (Below.refl _ _).alloc (Nat.le_refl _) _⟩
set_option maxHeartbeats 400000 in
theorem newCaller_no (n e : Int) (h0 : n < 1 ∨ 3 < n) (w : World) : Calls Try.prog 11 #[.int .u8 n, .int .u32 e] w fun x w' => x = .returned (.pointer none) ∧ w' = w := by
  have hd : (decide (1 ≤ n) && decide (n ≤ 3)) = false := by simp; omega
  clear h0
  go_enter Try.func11, Try.ntmps11
  go_wp2_with (go_at_call 28; refine (isCl_c _ _).mono ?_; rintro _ w1 ⟨rfl, h1⟩; rw [h1, hd])
  go_ret
  exact ⟨rfl, rfl⟩
/-- Is a packet the answer that is waited for? -/
def awB (c : Cl) (p : Fr.Pk) : Bool := Fr.rightB p && p.k == 2 && p.t == c.cl && p.e == c.ep && p.s == c.num
set_option maxHeartbeats 2000000 in
theorem awaits_0 {w : World} {g : Nat} (cl ep num : Int) (uw : Bool) (body : ByteArray) (sends lst : Int) (h : IsC 80 w g ⟨cl, ep, num, uw, body, sends, lst⟩) (k f t e s : Int) (b : ByteArray) (hp : Fr.Wf ⟨k, f, t, e, s, b⟩) (hs : b.size ≤ maxLen) (h0 : (Fr.rightB ⟨k, f, t, e, s, b⟩) = false) :
    Calls Try.prog 30 #[pC g, .agg #[.int .u8 k, .int .u8 f, .int .u8 t, .int .u32 e, .int .u32 s, .string b]] w fun x w' => x = .returned (.bool false) ∧ Below w.heap.size w w' := by
  have RC : Hid (∀ W, Calls Try.prog 23 #[.agg #[.int .u8 k, .int .u8 f, .int .u8 t, .int .u32 e, .int .u32 s, .string b]] W fun x w' => x = .returned (.bool false) ∧ Below W.heap.size W w') := fun W => by
    have := right_c ⟨k, f, t, e, s, b⟩ hp hs W
    rw [h0] at this
    exact this
  have b0 : Below w.heap.size w (w.alloc (.cells #[.int .u8 k, .int .u8 f, .int .u8 t, .int .u32 e, .int .u32 s, .string b] 26)) := (Below.refl _ _).alloc (Nat.le_refl _) _
  have hc := h.later b0
  have hP := PkAt.new w ⟨k, f, t, e, s, b⟩
  have FX : Hid (∀ W, Below (w.alloc (.cells #[.int .u8 k, .int .u8 f, .int .u8 t, .int .u32 e, .int .u32 s, .string b] 26)).heap.size (w.alloc (.cells #[.int .u8 k, .int .u8 f, .int .u8 t, .int .u32 e, .int .u32 s, .string b] 26)) W → W.cell? ⟨g, 0, none⟩ = some (.int .u8 cl) ∧ W.cell? ⟨g, 1, none⟩ = some (.int .u32 ep) ∧ W.cell? ⟨g, 2, none⟩ = some (.int .u32 num) ∧ W.cell? ⟨w.heap.size, 0, none⟩ = some (.int .u8 k) ∧ W.cell? ⟨w.heap.size, 1, none⟩ = some (.int .u8 f) ∧ W.cell? ⟨w.heap.size, 2, none⟩ = some (.int .u8 t) ∧ W.cell? ⟨w.heap.size, 3, none⟩ = some (.int .u32 e) ∧ W.cell? ⟨w.heap.size, 4, none⟩ = some (.int .u32 s) ∧ W.cell? ⟨w.heap.size, 5, none⟩ = some (.string b)) := fun W hW => by
    obtain ⟨a0, a1, a2, _⟩ := (hc.later hW).cells
    obtain ⟨q0, q1, q2, q3, q4, q5, _⟩ := (hP.later hW).cells
    exact ⟨a0, a1, a2, q0, q1, q2, q3, q4, q5⟩
  have B0 := hid b0
  clear hc hP h b0 hp hs h0
  go_enter Try.func30, Try.ntmps30
  go_wp2_with fail
  generalize (w.alloc (.cells #[.int .u8 k, .int .u8 f, .int .u8 t, .int .u32 e, .int .u32 s, .string b] 26)) = W0 at *
  refine wp_region_class (by kernel_rfl) (by kernel_rfl) ?_
  repeat (first
    | go_big_quiet_skip
    | (go_big_quiet_want
       apply quiet_by
       · intro w4 hw4
         obtain ⟨k0, k1, k2, k3, k4, k5, k6, k7, k8⟩ := FX.out w4 hw4
         go_simp
         first
           | rfl
           | (go_at_call 23; exact class_of hw4 (RC.out _))
           | (simp [k0, k1, k2, k3, k4, k5, k6, k7, k8]; rfl)
       · go_simp; rfl
       go_big_quiet_on))
  refine wpQuiet_nil ?_
  intro w5 hw5
  go_wp2
  go_ret
  exact ⟨rfl, B0.out.trans (hw5.mono B0.out.size)⟩
set_option maxHeartbeats 2000000 in
theorem awaits_1 {w : World} {g : Nat} (cl ep num : Int) (uw : Bool) (body : ByteArray) (sends lst : Int) (h : IsC 80 w g ⟨cl, ep, num, uw, body, sends, lst⟩) (k f t e s : Int) (b : ByteArray) (hp : Fr.Wf ⟨k, f, t, e, s, b⟩) (hs : b.size ≤ maxLen) (h0 : (Fr.rightB ⟨k, f, t, e, s, b⟩) = true) (h1 : (k == 2) = false) :
    Calls Try.prog 30 #[pC g, .agg #[.int .u8 k, .int .u8 f, .int .u8 t, .int .u32 e, .int .u32 s, .string b]] w fun x w' => x = .returned (.bool false) ∧ Below w.heap.size w w' := by
  have RC : Hid (∀ W, Calls Try.prog 23 #[.agg #[.int .u8 k, .int .u8 f, .int .u8 t, .int .u32 e, .int .u32 s, .string b]] W fun x w' => x = .returned (.bool true) ∧ Below W.heap.size W w') := fun W => by
    have := right_c ⟨k, f, t, e, s, b⟩ hp hs W
    rw [h0] at this
    exact this
  have b0 : Below w.heap.size w (w.alloc (.cells #[.int .u8 k, .int .u8 f, .int .u8 t, .int .u32 e, .int .u32 s, .string b] 26)) := (Below.refl _ _).alloc (Nat.le_refl _) _
  have hc := h.later b0
  have hP := PkAt.new w ⟨k, f, t, e, s, b⟩
  have FX : Hid (∀ W, Below (w.alloc (.cells #[.int .u8 k, .int .u8 f, .int .u8 t, .int .u32 e, .int .u32 s, .string b] 26)).heap.size (w.alloc (.cells #[.int .u8 k, .int .u8 f, .int .u8 t, .int .u32 e, .int .u32 s, .string b] 26)) W → W.cell? ⟨g, 0, none⟩ = some (.int .u8 cl) ∧ W.cell? ⟨g, 1, none⟩ = some (.int .u32 ep) ∧ W.cell? ⟨g, 2, none⟩ = some (.int .u32 num) ∧ W.cell? ⟨w.heap.size, 0, none⟩ = some (.int .u8 k) ∧ W.cell? ⟨w.heap.size, 1, none⟩ = some (.int .u8 f) ∧ W.cell? ⟨w.heap.size, 2, none⟩ = some (.int .u8 t) ∧ W.cell? ⟨w.heap.size, 3, none⟩ = some (.int .u32 e) ∧ W.cell? ⟨w.heap.size, 4, none⟩ = some (.int .u32 s) ∧ W.cell? ⟨w.heap.size, 5, none⟩ = some (.string b)) := fun W hW => by
    obtain ⟨a0, a1, a2, _⟩ := (hc.later hW).cells
    obtain ⟨q0, q1, q2, q3, q4, q5, _⟩ := (hP.later hW).cells
    exact ⟨a0, a1, a2, q0, q1, q2, q3, q4, q5⟩
  have B0 := hid b0
  clear hc hP h b0 hp hs h0
  go_enter Try.func30, Try.ntmps30
  go_wp2_with fail
  generalize (w.alloc (.cells #[.int .u8 k, .int .u8 f, .int .u8 t, .int .u32 e, .int .u32 s, .string b] 26)) = W0 at *
  refine wp_region_class (by kernel_rfl) (by kernel_rfl) ?_
  repeat (first
    | go_big_quiet_skip
    | (go_big_quiet_want
       apply quiet_by
       · intro w4 hw4
         obtain ⟨k0, k1, k2, k3, k4, k5, k6, k7, k8⟩ := FX.out w4 hw4
         go_simp
         first
           | rfl
           | (go_at_call 23; exact class_of hw4 (RC.out _))
           | (simp [k0, k1, k2, k3, k4, k5, k6, k7, k8]; rfl)
       · go_simp; rfl
       go_big_quiet_on))
  refine wpQuiet_nil ?_
  intro w5 hw5
  go_wp2
  go_ret
  exact ⟨rfl, B0.out.trans (hw5.mono B0.out.size)⟩
set_option maxHeartbeats 2000000 in
theorem awaits_2 {w : World} {g : Nat} (cl ep num : Int) (uw : Bool) (body : ByteArray) (sends lst : Int) (h : IsC 80 w g ⟨cl, ep, num, uw, body, sends, lst⟩) (k f t e s : Int) (b : ByteArray) (hp : Fr.Wf ⟨k, f, t, e, s, b⟩) (hs : b.size ≤ maxLen) (h0 : (Fr.rightB ⟨k, f, t, e, s, b⟩) = true) (h1 : (k == 2) = true) (h2 : (t == cl) = false) :
    Calls Try.prog 30 #[pC g, .agg #[.int .u8 k, .int .u8 f, .int .u8 t, .int .u32 e, .int .u32 s, .string b]] w fun x w' => x = .returned (.bool false) ∧ Below w.heap.size w w' := by
  have RC : Hid (∀ W, Calls Try.prog 23 #[.agg #[.int .u8 k, .int .u8 f, .int .u8 t, .int .u32 e, .int .u32 s, .string b]] W fun x w' => x = .returned (.bool true) ∧ Below W.heap.size W w') := fun W => by
    have := right_c ⟨k, f, t, e, s, b⟩ hp hs W
    rw [h0] at this
    exact this
  have b0 : Below w.heap.size w (w.alloc (.cells #[.int .u8 k, .int .u8 f, .int .u8 t, .int .u32 e, .int .u32 s, .string b] 26)) := (Below.refl _ _).alloc (Nat.le_refl _) _
  have hc := h.later b0
  have hP := PkAt.new w ⟨k, f, t, e, s, b⟩
  have FX : Hid (∀ W, Below (w.alloc (.cells #[.int .u8 k, .int .u8 f, .int .u8 t, .int .u32 e, .int .u32 s, .string b] 26)).heap.size (w.alloc (.cells #[.int .u8 k, .int .u8 f, .int .u8 t, .int .u32 e, .int .u32 s, .string b] 26)) W → W.cell? ⟨g, 0, none⟩ = some (.int .u8 cl) ∧ W.cell? ⟨g, 1, none⟩ = some (.int .u32 ep) ∧ W.cell? ⟨g, 2, none⟩ = some (.int .u32 num) ∧ W.cell? ⟨w.heap.size, 0, none⟩ = some (.int .u8 k) ∧ W.cell? ⟨w.heap.size, 1, none⟩ = some (.int .u8 f) ∧ W.cell? ⟨w.heap.size, 2, none⟩ = some (.int .u8 t) ∧ W.cell? ⟨w.heap.size, 3, none⟩ = some (.int .u32 e) ∧ W.cell? ⟨w.heap.size, 4, none⟩ = some (.int .u32 s) ∧ W.cell? ⟨w.heap.size, 5, none⟩ = some (.string b)) := fun W hW => by
    obtain ⟨a0, a1, a2, _⟩ := (hc.later hW).cells
    obtain ⟨q0, q1, q2, q3, q4, q5, _⟩ := (hP.later hW).cells
    exact ⟨a0, a1, a2, q0, q1, q2, q3, q4, q5⟩
  have B0 := hid b0
  clear hc hP h b0 hp hs h0
  go_enter Try.func30, Try.ntmps30
  go_wp2_with fail
  generalize (w.alloc (.cells #[.int .u8 k, .int .u8 f, .int .u8 t, .int .u32 e, .int .u32 s, .string b] 26)) = W0 at *
  refine wp_region_class (by kernel_rfl) (by kernel_rfl) ?_
  repeat (first
    | go_big_quiet_skip
    | (go_big_quiet_want
       apply quiet_by
       · intro w4 hw4
         obtain ⟨k0, k1, k2, k3, k4, k5, k6, k7, k8⟩ := FX.out w4 hw4
         go_simp
         first
           | rfl
           | (go_at_call 23; exact class_of hw4 (RC.out _))
           | (simp [k0, k1, k2, k3, k4, k5, k6, k7, k8]; rfl)
       · go_simp; rfl
       go_big_quiet_on))
  refine wpQuiet_nil ?_
  intro w5 hw5
  go_wp2
  go_ret
  exact ⟨rfl, B0.out.trans (hw5.mono B0.out.size)⟩
set_option maxHeartbeats 2000000 in
theorem awaits_3 {w : World} {g : Nat} (cl ep num : Int) (uw : Bool) (body : ByteArray) (sends lst : Int) (h : IsC 80 w g ⟨cl, ep, num, uw, body, sends, lst⟩) (k f t e s : Int) (b : ByteArray) (hp : Fr.Wf ⟨k, f, t, e, s, b⟩) (hs : b.size ≤ maxLen) (h0 : (Fr.rightB ⟨k, f, t, e, s, b⟩) = true) (h1 : (k == 2) = true) (h2 : (t == cl) = true) (h3 : (e == ep) = false) :
    Calls Try.prog 30 #[pC g, .agg #[.int .u8 k, .int .u8 f, .int .u8 t, .int .u32 e, .int .u32 s, .string b]] w fun x w' => x = .returned (.bool false) ∧ Below w.heap.size w w' := by
  have RC : Hid (∀ W, Calls Try.prog 23 #[.agg #[.int .u8 k, .int .u8 f, .int .u8 t, .int .u32 e, .int .u32 s, .string b]] W fun x w' => x = .returned (.bool true) ∧ Below W.heap.size W w') := fun W => by
    have := right_c ⟨k, f, t, e, s, b⟩ hp hs W
    rw [h0] at this
    exact this
  have b0 : Below w.heap.size w (w.alloc (.cells #[.int .u8 k, .int .u8 f, .int .u8 t, .int .u32 e, .int .u32 s, .string b] 26)) := (Below.refl _ _).alloc (Nat.le_refl _) _
  have hc := h.later b0
  have hP := PkAt.new w ⟨k, f, t, e, s, b⟩
  have FX : Hid (∀ W, Below (w.alloc (.cells #[.int .u8 k, .int .u8 f, .int .u8 t, .int .u32 e, .int .u32 s, .string b] 26)).heap.size (w.alloc (.cells #[.int .u8 k, .int .u8 f, .int .u8 t, .int .u32 e, .int .u32 s, .string b] 26)) W → W.cell? ⟨g, 0, none⟩ = some (.int .u8 cl) ∧ W.cell? ⟨g, 1, none⟩ = some (.int .u32 ep) ∧ W.cell? ⟨g, 2, none⟩ = some (.int .u32 num) ∧ W.cell? ⟨w.heap.size, 0, none⟩ = some (.int .u8 k) ∧ W.cell? ⟨w.heap.size, 1, none⟩ = some (.int .u8 f) ∧ W.cell? ⟨w.heap.size, 2, none⟩ = some (.int .u8 t) ∧ W.cell? ⟨w.heap.size, 3, none⟩ = some (.int .u32 e) ∧ W.cell? ⟨w.heap.size, 4, none⟩ = some (.int .u32 s) ∧ W.cell? ⟨w.heap.size, 5, none⟩ = some (.string b)) := fun W hW => by
    obtain ⟨a0, a1, a2, _⟩ := (hc.later hW).cells
    obtain ⟨q0, q1, q2, q3, q4, q5, _⟩ := (hP.later hW).cells
    exact ⟨a0, a1, a2, q0, q1, q2, q3, q4, q5⟩
  have B0 := hid b0
  clear hc hP h b0 hp hs h0
  go_enter Try.func30, Try.ntmps30
  go_wp2_with fail
  generalize (w.alloc (.cells #[.int .u8 k, .int .u8 f, .int .u8 t, .int .u32 e, .int .u32 s, .string b] 26)) = W0 at *
  refine wp_region_class (by kernel_rfl) (by kernel_rfl) ?_
  repeat (first
    | go_big_quiet_skip
    | (go_big_quiet_want
       apply quiet_by
       · intro w4 hw4
         obtain ⟨k0, k1, k2, k3, k4, k5, k6, k7, k8⟩ := FX.out w4 hw4
         go_simp
         first
           | rfl
           | (go_at_call 23; exact class_of hw4 (RC.out _))
           | (simp [k0, k1, k2, k3, k4, k5, k6, k7, k8]; rfl)
       · go_simp; rfl
       go_big_quiet_on))
  refine wpQuiet_nil ?_
  intro w5 hw5
  go_wp2
  go_ret
  exact ⟨rfl, B0.out.trans (hw5.mono B0.out.size)⟩
set_option maxHeartbeats 2000000 in
theorem awaits_4 {w : World} {g : Nat} (cl ep num : Int) (uw : Bool) (body : ByteArray) (sends lst : Int) (h : IsC 80 w g ⟨cl, ep, num, uw, body, sends, lst⟩) (k f t e s : Int) (b : ByteArray) (hp : Fr.Wf ⟨k, f, t, e, s, b⟩) (hs : b.size ≤ maxLen) (h0 : (Fr.rightB ⟨k, f, t, e, s, b⟩) = true) (h1 : (k == 2) = true) (h2 : (t == cl) = true) (h3 : (e == ep) = true) (h4 : (s == num) = false) :
    Calls Try.prog 30 #[pC g, .agg #[.int .u8 k, .int .u8 f, .int .u8 t, .int .u32 e, .int .u32 s, .string b]] w fun x w' => x = .returned (.bool false) ∧ Below w.heap.size w w' := by
  have RC : Hid (∀ W, Calls Try.prog 23 #[.agg #[.int .u8 k, .int .u8 f, .int .u8 t, .int .u32 e, .int .u32 s, .string b]] W fun x w' => x = .returned (.bool true) ∧ Below W.heap.size W w') := fun W => by
    have := right_c ⟨k, f, t, e, s, b⟩ hp hs W
    rw [h0] at this
    exact this
  have b0 : Below w.heap.size w (w.alloc (.cells #[.int .u8 k, .int .u8 f, .int .u8 t, .int .u32 e, .int .u32 s, .string b] 26)) := (Below.refl _ _).alloc (Nat.le_refl _) _
  have hc := h.later b0
  have hP := PkAt.new w ⟨k, f, t, e, s, b⟩
  have FX : Hid (∀ W, Below (w.alloc (.cells #[.int .u8 k, .int .u8 f, .int .u8 t, .int .u32 e, .int .u32 s, .string b] 26)).heap.size (w.alloc (.cells #[.int .u8 k, .int .u8 f, .int .u8 t, .int .u32 e, .int .u32 s, .string b] 26)) W → W.cell? ⟨g, 0, none⟩ = some (.int .u8 cl) ∧ W.cell? ⟨g, 1, none⟩ = some (.int .u32 ep) ∧ W.cell? ⟨g, 2, none⟩ = some (.int .u32 num) ∧ W.cell? ⟨w.heap.size, 0, none⟩ = some (.int .u8 k) ∧ W.cell? ⟨w.heap.size, 1, none⟩ = some (.int .u8 f) ∧ W.cell? ⟨w.heap.size, 2, none⟩ = some (.int .u8 t) ∧ W.cell? ⟨w.heap.size, 3, none⟩ = some (.int .u32 e) ∧ W.cell? ⟨w.heap.size, 4, none⟩ = some (.int .u32 s) ∧ W.cell? ⟨w.heap.size, 5, none⟩ = some (.string b)) := fun W hW => by
    obtain ⟨a0, a1, a2, _⟩ := (hc.later hW).cells
    obtain ⟨q0, q1, q2, q3, q4, q5, _⟩ := (hP.later hW).cells
    exact ⟨a0, a1, a2, q0, q1, q2, q3, q4, q5⟩
  have B0 := hid b0
  clear hc hP h b0 hp hs h0
  go_enter Try.func30, Try.ntmps30
  go_wp2_with fail
  generalize (w.alloc (.cells #[.int .u8 k, .int .u8 f, .int .u8 t, .int .u32 e, .int .u32 s, .string b] 26)) = W0 at *
  refine wp_region_class (by kernel_rfl) (by kernel_rfl) ?_
  repeat (first
    | go_big_quiet_skip
    | (go_big_quiet_want
       apply quiet_by
       · intro w4 hw4
         obtain ⟨k0, k1, k2, k3, k4, k5, k6, k7, k8⟩ := FX.out w4 hw4
         go_simp
         first
           | rfl
           | (go_at_call 23; exact class_of hw4 (RC.out _))
           | (simp [k0, k1, k2, k3, k4, k5, k6, k7, k8]; rfl)
       · go_simp; rfl
       go_big_quiet_on))
  refine wpQuiet_nil ?_
  intro w5 hw5
  go_wp2
  go_ret
  exact ⟨rfl, B0.out.trans (hw5.mono B0.out.size)⟩
set_option maxHeartbeats 2000000 in
theorem awaits_5 {w : World} {g : Nat} (cl ep num : Int) (uw : Bool) (body : ByteArray) (sends lst : Int) (h : IsC 80 w g ⟨cl, ep, num, uw, body, sends, lst⟩) (k f t e s : Int) (b : ByteArray) (hp : Fr.Wf ⟨k, f, t, e, s, b⟩) (hs : b.size ≤ maxLen) (h0 : (Fr.rightB ⟨k, f, t, e, s, b⟩) = true) (h1 : (k == 2) = true) (h2 : (t == cl) = true) (h3 : (e == ep) = true) (h4 : (s == num) = true) :
    Calls Try.prog 30 #[pC g, .agg #[.int .u8 k, .int .u8 f, .int .u8 t, .int .u32 e, .int .u32 s, .string b]] w fun x w' => x = .returned (.bool true) ∧ Below w.heap.size w w' := by
  have RC : Hid (∀ W, Calls Try.prog 23 #[.agg #[.int .u8 k, .int .u8 f, .int .u8 t, .int .u32 e, .int .u32 s, .string b]] W fun x w' => x = .returned (.bool true) ∧ Below W.heap.size W w') := fun W => by
    have := right_c ⟨k, f, t, e, s, b⟩ hp hs W
    rw [h0] at this
    exact this
  have b0 : Below w.heap.size w (w.alloc (.cells #[.int .u8 k, .int .u8 f, .int .u8 t, .int .u32 e, .int .u32 s, .string b] 26)) := (Below.refl _ _).alloc (Nat.le_refl _) _
  have hc := h.later b0
  have hP := PkAt.new w ⟨k, f, t, e, s, b⟩
  have FX : Hid (∀ W, Below (w.alloc (.cells #[.int .u8 k, .int .u8 f, .int .u8 t, .int .u32 e, .int .u32 s, .string b] 26)).heap.size (w.alloc (.cells #[.int .u8 k, .int .u8 f, .int .u8 t, .int .u32 e, .int .u32 s, .string b] 26)) W → W.cell? ⟨g, 0, none⟩ = some (.int .u8 cl) ∧ W.cell? ⟨g, 1, none⟩ = some (.int .u32 ep) ∧ W.cell? ⟨g, 2, none⟩ = some (.int .u32 num) ∧ W.cell? ⟨w.heap.size, 0, none⟩ = some (.int .u8 k) ∧ W.cell? ⟨w.heap.size, 1, none⟩ = some (.int .u8 f) ∧ W.cell? ⟨w.heap.size, 2, none⟩ = some (.int .u8 t) ∧ W.cell? ⟨w.heap.size, 3, none⟩ = some (.int .u32 e) ∧ W.cell? ⟨w.heap.size, 4, none⟩ = some (.int .u32 s) ∧ W.cell? ⟨w.heap.size, 5, none⟩ = some (.string b)) := fun W hW => by
    obtain ⟨a0, a1, a2, _⟩ := (hc.later hW).cells
    obtain ⟨q0, q1, q2, q3, q4, q5, _⟩ := (hP.later hW).cells
    exact ⟨a0, a1, a2, q0, q1, q2, q3, q4, q5⟩
  have B0 := hid b0
  clear hc hP h b0 hp hs h0
  go_enter Try.func30, Try.ntmps30
  go_wp2_with fail
  generalize (w.alloc (.cells #[.int .u8 k, .int .u8 f, .int .u8 t, .int .u32 e, .int .u32 s, .string b] 26)) = W0 at *
  refine wp_region_class (by kernel_rfl) (by kernel_rfl) ?_
  repeat (first
    | go_big_quiet_skip
    | (go_big_quiet_want
       apply quiet_by
       · intro w4 hw4
         obtain ⟨k0, k1, k2, k3, k4, k5, k6, k7, k8⟩ := FX.out w4 hw4
         go_simp
         first
           | rfl
           | (go_at_call 23; exact class_of hw4 (RC.out _))
           | (simp [k0, k1, k2, k3, k4, k5, k6, k7, k8]; rfl)
       · go_simp; rfl
       go_big_quiet_on))
  refine wpQuiet_nil ?_
  intro w5 hw5
  go_wp2
  go_ret
  exact ⟨rfl, B0.out.trans (hw5.mono B0.out.size)⟩
theorem awaits_c {w : World} {g : Nat} {c : Cl} (h : IsC 80 w g c) (p : Fr.Pk) (hp : Fr.Wf p) (hs : p.b.size ≤ maxLen) :
    Calls Try.prog 30 #[pC g, Fr.val p] w fun x w' => x = .returned (.bool (awB c p)) ∧ Below w.heap.size w w' := by
  obtain ⟨cl, ep, num, uw, body, sends, lst⟩ := c
  obtain ⟨k, f, t, e, s, b⟩ := p
  unfold awB Fr.val
  simp only
  cases h0 : Fr.rightB ⟨k, f, t, e, s, b⟩ with
  | false => exact awaits_0 cl ep num uw body sends lst h k f t e s b hp hs h0
  | true =>
    cases h1 : (k == 2) with
    | false => exact awaits_1 cl ep num uw body sends lst h k f t e s b hp hs h0 h1
    | true =>
      cases h2 : (t == cl) with
      | false => exact awaits_2 cl ep num uw body sends lst h k f t e s b hp hs h0 h1 h2
      | true =>
        cases h3 : (e == ep) with
        | false => exact awaits_3 cl ep num uw body sends lst h k f t e s b hp hs h0 h1 h2 h3
        | true =>
          cases h4 : (s == num) with
          | false => exact awaits_4 cl ep num uw body sends lst h k f t e s b hp hs h0 h1 h2 h3 h4
          | true => exact awaits_5 cl ep num uw body sends lst h k f t e s b hp hs h0 h1 h2 h3 h4
def takeB (c : Cl) (p : Fr.Pk) : Bool := c.uw && awB c p
def takeT (c : Cl) (p : Fr.Pk) : ByteArray := if takeB c p then p.b else ⟨#[]⟩
def takeS (c : Cl) (p : Fr.Pk) : Cl := if takeB c p then ⟨c.cl, c.ep, c.num, false, ⟨#[]⟩, 0, 0⟩ else c
set_option maxHeartbeats 2000000 in
theorem take_c {w : World} {g : Nat} {c : Cl} (h : IsC 80 w g c) (p : Fr.Pk) (hp : Fr.Wf p) (hs : p.b.size ≤ maxLen) :
    Calls Try.prog 16 #[pC g, Fr.val p] w fun x w' => x = .returned (.tuple #[.string (takeT c p), .bool (takeB c p)]) ∧ IsC 80 w' g (takeS c p) ∧ Ou (fun k => k = g) w w' := by
  have hP := PkAt.new w p
  have hlt := h.lt
  obtain ⟨k, f, t, e, s, b⟩ := p
  have b0 : Below w.heap.size w (w.alloc (.cells #[.int .u8 k, .int .u8 f, .int .u8 t, .int .u32 e, .int .u32 s, .string b] 26)) := (Below.refl _ _).alloc (Nat.le_refl _) _
  have BC := hid (busy_c (h.later b0))
  have AC := hid (awaits_c (h.later b0) ⟨k, f, t, e, s, b⟩ hp hs)
  have hv : Fr.val ⟨k, f, t, e, s, b⟩ = .agg #[.int .u8 k, .int .u8 f, .int .u8 t, .int .u32 e, .int .u32 s, .string b] := rfl
  rw [hv] at AC ⊢
  have H := hid (h.later b0)
  have B0 := hid b0
  clear hv hp hs h b0
  simp only at *
  cases hu : c.uw with
  | false =>
    have E1 : Hid (takeB c ⟨k, f, t, e, s, b⟩ = false) := by show _ = _; unfold takeB; rw [hu]; rfl
    rw [hu] at BC
    clear hu
    go_enter Try.func16, Try.ntmps16
    go_wp2_with (go_at_call 21; refine BC.out.mono ?_; rintro _ w1 ⟨rfl, h1⟩; rw [h1])
    go_ret2
    exact ⟨by unfold takeT; rw [E1.out]; rfl, by unfold takeS; rw [E1.out]; exact H.out, Ou.of B0.out⟩
  | true =>
    rw [hu] at BC
    cases ha : awB c ⟨k, f, t, e, s, b⟩ with
    | false =>
      have E1 : Hid (takeB c ⟨k, f, t, e, s, b⟩ = false) := by show _ = _; unfold takeB; rw [hu, ha]; rfl
      rw [ha] at AC
      clear hu ha
      obtain ⟨p0, p1, p2, p3, p4, p5, pf⟩ := hP.cells
      go_enter Try.func16, Try.ntmps16
      go_wp2_with (first
        | (go_at_call 21; refine BC.out.mono ?_; rintro _ w1 ⟨rfl, h1⟩; rw [h1])
        | (go_at_call 30; refine AC.out.mono ?_; rintro _ w2 ⟨rfl, hb2⟩))
      go_ret2
      exact ⟨by unfold takeT; rw [E1.out]; rfl, by unfold takeS; rw [E1.out]; exact H.out.later hb2, Ou.of (B0.out.trans (hb2.mono B0.out.size))⟩
    | true =>
      have E1 : Hid (takeB c ⟨k, f, t, e, s, b⟩ = true) := by show _ = _; unfold takeB; rw [hu, ha]; rfl
      rw [ha] at AC
      clear hu ha
      obtain ⟨p0, p1, p2, p3, p4, p5, pf⟩ := hP.cells
      have HP := hid hP
      clear hP pf
      go_enter Try.func16, Try.ntmps16
      go_wp2_with fail
      generalize (w.alloc (.cells #[.int .u8 k, .int .u8 f, .int .u8 t, .int .u32 e, .int .u32 s, .string b] 26)) = W at *
      refine BC.out.mono ?_
      rintro _ w1 ⟨rfl, h1⟩
      rw [h1]
      clear h1
      have hne : ¬ w.heap.size = g := by omega
      have hne' : ¬ g = w.heap.size := by omega
      go_wp2_with (go_at_call 30; refine AC.out.mono ?_; rintro _ w2 ⟨rfl, hb2⟩; (have H2 := hid (H.out.later hb2)); (obtain ⟨d0, d1, d2, d3, d4, d5, d6, df⟩ := H2.out.cells); (have f3 := df 3); (have f4 := df 4); (have f5 := df 5); (have f6 := df 6); (obtain ⟨r0, r1, r2, r3, r4, r5, rf⟩ := (HP.out.later hb2).cells); simp only at r5)
      go_ret2
      exact ⟨by unfold takeT; rw [E1.out]; rfl, by unfold takeS; rw [E1.out]; exact row_set 6 _ (row_set 5 _ (row_set 4 _ (row_set 3 _ H2.out))), (Ou.of (B0.out.trans (hb2.mono B0.out.size))).trans (((((Ou.refl (fun k => k = g) _).set rfl).set rfl).set rfl).set rfl)⟩
set_option maxHeartbeats 1000000 in
theorem take_nil (p : Fr.Pk) (w : World) : Calls Try.prog 16 #[.pointer none, Fr.val p] w fun e w' => e = .returned (.tuple #[.string ⟨#[]⟩, .bool false]) ∧ Below w.heap.size w w' := by
  unfold Fr.val
  go_enter Try.func16, Try.ntmps16
  go_wp2_with (go_at_call 21; refine (busy_nil _).mono ?_; rintro _ w1 ⟨rfl, h1⟩; rw [h1])
  go_ret2
  exact ⟨rfl, (Below.refl _ _).alloc (Nat.le_refl _) _⟩
end Go.Proofs.Ytmoeljieafninaa
