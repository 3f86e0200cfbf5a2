/-
  For every two clients and numbers, Who and Number of what Make answers are the client and the number, unlike ones have unlike fids, with an error the fid is 0, and live holds.
-/
import Derived.Test.YtdbllggcomllgabCalls
import Derived.ChangeOld
import Derived.Below
namespace Go.Proofs.Ytdbllggcomllgab
open Go.ChangeShapes Go.WideShapes Go.ChangeAt Go.RowKit
open Go.ChangeMaps (open_string shut_string)
open Go.BigFrame
set_option linter.unusedVariables false
theorem make_facts (c n d m : Int) (hc : 0 ≤ c) (hc' : c ≤ 3) (hn : 1 ≤ n) (hn' : n ≤ 16777215) (hd : 0 ≤ d) (hd' : d ≤ 3) (hm : 1 ≤ m) (hm' : m ≤ 16777215) :
    M.makeF c n / 16777216 = c ∧ M.makeF c n % 16777216 = n ∧ 0 < M.makeF c n ∧ M.makeF c n < 4294967296 ∧ (M.makeF c n = M.makeF d m ↔ c = d ∧ n = m) := by
  unfold M.makeF; omega
/-- What is read of an array of two numbers that came in. -/
theorem open_pair {H : Type} {enc : TypeId × Value → H} {P : Program} {W : World} {r : Reach} {b0 : Nat} {k : IntKind} {t e : TypeId} {v : Value} {d : DataW H} {p : List MemPlace}
    (ht : P.underlying t = some (.array 2 e)) (he : P.underlying e = some (.int k)) (hce : P.cellsOf e = 1) (hct : P.cellsOf t = 2)
    (hv : Value.okWide P W r b0 t v) (h : DataW.Trod enc P W 0 (fun _ => true) true t v d p) :
    ∃ x y, v = .agg #[.int k x, .int k y] ∧ (Lit.int k x).wf = true ∧ (Lit.int k y).wf = true := by
  simp only [Value.okWide, ht] at hv
  obtain ⟨cs, rfl, hsz, _⟩ := hv
  obtain ⟨fuel, hf⟩ := h
  obtain ⟨xs, m, _, _, _, hlen, hel⟩ := DataW.trod_array ht hf
  have h0 := hel 0 (by omega)
  have h1 := hel 1 (by omega)
  rw [hct] at hsz
  obtain ⟨c0, c1, rfl⟩ : ∃ c0 c1, cs = #[c0, c1] := by
    obtain ⟨l⟩ := cs
    match l, hsz with
    | [c0, c1], _ => exact ⟨c0, c1, rfl⟩
  match xs, hlen with
  | [x0, x1], _ =>
    simp [hce, Value.cells] at h0 h1
    obtain ⟨n0, e0, _, w0⟩ := DataW.trod_int he h0
    obtain ⟨n1, e1, _, w1⟩ := DataW.trod_int he h1
    simp at e0 e1
    subst e0 e1
    exact ⟨n0, n1, rfl, w0, w1⟩
set_option maxHeartbeats 2000000 in
theorem bitsMade_ok1 (c d n m : Int) (F G : Int) (hc : 0 ≤ c) (hc' : c ≤ 3) (hn : 1 ≤ n) (hn' : n ≤ 16777215) (hd : 0 ≤ d) (hd' : d ≤ 3) (hm : 1 ≤ m) (hm' : m ≤ 16777215) (w : World)
    (hF : M.makeF c n = F) (hG : M.makeF d m = G) (g1 : F / 16777216 = c) (g2 : F % 16777216 = n) (g3 : 0 < F) (g4 : F < 4294967296)
    (e1 : (F == G) = false) (e2 : (c == d) = false) :
    Calls Try.prog 4 #[.agg #[.int .u8 c, .int .u8 d], .agg #[.int .u32 n, .int .u32 m]] w fun e w' => e = .returned (.bool true) ∧ Below w.heap.size w w' := by
  have HF := hid hF
  have HG := hid hG
  have G1 := hid g1
  have G2 := hid g2
  have g5 : (F != 0) = true := by rw [bne_iff_ne]; omega
  have g6 : (F / 16777216 == c) = true := by rw [g1]; exact beq_self_eq_true c
  have g7 : (F % 16777216 == n) = true := by rw [g2]; exact beq_self_eq_true n
  clear g1 g2 hF hG
  go_enter Try.func4, Try.ntmps4
  go_wp2_with fail
  refine (make_ok _ _ (by omega) (by omega) (by omega) (by omega) _).mono ?_
  rintro e w1 ⟨rfl, rfl⟩
  rw [HF.out]
  go_wp2_with fail
  refine (make_ok _ _ (by omega) (by omega) (by omega) (by omega) _).mono ?_
  rintro e w1 ⟨rfl, rfl⟩
  rw [HG.out]
  go_wp2_with fail
  have hB : Below w.heap.size w ((w.alloc (Obj.cells #[Value.int IntKind.u8 c, Value.int IntKind.u8 d] 31)).alloc (Obj.cells #[Value.int IntKind.u32 n, Value.int IntKind.u32 m] 32)) := ((Below.refl _ _).alloc (Nat.le_refl _) _).alloc (by simp) _
  have k0 : ((w.alloc (Obj.cells #[Value.int IntKind.u8 c, Value.int IntKind.u8 d] 31)).alloc (Obj.cells #[Value.int IntKind.u32 n, Value.int IntKind.u32 m] 32)).cell? ⟨w.heap.size, 0, none⟩ = some (.int .u8 c) := by simp [go_sem]
  have k1 : ((w.alloc (Obj.cells #[Value.int IntKind.u8 c, Value.int IntKind.u8 d] 31)).alloc (Obj.cells #[Value.int IntKind.u32 n, Value.int IntKind.u32 m] 32)).cell? ⟨w.heap.size, 1, none⟩ = some (.int .u8 d) := by simp [go_sem]
  have k2 : ((w.alloc (Obj.cells #[Value.int IntKind.u8 c, Value.int IntKind.u8 d] 31)).alloc (Obj.cells #[Value.int IntKind.u32 n, Value.int IntKind.u32 m] 32)).cell? ⟨w.heap.size + 1, 0, none⟩ = some (.int .u32 n) := by simp [go_sem]
  have k3 : ((w.alloc (Obj.cells #[Value.int IntKind.u8 c, Value.int IntKind.u8 d] 31)).alloc (Obj.cells #[Value.int IntKind.u32 n, Value.int IntKind.u32 m] 32)).cell? ⟨w.heap.size + 1, 1, none⟩ = some (.int .u32 m) := by simp [go_sem]
  generalize ((w.alloc (Obj.cells #[Value.int IntKind.u8 c, Value.int IntKind.u8 d] 31)).alloc (Obj.cells #[Value.int IntKind.u32 n, Value.int IntKind.u32 m] 32)) = W at *
  have l0 : ∀ w', Below W.heap.size W w' → w'.cell? ⟨w.heap.size, 0, none⟩ = some (.int .u8 c) := fun w' h => cell_later h k0
  have l1 : ∀ w', Below W.heap.size W w' → w'.cell? ⟨w.heap.size, 1, none⟩ = some (.int .u8 d) := fun w' h => cell_later h k1
  have l2 : ∀ w', Below W.heap.size W w' → w'.cell? ⟨w.heap.size + 1, 0, none⟩ = some (.int .u32 n) := fun w' h => cell_later h k2
  have l3 : ∀ w', Below W.heap.size W w' → w'.cell? ⟨w.heap.size + 1, 1, none⟩ = some (.int .u32 m) := fun w' h => cell_later h k3
  refine wp_region_class (by kernel_rfl) (by kernel_rfl) ?_
  repeat (first
    | go_big_quiet_skip
    | (go_big_quiet_want
       apply quiet_by
       · intro w1 hw1
         go_simp
         first
           | rfl
           | (go_at_call 10; exact class_of hw1 (live_c _))
           | (go_at_call 14; exact class_same hw1 (who_c _ (by omega) (by omega) _))
           | (go_at_call 15; exact class_same hw1 (number_c _ (by omega) (by omega) _))
       · go_simp; rfl
       go_big_quiet_on))
  refine wpQuiet_nil ?_
  intro w2 hw2
  go_wp2
  go_ret
  exact ⟨rfl, hB.trans (hw2.mono hB.size)⟩
set_option maxHeartbeats 2000000 in
theorem bitsMade_ok2 (c d n m : Int) (F G : Int) (hc : 0 ≤ c) (hc' : c ≤ 3) (hn : 1 ≤ n) (hn' : n ≤ 16777215) (hd : 0 ≤ d) (hd' : d ≤ 3) (hm : 1 ≤ m) (hm' : m ≤ 16777215) (w : World)
    (hF : M.makeF c n = F) (hG : M.makeF d m = G) (g1 : F / 16777216 = c) (g2 : F % 16777216 = n) (g3 : 0 < F) (g4 : F < 4294967296)
    (e1 : (F == G) = false) (e2 : (c == d) = true) (e3 : (n == m) = false) :
    Calls Try.prog 4 #[.agg #[.int .u8 c, .int .u8 d], .agg #[.int .u32 n, .int .u32 m]] w fun e w' => e = .returned (.bool true) ∧ Below w.heap.size w w' := by
  have HF := hid hF
  have HG := hid hG
  have G1 := hid g1
  have G2 := hid g2
  have g5 : (F != 0) = true := by rw [bne_iff_ne]; omega
  have g6 : (F / 16777216 == c) = true := by rw [g1]; exact beq_self_eq_true c
  have g7 : (F % 16777216 == n) = true := by rw [g2]; exact beq_self_eq_true n
  clear g1 g2 hF hG
  go_enter Try.func4, Try.ntmps4
  go_wp2_with fail
  refine (make_ok _ _ (by omega) (by omega) (by omega) (by omega) _).mono ?_
  rintro e w1 ⟨rfl, rfl⟩
  rw [HF.out]
  go_wp2_with fail
  refine (make_ok _ _ (by omega) (by omega) (by omega) (by omega) _).mono ?_
  rintro e w1 ⟨rfl, rfl⟩
  rw [HG.out]
  go_wp2_with fail
  have hB : Below w.heap.size w ((w.alloc (Obj.cells #[Value.int IntKind.u8 c, Value.int IntKind.u8 d] 31)).alloc (Obj.cells #[Value.int IntKind.u32 n, Value.int IntKind.u32 m] 32)) := ((Below.refl _ _).alloc (Nat.le_refl _) _).alloc (by simp) _
  have k0 : ((w.alloc (Obj.cells #[Value.int IntKind.u8 c, Value.int IntKind.u8 d] 31)).alloc (Obj.cells #[Value.int IntKind.u32 n, Value.int IntKind.u32 m] 32)).cell? ⟨w.heap.size, 0, none⟩ = some (.int .u8 c) := by simp [go_sem]
  have k1 : ((w.alloc (Obj.cells #[Value.int IntKind.u8 c, Value.int IntKind.u8 d] 31)).alloc (Obj.cells #[Value.int IntKind.u32 n, Value.int IntKind.u32 m] 32)).cell? ⟨w.heap.size, 1, none⟩ = some (.int .u8 d) := by simp [go_sem]
  have k2 : ((w.alloc (Obj.cells #[Value.int IntKind.u8 c, Value.int IntKind.u8 d] 31)).alloc (Obj.cells #[Value.int IntKind.u32 n, Value.int IntKind.u32 m] 32)).cell? ⟨w.heap.size + 1, 0, none⟩ = some (.int .u32 n) := by simp [go_sem]
  have k3 : ((w.alloc (Obj.cells #[Value.int IntKind.u8 c, Value.int IntKind.u8 d] 31)).alloc (Obj.cells #[Value.int IntKind.u32 n, Value.int IntKind.u32 m] 32)).cell? ⟨w.heap.size + 1, 1, none⟩ = some (.int .u32 m) := by simp [go_sem]
  generalize ((w.alloc (Obj.cells #[Value.int IntKind.u8 c, Value.int IntKind.u8 d] 31)).alloc (Obj.cells #[Value.int IntKind.u32 n, Value.int IntKind.u32 m] 32)) = W at *
  have l0 : ∀ w', Below W.heap.size W w' → w'.cell? ⟨w.heap.size, 0, none⟩ = some (.int .u8 c) := fun w' h => cell_later h k0
  have l1 : ∀ w', Below W.heap.size W w' → w'.cell? ⟨w.heap.size, 1, none⟩ = some (.int .u8 d) := fun w' h => cell_later h k1
  have l2 : ∀ w', Below W.heap.size W w' → w'.cell? ⟨w.heap.size + 1, 0, none⟩ = some (.int .u32 n) := fun w' h => cell_later h k2
  have l3 : ∀ w', Below W.heap.size W w' → w'.cell? ⟨w.heap.size + 1, 1, none⟩ = some (.int .u32 m) := fun w' h => cell_later h k3
  refine wp_region_class (by kernel_rfl) (by kernel_rfl) ?_
  repeat (first
    | go_big_quiet_skip
    | (go_big_quiet_want
       apply quiet_by
       · intro w1 hw1
         go_simp
         first
           | rfl
           | (go_at_call 10; exact class_of hw1 (live_c _))
           | (go_at_call 14; exact class_same hw1 (who_c _ (by omega) (by omega) _))
           | (go_at_call 15; exact class_same hw1 (number_c _ (by omega) (by omega) _))
       · go_simp; rfl
       go_big_quiet_on))
  refine wpQuiet_nil ?_
  intro w2 hw2
  go_wp2
  go_ret
  exact ⟨rfl, hB.trans (hw2.mono hB.size)⟩
set_option maxHeartbeats 2000000 in
theorem bitsMade_ok3 (c d n m : Int) (F G : Int) (hc : 0 ≤ c) (hc' : c ≤ 3) (hn : 1 ≤ n) (hn' : n ≤ 16777215) (hd : 0 ≤ d) (hd' : d ≤ 3) (hm : 1 ≤ m) (hm' : m ≤ 16777215) (w : World)
    (hF : M.makeF c n = F) (hG : M.makeF d m = G) (g1 : F / 16777216 = c) (g2 : F % 16777216 = n) (g3 : 0 < F) (g4 : F < 4294967296)
    (e1 : (F == G) = true) (e2 : (c == d) = true) (e3 : (n == m) = true) :
    Calls Try.prog 4 #[.agg #[.int .u8 c, .int .u8 d], .agg #[.int .u32 n, .int .u32 m]] w fun e w' => e = .returned (.bool true) ∧ Below w.heap.size w w' := by
  have HF := hid hF
  have HG := hid hG
  have G1 := hid g1
  have G2 := hid g2
  have g5 : (F != 0) = true := by rw [bne_iff_ne]; omega
  have g6 : (F / 16777216 == c) = true := by rw [g1]; exact beq_self_eq_true c
  have g7 : (F % 16777216 == n) = true := by rw [g2]; exact beq_self_eq_true n
  clear g1 g2 hF hG
  go_enter Try.func4, Try.ntmps4
  go_wp2_with fail
  refine (make_ok _ _ (by omega) (by omega) (by omega) (by omega) _).mono ?_
  rintro e w1 ⟨rfl, rfl⟩
  rw [HF.out]
  go_wp2_with fail
  refine (make_ok _ _ (by omega) (by omega) (by omega) (by omega) _).mono ?_
  rintro e w1 ⟨rfl, rfl⟩
  rw [HG.out]
  go_wp2_with fail
  have hB : Below w.heap.size w ((w.alloc (Obj.cells #[Value.int IntKind.u8 c, Value.int IntKind.u8 d] 31)).alloc (Obj.cells #[Value.int IntKind.u32 n, Value.int IntKind.u32 m] 32)) := ((Below.refl _ _).alloc (Nat.le_refl _) _).alloc (by simp) _
  have k0 : ((w.alloc (Obj.cells #[Value.int IntKind.u8 c, Value.int IntKind.u8 d] 31)).alloc (Obj.cells #[Value.int IntKind.u32 n, Value.int IntKind.u32 m] 32)).cell? ⟨w.heap.size, 0, none⟩ = some (.int .u8 c) := by simp [go_sem]
  have k1 : ((w.alloc (Obj.cells #[Value.int IntKind.u8 c, Value.int IntKind.u8 d] 31)).alloc (Obj.cells #[Value.int IntKind.u32 n, Value.int IntKind.u32 m] 32)).cell? ⟨w.heap.size, 1, none⟩ = some (.int .u8 d) := by simp [go_sem]
  have k2 : ((w.alloc (Obj.cells #[Value.int IntKind.u8 c, Value.int IntKind.u8 d] 31)).alloc (Obj.cells #[Value.int IntKind.u32 n, Value.int IntKind.u32 m] 32)).cell? ⟨w.heap.size + 1, 0, none⟩ = some (.int .u32 n) := by simp [go_sem]
  have k3 : ((w.alloc (Obj.cells #[Value.int IntKind.u8 c, Value.int IntKind.u8 d] 31)).alloc (Obj.cells #[Value.int IntKind.u32 n, Value.int IntKind.u32 m] 32)).cell? ⟨w.heap.size + 1, 1, none⟩ = some (.int .u32 m) := by simp [go_sem]
  generalize ((w.alloc (Obj.cells #[Value.int IntKind.u8 c, Value.int IntKind.u8 d] 31)).alloc (Obj.cells #[Value.int IntKind.u32 n, Value.int IntKind.u32 m] 32)) = W at *
  have l0 : ∀ w', Below W.heap.size W w' → w'.cell? ⟨w.heap.size, 0, none⟩ = some (.int .u8 c) := fun w' h => cell_later h k0
  have l1 : ∀ w', Below W.heap.size W w' → w'.cell? ⟨w.heap.size, 1, none⟩ = some (.int .u8 d) := fun w' h => cell_later h k1
  have l2 : ∀ w', Below W.heap.size W w' → w'.cell? ⟨w.heap.size + 1, 0, none⟩ = some (.int .u32 n) := fun w' h => cell_later h k2
  have l3 : ∀ w', Below W.heap.size W w' → w'.cell? ⟨w.heap.size + 1, 1, none⟩ = some (.int .u32 m) := fun w' h => cell_later h k3
  refine wp_region_class (by kernel_rfl) (by kernel_rfl) ?_
  repeat (first
    | go_big_quiet_skip
    | (go_big_quiet_want
       apply quiet_by
       · intro w1 hw1
         go_simp
         first
           | rfl
           | (go_at_call 10; exact class_of hw1 (live_c _))
           | (go_at_call 14; exact class_same hw1 (who_c _ (by omega) (by omega) _))
           | (go_at_call 15; exact class_same hw1 (number_c _ (by omega) (by omega) _))
       · go_simp; rfl
       go_big_quiet_on))
  refine wpQuiet_nil ?_
  intro w2 hw2
  go_wp2
  go_ret
  exact ⟨rfl, hB.trans (hw2.mono hB.size)⟩
set_option maxHeartbeats 400000 in
theorem bitsMade_bad1 (c d n m : Int) (hc : 0 ≤ c) (hn : 0 ≤ n) (hd : 0 ≤ d) (hm : 0 ≤ m) (h : 3 < c ∨ n < 1 ∨ 16777215 < n) (h' : 3 < d ∨ m < 1 ∨ 16777215 < m) (w : World) :
    Calls Try.prog 4 #[.agg #[.int .u8 c, .int .u8 d], .agg #[.int .u32 n, .int .u32 m]] w fun e w' => e = .returned (.bool true) ∧ Below w.heap.size w w' := by
  have H := hid h
  have H' := hid h'
  clear h h'
  go_enter Try.func4, Try.ntmps4
  go_wp2_with fail
  refine (make_bad _ _ (by omega) (by omega) H.out _).mono ?_
  rintro e w1 ⟨rfl, rfl⟩
  go_wp2_with fail
  refine (make_bad _ _ (by omega) (by omega) H'.out _).mono ?_
  rintro e w1 ⟨rfl, rfl⟩
  go_wp2_with fail
  refine (live_c _).mono ?_
  rintro e w1 ⟨rfl, hb⟩
  go_wp2
  go_ret
  exact ⟨rfl, (((Below.refl _ _).alloc (Nat.le_refl _) _).alloc (by simp) _).trans (hb.mono (by simp; omega))⟩
set_option maxHeartbeats 400000 in
theorem bitsMade_bad2 (c d n m : Int) (hc : 0 ≤ c) (hn : 0 ≤ n) (hd : 0 ≤ d) (hd' : d ≤ 3) (hm : 1 ≤ m) (hm' : m ≤ 16777215) (h : 3 < c ∨ n < 1 ∨ 16777215 < n) (w : World) :
    Calls Try.prog 4 #[.agg #[.int .u8 c, .int .u8 d], .agg #[.int .u32 n, .int .u32 m]] w fun e w' => e = .returned (.bool true) ∧ Below w.heap.size w w' := by
  have H := hid h
  clear h
  go_enter Try.func4, Try.ntmps4
  go_wp2_with fail
  refine (make_bad _ _ (by omega) (by omega) H.out _).mono ?_
  rintro e w1 ⟨rfl, rfl⟩
  go_wp2_with fail
  refine (make_ok _ _ (by omega) (by omega) (by omega) (by omega) _).mono ?_
  rintro e w1 ⟨rfl, rfl⟩
  go_wp2_with fail
  refine (live_c _).mono ?_
  rintro e w1 ⟨rfl, hb⟩
  go_wp2
  go_ret
  exact ⟨rfl, (((Below.refl _ _).alloc (Nat.le_refl _) _).alloc (by simp) _).trans (hb.mono (by simp; omega))⟩
set_option maxHeartbeats 400000 in
theorem bitsMade_bad3 (c d n m : Int) (hc : 0 ≤ c) (hc' : c ≤ 3) (hn : 1 ≤ n) (hn' : n ≤ 16777215) (hd : 0 ≤ d) (hm : 0 ≤ m) (h' : 3 < d ∨ m < 1 ∨ 16777215 < m) (w : World) :
    Calls Try.prog 4 #[.agg #[.int .u8 c, .int .u8 d], .agg #[.int .u32 n, .int .u32 m]] w fun e w' => e = .returned (.bool true) ∧ Below w.heap.size w w' := by
  have H' := hid h'
  clear h'
  go_enter Try.func4, Try.ntmps4
  go_wp2_with fail
  refine (make_ok _ _ (by omega) (by omega) (by omega) (by omega) _).mono ?_
  rintro e w1 ⟨rfl, rfl⟩
  go_wp2_with fail
  refine (make_bad _ _ (by omega) (by omega) H'.out _).mono ?_
  rintro e w1 ⟨rfl, rfl⟩
  go_wp2_with fail
  refine (live_c _).mono ?_
  rintro e w1 ⟨rfl, hb⟩
  go_wp2
  go_ret
  exact ⟨rfl, (((Below.refl _ _).alloc (Nat.le_refl _) _).alloc (by simp) _).trans (hb.mono (by simp; omega))⟩
theorem bitsMade_walk (c d : Int) (hc : (Lit.int .u8 c).wf = true) (hd : (Lit.int .u8 d).wf = true) (n m : Int) (hn : (Lit.int .u32 n).wf = true) (hm : (Lit.int .u32 m).wf = true) (w : World) :
    Calls Try.prog 4 #[.agg #[.int .u8 c, .int .u8 d], .agg #[.int .u32 n, .int .u32 m]] w fun e w' => e = .returned (.bool true) ∧ Below w.heap.size w w' := by
  have bc := bd_u8 hc
  have bd := bd_u8 hd
  have bn := bd_u32 hn
  have bm := bd_u32 hm
  clear hc hd hn hm
  by_cases h : 3 < c ∨ n < 1 ∨ 16777215 < n
  · by_cases h' : 3 < d ∨ m < 1 ∨ 16777215 < m
    · exact bitsMade_bad1 c d n m (by omega) (by omega) (by omega) (by omega) h h' w
    · exact bitsMade_bad2 c d n m (by omega) (by omega) (by omega) (by omega) (by omega) (by omega) h w
  · by_cases h' : 3 < d ∨ m < 1 ∨ 16777215 < m
    · exact bitsMade_bad3 c d n m (by omega) (by omega) (by omega) (by omega) (by omega) (by omega) h' w
    · obtain ⟨f1, f2, f3, f4, f5⟩ := make_facts c n d m (by omega) (by omega) (by omega) (by omega) (by omega) (by omega) (by omega) (by omega)
      by_cases e : c = d
      · by_cases e' : n = m
        · exact bitsMade_ok3 c d n m _ _ (by omega) (by omega) (by omega) (by omega) (by omega) (by omega) (by omega) (by omega) w rfl rfl f1 f2 f3 f4 (beq_iff_eq.2 (f5.2 ⟨e, e'⟩)) (beq_iff_eq.2 e) (beq_iff_eq.2 e')
        · exact bitsMade_ok2 c d n m _ _ (by omega) (by omega) (by omega) (by omega) (by omega) (by omega) (by omega) (by omega) w rfl rfl f1 f2 f3 f4 (beq_eq_false_iff_ne.2 fun hh => e' (f5.1 hh).2) (beq_iff_eq.2 e) (beq_eq_false_iff_ne.2 e')
      · exact bitsMade_ok1 c d n m _ _ (by omega) (by omega) (by omega) (by omega) (by omega) (by omega) (by omega) (by omega) w rfl rfl f1 f2 f3 f4 (beq_eq_false_iff_ne.2 fun hh => e (f5.1 hh).1) (beq_eq_false_iff_ne.2 e)
/-! ### The row of BitsMade -/
theorem bitsMade_own : ownKnob Try.prog.godebug = none := by kernel_rfl
theorem bitsMade_laidOut : laidOutB Try.prog = true := by kernel_rfl
set_option maxRecDepth 100000 in
theorem bitsMade_lifted (os : Os) (started : os.Started) (H : Type) (enc : TypeId × Value → H) :
    ReturnsInHanded {} Try.checked os 4 .any (Rows.bitsMadeSpec.pre6 enc Try.prog Try.f4 Rows.bitsMadeRow.domain false) (Rows.bitsMadeSpec.post enc Try.prog Try.f4 false true false false) := by
  refine returnsInHanded_of_change (C := Try.checked) bitsMade_own started (by kernel_rfl) Try.func4
    (ChangeSpec.witness6 (enc := enc) (C := Try.checked) false ⟨#[], #[.agg #[.int .u8 0, .int .u8 0], .agg #[.int .u32 0, .int .u32 0]], []⟩ 8 (by kernel_rfl) (by kernel_rfl) (by kernel_rfl) (by kernel_rfl)) ?_
  intro W base args ds gs before hval0 hW hcnd _
  have hval : ∀ (j : Nat) t v, Try.f4.params[j]? = some t → args[j]? = some v → Value.okWide Try.prog W .any base t v := hval0
  have hW' := hW
  obtain ⟨p, q, hA0, hV, rfl, hfz, hnd⟩ := hW
  have hA : DataW.TrodAll enc Try.prog W 0 (fun _ => true) true Try.f4.params.toList args.toList ds p := hA0
  rw [Try.params4] at hA hval
  obtain ⟨v0, vs0, d0, ds0, p0, q0, hargs, rfl, rfl, h0, r0⟩ := trodAll_cons hA
  obtain ⟨v1, vs1, d1, ds1, p1, q1, rfl, rfl, rfl, h1, r1⟩ := trodAll_cons r0
  obtain ⟨rfl, rfl, rfl⟩ := trodAll_nil r1
  obtain rfl : args = #[v0, v1] := by cases args; simp_all
  obtain ⟨rfl, rfl⟩ := trodVars_none hV
  have k0 := h0
  have lt0 : ∀ x ∈ p0, x.block < W.heap.size := by obtain ⟨m, hm⟩ := k0; exact DataW.trod_lt m _ _ _ hm
  obtain ⟨x0, y0, rfl, wx0, wy0⟩ := open_pair (k := .u8) Try.underlying31 Try.underlying5 (by kernel_rfl) (by kernel_rfl) (hval 0 31 v0 rfl rfl) h0
  have k1 := h1
  have lt1 : ∀ x ∈ p1, x.block < W.heap.size := by obtain ⟨m, hm⟩ := k1; exact DataW.trod_lt m _ _ _ hm
  obtain ⟨x1, y1, rfl, wx1, wy1⟩ := open_pair (k := .u32) Try.underlying32 Try.underlying22 (by kernel_rfl) (by kernel_rfl) (hval 1 32 v1 rfl rfl) h1
  clear hA0 hval0
  refine (bitsMade_walk x0 y0 wx0 wy0 x1 y1 wx1 wy1 W).mono fun e W' ⟨he, bel⟩ => ?_
  subst he
  exact ⟨_, rfl, _, _, _, [], _, [], hW', trodAll_mk1 (shut_bool Try.underlying4 _), (trodAll_cons_mk (Below.trod bitsMade_laidOut (by kernel_rfl) (of_decide_eq_true (by kernel_rfl)) k0 bel lt0) (trodAll_cons_mk (Below.trod bitsMade_laidOut (by kernel_rfl) (of_decide_eq_true (by kernel_rfl)) k1 bel lt1) trodAll_mk0)), rfl, bel.frame _, fun h => by cases h⟩
theorem bitsMade_over : Rows.bitsMadeRow.holds Try.pinned (OpenSpec.ofChange Rows.bitsMadeSpec) :=
  OpenClaim.holds_of_wide 4 Try.f4 rfl rfl rfl rfl rfl rfl rfl ⟨rfl, rfl, rfl, rfl, rfl⟩ rfl rfl rfl rfl rfl (by kernel_rfl) Try.func4 (by kernel_rfl)
    (of_decide_eq_true (by kernel_rfl)) (by unfold Func.isWrapper; first | (rw [if_pos (by decide +kernel)]; kernel_rfl) | (rw [if_neg (by decide +kernel)]; exact ⟨rfl, rfl⟩))
    (fun os started H enc _ => bitsMade_lifted os started H enc)
/-- The statement. -/
theorem bitsMade_holds : Rows.BitsMadeSaid := bitsMade_over
#print axioms bitsMade_holds
end Go.Proofs.Ytdbllggcomllgab
