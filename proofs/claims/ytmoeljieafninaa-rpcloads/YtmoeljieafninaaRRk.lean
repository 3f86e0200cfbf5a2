/-
  The document's callee: answer, Take, Reply.
-/
import Derived.Test.YtmoeljieafninaaRRc
namespace Go.Proofs.Ytmoeljieafninaa
open Go.RowKit Go.ChangeShapes Go.WideShapes Go.ChangeAt
set_option linter.unusedVariables false
set_option linter.unusedSimpArgs false
set_option maxRecDepth 100000
def IsRK (w : World) (g : Nat) (f : Nat → Tk) : Prop := w.heap[g]? = some (.cells #[.int .i64 (f 0).st, .int .u32 (f 0).ep, .int .u32 (f 0).num, .string (f 0).body, .int .i64 (f 1).st, .int .u32 (f 1).ep, .int .u32 (f 1).num, .string (f 1).body, .int .i64 (f 2).st, .int .u32 (f 2).ep, .int .u32 (f 2).num, .string (f 2).body, .int .i64 (f 3).st, .int .u32 (f 3).ep, .int .u32 (f 3).num, .string (f 3).body] 70 (0, 0))
theorem IsRK.at0 {w : World} {g : Nat} {f : Nat → Tk} (h : IsRK w g f) : w.cell? ⟨g, 0, none⟩ = some (.int .i64 (f 0).st) ∧ w.cell? ⟨g, 1, none⟩ = some (.int .u32 (f 0).ep) ∧ w.cell? ⟨g, 2, none⟩ = some (.int .u32 (f 0).num) ∧ w.cell? ⟨g, 3, none⟩ = some (.string (f 0).body) := by
  unfold IsRK at h
  refine ⟨?_, ?_, ?_, ?_⟩
  all_goals simp [World.cell?, h]
theorem IsRK.at1 {w : World} {g : Nat} {f : Nat → Tk} (h : IsRK w g f) : w.cell? ⟨g, 4, none⟩ = some (.int .i64 (f 1).st) ∧ w.cell? ⟨g, 5, none⟩ = some (.int .u32 (f 1).ep) ∧ w.cell? ⟨g, 6, none⟩ = some (.int .u32 (f 1).num) ∧ w.cell? ⟨g, 7, none⟩ = some (.string (f 1).body) := by
  unfold IsRK at h
  refine ⟨?_, ?_, ?_, ?_⟩
  all_goals simp [World.cell?, h]
theorem IsRK.at2 {w : World} {g : Nat} {f : Nat → Tk} (h : IsRK w g f) : w.cell? ⟨g, 8, none⟩ = some (.int .i64 (f 2).st) ∧ w.cell? ⟨g, 9, none⟩ = some (.int .u32 (f 2).ep) ∧ w.cell? ⟨g, 10, none⟩ = some (.int .u32 (f 2).num) ∧ w.cell? ⟨g, 11, none⟩ = some (.string (f 2).body) := by
  unfold IsRK at h
  refine ⟨?_, ?_, ?_, ?_⟩
  all_goals simp [World.cell?, h]
theorem IsRK.at3 {w : World} {g : Nat} {f : Nat → Tk} (h : IsRK w g f) : w.cell? ⟨g, 12, none⟩ = some (.int .i64 (f 3).st) ∧ w.cell? ⟨g, 13, none⟩ = some (.int .u32 (f 3).ep) ∧ w.cell? ⟨g, 14, none⟩ = some (.int .u32 (f 3).num) ∧ w.cell? ⟨g, 15, none⟩ = some (.string (f 3).body) := by
  unfold IsRK at h
  refine ⟨?_, ?_, ?_, ?_⟩
  all_goals simp [World.cell?, h]
theorem IsRK.fz {w : World} {g : Nat} {f : Nat → Tk} (h : IsRK w g f) (o : Nat) : w.frozen? ⟨g, o, none⟩ = false := by
  unfold IsRK at h; simp [World.frozen?, h]
theorem IsRK.out {S : Nat → Prop} {w w' : World} {g : Nat} {f : Nat → Tk} (h : IsRK w g f) (ho : Ou S w w') (hS : ¬ S g) : IsRK w' g f := by
  unfold IsRK at *; rw [ho.block g (lt_blkC h) hS]; exact h
theorem IsRK.later {w w' : World} {g : Nat} {f : Nat → Tk} (h : IsRK w g f) (hb : Below w.heap.size w w') : IsRK w' g f := h.out (S := fun _ => False) (Ou.of hb) id
theorem IsRK.lt {w : World} {g : Nat} {f : Nat → Tk} (h : IsRK w g f) : g < w.heap.size := lt_blkC h
set_option maxHeartbeats 400000 in
theorem rnewCallee_c (w : World) : Calls Try.prog 18 #[] w fun x w' => x = .returned (pC w.heap.size) ∧ IsRK w' w.heap.size (fun _ => ⟨0, 0, 0, ⟨#[]⟩⟩) ∧ Below w.heap.size w w' := by
  go_enter Try.func18, Try.ntmps18
  go_wp2
  go_ret
  exact ⟨rfl, heap_alloc_new w _, (Below.refl _ _).alloc (Nat.le_refl _) _⟩
set_option maxHeartbeats 2000000 in
theorem ranswer_1 {w : World} {g : Nat} {F : Nat → Tk} (h : IsRK w g F) :
    Calls Try.prog 27 #[pC g, .int .u8 1] w fun x w' => x = .returned (Fr.val ⟨2, 0, 1, (F 1).ep, (F 1).num, (F 1).body⟩) ∧ Below w.heap.size w w' := by
  obtain ⟨c0, c1, c2, c3⟩ := h.at1
  have hlt := h.lt
  have hne : ¬ g = w.heap.size := by omega
  clear h
  go_enter Try.func27, Try.ntmps27
  go_wp2
  exact bodyPost_ret (v := Fr.val ⟨2, 0, 1, (F 1).ep, (F 1).num, (F 1).body⟩) (by simp [results, Try.results27, go_sem, Fr.val]) rfl ⟨rfl, by first | exact ((Below.refl _ _).alloc (Nat.le_refl _) _).alloc (by simp) _ | exact ans_below w _ _ _ _ _ _⟩
set_option maxHeartbeats 2000000 in
theorem ranswer_2 {w : World} {g : Nat} {F : Nat → Tk} (h : IsRK w g F) :
    Calls Try.prog 27 #[pC g, .int .u8 2] w fun x w' => x = .returned (Fr.val ⟨2, 0, 2, (F 2).ep, (F 2).num, (F 2).body⟩) ∧ Below w.heap.size w w' := by
  obtain ⟨c0, c1, c2, c3⟩ := h.at2
  have hlt := h.lt
  have hne : ¬ g = w.heap.size := by omega
  clear h
  go_enter Try.func27, Try.ntmps27
  go_wp2
  exact bodyPost_ret (v := Fr.val ⟨2, 0, 2, (F 2).ep, (F 2).num, (F 2).body⟩) (by simp [results, Try.results27, go_sem, Fr.val]) rfl ⟨rfl, by first | exact ((Below.refl _ _).alloc (Nat.le_refl _) _).alloc (by simp) _ | exact ans_below w _ _ _ _ _ _⟩
set_option maxHeartbeats 2000000 in
theorem ranswer_3 {w : World} {g : Nat} {F : Nat → Tk} (h : IsRK w g F) :
    Calls Try.prog 27 #[pC g, .int .u8 3] w fun x w' => x = .returned (Fr.val ⟨2, 0, 3, (F 3).ep, (F 3).num, (F 3).body⟩) ∧ Below w.heap.size w w' := by
  obtain ⟨c0, c1, c2, c3⟩ := h.at3
  have hlt := h.lt
  have hne : ¬ g = w.heap.size := by omega
  clear h
  go_enter Try.func27, Try.ntmps27
  go_wp2
  exact bodyPost_ret (v := Fr.val ⟨2, 0, 3, (F 3).ep, (F 3).num, (F 3).body⟩) (by simp [results, Try.results27, go_sem, Fr.val]) rfl ⟨rfl, by first | exact ((Below.refl _ _).alloc (Nat.le_refl _) _).alloc (by simp) _ | exact ans_below w _ _ _ _ _ _⟩
end Go.Proofs.Ytmoeljieafninaa
