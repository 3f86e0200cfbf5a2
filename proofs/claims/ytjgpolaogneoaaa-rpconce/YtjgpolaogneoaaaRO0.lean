/-
  What is sent once: the calls of a caller that gives each of them up.
-/
import Derived.Test.YtjgpolaogneoaaaRRw
namespace Go.Proofs.Ytjgpolaogneoaaa
open Go.RowKit Go.ChangeShapes Go.WideShapes Go.ChangeAt
set_option linter.unusedVariables false
set_option linter.unusedSimpArgs false
set_option maxRecDepth 100000
/-- The packets that were sent: the k-th asks the call k + 1. -/
def Sent (ps : List Fr.Pk) : Prop := ∀ i (h : i < ps.length), ∃ b : ByteArray, ps[i] = ⟨1, 1, 0, 0, (i : Int) + 1, b⟩ ∧ b.size ≤ 16384
theorem Sent.nil : Sent [] := fun i h => absurd h (by simp)
theorem Sent.snoc {ps : List Fr.Pk} (h : Sent ps) (b : ByteArray) (hb : b.size ≤ 16384) : Sent (ps ++ [⟨1, 1, 0, 0, (ps.length : Int) + 1, b⟩]) := by
  intro i hi
  by_cases e : i < ps.length
  · rw [List.getElem_append_left e]; exact h i e
  · have e2 : i = ps.length := by simp at hi; omega
    subst e2
    exact ⟨b, by simp, hb⟩
theorem on_call {w : World} {g : Nat} (n : Int) (hC : IsC 73 w g ⟨1, 0, n, false, ⟨#[]⟩, 0, 0⟩) (h0 : 0 ≤ n) (h1 : n < 1000) (b : ByteArray) (hb : b.size ≤ 16384) :
    Calls Try.prog 14 #[pC g, .string b] w fun e w' => e = .returned (.int .i64 0) ∧ IsC 73 w' g ⟨1, 0, n + 1, true, b, 0, 0⟩ ∧ Ou (fun k => k = g) w w' := by
  have e1 : callE ⟨1, 0, n, false, ⟨#[]⟩, 0, 0⟩ b = 0 := by
    unfold callE
    rw [if_neg (by simp), if_neg (by omega), if_neg (by simp only; omega)]
  refine (call_c hC (wfc _ _ _ _ _ _ _ (by decide) (by decide) (by omega) (by decide) (by decide) (by decide)) b).mono ?_
  rintro x w' ⟨q1, q3, q4⟩
  unfold callS at q3
  rw [e1] at q1
  rw [e1, if_pos rfl] at q3
  exact ⟨q1, q3, q4⟩
theorem on_big {w : World} {g : Nat} (n : Int) (hC : IsC 73 w g ⟨1, 0, n, false, ⟨#[]⟩, 0, 0⟩) (h0 : 0 ≤ n) (h1 : n < 1000) (b : ByteArray) (hb : ¬ b.size ≤ 16384) :
    Calls Try.prog 14 #[pC g, .string b] w fun e w' => e = .returned (.int .i64 3) ∧ IsC 73 w' g ⟨1, 0, n, false, ⟨#[]⟩, 0, 0⟩ ∧ Ou (fun k => k = g) w w' := by
  have e1 : callE ⟨1, 0, n, false, ⟨#[]⟩, 0, 0⟩ b = 3 := by
    unfold callE
    rw [if_neg (by simp), if_pos (by omega)]
  refine (call_c hC (wfc _ _ _ _ _ _ _ (by decide) (by decide) (by omega) (by decide) (by decide) (by decide)) b).mono ?_
  rintro x w' ⟨q1, q3, q4⟩
  unfold callS at q3
  rw [e1] at q1
  rw [e1, if_neg (by decide)] at q3
  exact ⟨q1, q3, q4⟩
theorem on_tick {w : World} {g : Nat} (N : Int) (b : ByteArray) (hC : IsC 73 w g ⟨1, 0, N, true, b, 0, 0⟩) (h : 0 ≤ N) (h2 : N < 1000) (hb : b.size ≤ 16384) :
    Calls Try.prog 15 #[pC g, .int .u64 0] w fun e w' => e = .returned (.tuple #[.agg #[.int .u8 1, .int .u8 1, .int .u8 0, .int .u32 0, .int .u32 N, .string b], .bool true]) ∧ IsC 73 w' g ⟨1, 0, N, true, b, 1, 0⟩ ∧ Ou (fun k => k = g) w w' :=
  (tick_c hC (wfc _ _ _ _ _ _ _ (by decide) (by decide) (by omega) (by decide) (by decide) hb) 0 (by decide) (by decide)).mono fun e w' q => q
theorem on_cancel {w : World} {g : Nat} (N : Int) (b : ByteArray) (hC : IsC 73 w g ⟨1, 0, N, true, b, 1, 0⟩) :
    Calls Try.prog 16 #[pC g] w fun e w' => e = .returned (.int .i64 0) ∧ IsC 73 w' g ⟨1, 0, N, false, ⟨#[]⟩, 0, 0⟩ ∧ Ou (fun k => k = g) w w' :=
  (cancel_c hC).mono fun e w' q => q
end Go.Proofs.Ytjgpolaogneoaaa
