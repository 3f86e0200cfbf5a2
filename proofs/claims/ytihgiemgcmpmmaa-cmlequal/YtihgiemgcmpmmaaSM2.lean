/-
  What is right by itself, in both words. (Written by nodebase.py out of SnapMath.)
-/
import Derived.Test.YtihgiemgcmpmmaaDTM
namespace Go.Proofs.Ytihgiemgcmpmmaa
open Go.RowKit Go.ChangeShapes Go.WideShapes Go.ChangeAt Go.Maps
set_option linter.unusedVariables false
set_option linter.unusedSimpArgs false
set_option maxRecDepth 100000
/-- A tree's nodes are right by themselves. -/
theorem right_ok {l : List Nd} (h : RightP l) : ∀ x ∈ l, nodeOk x = true := by
  obtain ⟨h1, h2, h3, h4, h5, h6⟩ := h
  intro x hx
  obtain ⟨i, hi, rfl⟩ := List.getElem_of_mem hx
  have hg : l.getD i Nd.no = l[i] := by simp [List.getD, hi]
  have hf := upTo_pos2 h2 i hi
  rw [hg] at hf
  obtain ⟨ha, hh⟩ := h4 _ hx
  have hp : ∀ f p, N0 l f = some p → f ≠ 0 := fun f p e => by
    unfold N0 ndF at e
    cases hq : plTo l l.length f with
    | none => rw [hq] at e; cases e
    | some j =>
      obtain ⟨q1, q2⟩ := plTo_lt l _ hq
      have := upTo_pos2 h2 j q1
      omega
  generalize l[i] = y at *
  unfold nodeOk
  have f0 : (y.fid == 0) = false := beq_eq_false_iff_ne.2 (by omega)
  rw [f0]
  have h12 := alone_few ha
  unfold aloneB at ha
  cases q : (y.k == 1 || y.k == 3) with
  | true =>
    rw [q] at ha
    simp only [cond_true, Bool.and_eq_true, decide_eq_true_eq] at ha ⊢
    simp [ha.2]
    omega
  | false =>
    rw [q] at ha
    cases q2 : (y.k == 2) with
    | true =>
      rw [q2] at ha
      simp only [cond_false, cond_true, Bool.and_eq_true, decide_eq_true_eq] at ha ⊢
      have := kidsTo_of hp ha.2.2 hh
      have hk : kidsOk y.ks = true := this
      rw [hk]
      simp [ha.1]
      omega
    | false => rw [q2] at ha; cases ha
end Go.Proofs.Ytihgiemgcmpmmaa
