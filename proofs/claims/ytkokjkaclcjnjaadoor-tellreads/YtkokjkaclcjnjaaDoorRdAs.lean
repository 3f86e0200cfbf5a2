/-
  A node's bytes: putKid, putList, putNode, written, Node of the package record.
-/
import Derived.Test.YtkokjkaclcjnjaaDoorRdAr
import Derived.Test.YtkokjkaclcjnjaaDoorRdAg
namespace Go.Proofs.YtkokjkaclcjnjaaDoor
open Go.RowKit Go.ChangeShapes Go.WideShapes Go.ChangeAt
set_option linter.unusedVariables false
set_option linter.unusedSimpArgs false
set_option maxRecDepth 100000
def SmallK (l : List Kd) : Prop := ∀ x ∈ l, x.nm.size ≤ 100
theorem kidsTo_name {l : List Kd} : ∀ m, kidsTo l m = true → ∀ i, i < m → Pa.nameB (l.getD i Kd.no).nm.data.toList = true
 | 0, _, i, hi => by omega
 | m + 1, h, i, hi => by
   simp only [kidsTo, Bool.and_eq_true] at h
   by_cases e : i = m
   · subst e
     have := h.2
     unfold kOk at this
     simp only [Bool.and_eq_true] at this
     exact this.1.1
   · exact kidsTo_name m h.1 i (by omega)
theorem kname_size {s : ByteArray} (h : Pa.nameB s.data.toList = true) : s.size ≤ 12 := by
 by_cases q : 12 < s.size
 · rw [Pa.nameB_long s.data.toList (by show 12 < s.size; exact q)] at h
   cases h
 · omega
theorem node_small {x : Nd} (h : nodeOk x = true) : x.zs.length ≤ 64 ∧ x.ks.length ≤ 12 ∧ SmallK x.ks := by
 unfold nodeOk at h
 simp only [Bool.and_eq_true, Bool.not_eq_true', Bool.or_eq_false_iff, decide_eq_false_iff_not] at h
 obtain ⟨⟨⟨_, h1⟩, h2⟩, h3⟩ := h
 refine ⟨by omega, by omega, fun k hk => ?_⟩
 obtain ⟨i, hi, rfl⟩ := List.getElem_of_mem hk
 have g : x.ks.getD i Kd.no = x.ks[i] := by rw [List.getD, List.getElem?_eq_getElem hi]; rfl
 cases q : (x.k == 1 || x.k == 3) with
 | true =>
   rw [q] at h3
   simp only [cond_true, decide_eq_true_eq] at h3
   omega
 | false =>
   rw [q] at h3
   cases q2 : (x.k == 2) with
   | false => rw [q2] at h3; simp at h3
   | true =>
     rw [q2] at h3
     simp only [cond_false, cond_true, Bool.and_eq_true] at h3
     have := kname_size (kidsTo_name _ h3.2 i hi)
     rw [g] at this
     omega
end Go.Proofs.YtkokjkaclcjnjaaDoor
