/-
  The document's Line: its answer.
-/
import Derived.Test.YtkokjkaclcjnjaaDoorRdBa
namespace Go.Proofs.YtkokjkaclcjnjaaDoor
open Go.RowKit Go.ChangeShapes Go.WideShapes Go.ChangeAt
set_option linter.unusedVariables false
set_option linter.unusedSimpArgs false
set_option maxRecDepth 100000
theorem node_kind {x : Nd} (hr : nodeOk x = true) : x.k = 1 ∨ x.k = 2 ∨ x.k = 3 := by
 unfold nodeOk at hr
 simp only [Bool.and_eq_true] at hr
 have h3 := hr.2
 by_cases q1 : x.k = 1
 · exact .inl q1
 by_cases q2 : x.k = 2
 · exact .inr (.inl q2)
 by_cases q3 : x.k = 3
 · exact .inr (.inr q3)
 · simp [q1, q2, q3] at h3
theorem rline_ok (x : Nd) (w : World) (hx : x.Ok w) (hr : nodeOk x = true) (ht : TabW w) : Calls Tryd.prog 15 #[x.val] w fun e w' => e = .returned (.tuple #[.string ⟨(lineL x).toArray⟩, .int .i64 0]) ∧ Below w.heap.size w w' := by
 have hk := node_kind hr
 obtain ⟨f, k, m, l, da, dc, zs, ka, kc, ks⟩ := x
 simp only at hk
 rcases hk with rfl | rfl | rfl
 · exact rline_1 f m l da dc zs ka kc ks w hx hr ht
 · exact rline_2 f m l da dc zs ka kc ks w hx hr ht
 · exact rline_3 f m l da dc zs ka kc ks w hx hr ht
theorem rline_c (x : Nd) (w : World) (hx : x.Ok w) (ht : TabW w) : Calls Tryd.prog 15 #[x.val] w (LnP x w) := by
 cases hr : nodeOk x with
 | false => exact rline_no x w hx hr
 | true =>
   refine (rline_ok x w hx hr ht).mono ?_
   rintro e w' ⟨h1, h2⟩
   exact ⟨by rw [hr, if_pos rfl]; exact h1, h2⟩
end Go.Proofs.YtkokjkaclcjnjaaDoor
