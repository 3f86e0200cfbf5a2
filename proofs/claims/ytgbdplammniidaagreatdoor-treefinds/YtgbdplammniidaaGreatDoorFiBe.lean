/-
  The package tree: rename that can be done: what is needed of the goal.
-/
import Derived.Test.YtgbdplammniidaaGreatDoorFiAz
namespace Go.Proofs.YtgbdplammniidaaGreatDoor
open Go.RowKit Go.ChangeShapes Go.WideShapes Go.ChangeAt Go.Maps Go.Shelf
set_option linter.unusedVariables false
set_option linter.unusedSimpArgs false
set_option maxRecDepth 100000
theorem goal_get {N : Tab} {d t : Int} {p p4 : Addr} {x b : Nd} (n1 : N d = some (p, x)) (n4 : N t = some (p4, b)) (a : Option Addr) (c : Nat) (L : List Kd) : (updT N d p (x.kids a c L)) t = some (p4, goalN (decide (t = d)) x b a c L) := by
 unfold updT goalN
 by_cases e : t = d
 · rw [if_pos e, decide_eq_true e]
   rw [e, n1] at n4
   cases n4
   rfl
 · rw [if_neg e, decide_eq_false e]
   exact n4
theorem goal_ks (sm : Bool) (x b : Nd) (a : Option Addr) (c : Nat) (L : List Kd) : (goalN sm x b a c L).ks = bif sm then L else b.ks := by unfold goalN; cases sm <;> rfl
theorem goal_er {N : Tab} {d t : Int} {p p4 : Addr} {x b : Nd} (n1 : N d = some (p, x)) (n4 : N t = some (p4, b)) (a a' : Option Addr) (c c' : Nat) (L K : List Kd) : ((goalN (decide (t = d)) x b a c L).kids a' c' K).er = b.er.kids none 0 K := by
 unfold goalN
 by_cases e : t = d
 · rw [decide_eq_true e]
   rw [e, n1] at n4
   cases n4
   rfl
 · rw [decide_eq_false e]
   rfl
theorem less_get {N : Tab} {f g : Int} {p : Addr} {x : Nd} (h : g ≠ f) : lessT N f p x g = N g := by
 unfold lessT
 split
 · show (if g = f then none else N g) = N g
   rw [if_neg h]
 · show (if g = f then _ else N g) = N g
   rw [if_neg h]
theorem less_own {N : Tab} {f : Int} {p : Addr} {x : Nd} : lessT N f p x f = if x.ln = 1 then none else some (p, x.lnk (x.ln - 1)) := by
 unfold lessT
 split
 · show (if f = f then none else N f) = none
   rw [if_pos rfl]
 · show (if f = f then some (p, x.lnk (x.ln - 1)) else N f) = _
   rw [if_pos rfl]
theorem plE_ok {z y : Nd} (h : plE z y = 0) : (y.k = 2 ↔ z.k = 2) ∧ z.ks = [] := by
 unfold plE at h
 by_cases q1 : z.k = 2 ∧ y.k ≠ 2
 · rw [if_pos q1] at h; cases h
 · rw [if_neg q1] at h
   by_cases q2 : z.k ≠ 2 ∧ y.k = 2
   · rw [if_pos q2] at h; cases h
   · rw [if_neg q2] at h
     by_cases q3 : 0 < z.ks.length
     · rw [if_pos q3] at h; cases h
     · refine ⟨⟨fun a => ?_, fun a => ?_⟩, List.eq_nil_of_length_eq_zero (by omega)⟩
       · by_cases e : z.k = 2
         · exact e
         · exact absurd ⟨e, a⟩ q2
       · by_cases e : y.k = 2
         · exact e
         · exact absurd ⟨a, e⟩ q1
end Go.Proofs.YtgbdplammniidaaGreatDoor
